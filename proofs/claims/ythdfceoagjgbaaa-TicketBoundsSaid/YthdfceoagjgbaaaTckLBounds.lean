/-
  The walk of latchgarthlaw2.TicketBounds: it answers true, whatever the number of hands and the script.
-/
import Derived.Test.YthdfceoagjgbaaaTckFact
namespace Go.Proofs.Ythdfceoagjgbaaa.Ticket
open Go.RowKit

/-- How many of the first q hands have a ticket. -/
def hasT (s : LSt) (q : Nat) : Nat := tcnt (fun q => decide (s.a q ≠ 1)) q
theorem hasT_le (s : LSt) (q : Nat) : hasT s q ≤ q := by
  unfold hasT
  induction q with
  | zero => exact Nat.le_refl _
  | succ m ih => unfold tcnt; split <;> omega
theorem hasT_in {s : LSt} {q : Nat} (h : s.a q ≠ 1) : hasT s (q + 1) = hasT s q + 1 := by simp [hasT, tcnt, h]
theorem hasT_out {s : LSt} {q : Nat} (h : ¬ s.a q ≠ 1) : hasT s (q + 1) = hasT s q := by simp [hasT, tcnt, h]
theorem hasT_all {n : Nat} {s : LSt} (h : lkOk n s) : s.nx = s.nw + hasT s n := by
  obtain ⟨Q, h⟩ := h
  unfold hasT
  rw [h.cnt, h.len]

set_option maxRecDepth 100000 in
set_option maxHeartbeats 4000000 in
theorem bounds_law (z : Int) (sv : Value) (script : List Int) (w : World) (hn : Nums w w.heap.size sv script) :
    Calls Try.prog 6 #[.int .i64 z, sv] w fun e w' => e = .returned (.bool true) ∧ Below w.heap.size w w' := by
  obtain ⟨A, c, rfl, hlen, hn⟩ := hn
  have HN := Lib.hid hn
  clear hn
  by_cases hz : 1 ≤ z ∧ z ≤ 4
  · obtain ⟨n, rfl⟩ := Int.eq_ofNat_of_zero_le (show 0 ≤ z by omega)
    have h1 : 1 ≤ n := by omega
    have h4 : n ≤ 4 := by omega
    clear hz
    go_enter Try.func6, Try.ntmps6
    go_wp2_with (first | (go_at_call 7; refine (fact_any _).mono ?_; rintro e w1 ⟨rfl, hb⟩; have HB := Lib.hid hb; clear hb) | (go_at_call 8; refine (newL HB.out h1 h4).mono ?_; rintro e w2 ⟨g, rfl, hl⟩; have HL := Lib.hid hl; clear hl))
    go_loopw [8] (fun i wr => ∃ (k : Nat) (s : LSt), k ≤ script.length ∧ i = .int .i64 k ∧ k ≤ 400 ∧ LkAt w wr g n s k) (fun i _ => script.length - (intOf i).toNat)
    case atStart => exact ⟨0, _, by omega, rfl, by omega, HL.out⟩
    case round =>
      clear HL
      obtain ⟨k, s, hk, rfl, hk4, hl⟩ := hrel
      have HL := Lib.hid hl
      by_cases hlt : k < script.length
      · have hI : (k : Int) < script.length := by omega
        by_cases h400 : k < 400
        · have h4I : (k : Int) < 400 := by omega
          obtain ⟨b, o, rfl, hbb, hcc⟩ := HN.out (by omega)
          obtain ⟨x, hx⟩ : ∃ x, script[k]? = some x := ⟨script[k], List.getElem?_eq_getElem hlt⟩
          have hxc := (hl.below.cell (p := ⟨b, o + k, none⟩) hbb).trans (hcc k x hx)
          have HX := Lib.hid hx
          clear hcc hx hl
          go_wp2_with (first | (go_at_call 9; (with_reducible refine (stepL HL.out (by omega) x).mono ?_); rintro e w3 ⟨rfl, hl⟩; have H3 := Lib.hid hl; clear hl) | (go_at_call 12; (with_reducible refine (wordsL H3.out).mono ?_); rintro e w4 ⟨v, rfl, hnw, hl4, -⟩; obtain ⟨A4, c4, rfl, -, hnw⟩ := hnw; rw [show (lkWords n (lkStep n s x)).length = 2 from rfl] at hnw; rw [show (lkWords n (lkStep n s x)).length = 2 from rfl]; have H4 := Lib.hid hl4; obtain ⟨b4, o4, rfl, -, hw4⟩ := hnw (by omega); have HW4 := Lib.hid hw4; clear hl4 hnw hw4))
          obtain ⟨s3, hs3⟩ : ∃ s3, s3 = lkStep n s x := ⟨_, rfl⟩
          rw [← hs3] at H4 HW4
          clear hs3 H3
          have c0 : w4.cell? ⟨b4, o4, none⟩ = some (.int .i64 s3.nx) := HW4.out 0 _ rfl
          have c1 : w4.cell? ⟨b4, o4 + 1, none⟩ = some (.int .i64 s3.nw) := HW4.out 1 _ rfl
          have hall := hasT_all H4.out.ok
          have hle := hasT_le s3 n
          have hfit : s3.nx ≤ k + 1 := H4.out.fit
          have hws : IntKind.i64.wrap ((s3.nx : Int) - (s3.nw : Int)) = ((hasT s3 n : Nat) : Int) := (IntWalk.i64_in _ (by omega)).trans (by omega)
          have hne : (((hasT s3 n : Nat) : Int) != ((hasT s3 n : Nat) : Int)) = false := by simp
          have C0 := Lib.hid c0
          have C1 := Lib.hid c1
          have HWS := Lib.hid hws
          clear hall hle hfit c0 c1 hws HW4
          go_loopw [10, 11] (fun m q wr => ∃ j : Nat, j ≤ n ∧ q = .int .i64 j ∧ m = .int .i64 (hasT s3 j : Nat) ∧ wr = w4) (fun _ q _ => n - (intOf q).toNat)
          case atStart => exact ⟨0, by omega, rfl, rfl, rfl⟩
          case round =>
            obtain ⟨j, hj, rfl, rfl, rfl⟩ := hrel
            by_cases hj2 : j < n
            · have hjI : (j : Int) < n := by omega
              have hp := hasT_le s3 j
              have HA := Lib.hid (atL H4.out j)
              rw [lkAt_in hj2] at HA
              by_cases h5 : s3.a j ≠ 1
              · have e5 : (((s3.a j : Nat) : Int) != 1) = true := by simp; omega
                have H5 := Lib.hid h5
                have hw1 : IntKind.i64.wrap (((hasT s3 j : Nat) : Int) + 1) = ((hasT s3 j : Nat) : Int) + 1 := IntWalk.i64_in _ (by omega)
                clear h5 hp
                go_wp2_with (go_at_call 10; (with_reducible refine HA.out.mono ?_); rintro e w4 ⟨rfl, rfl⟩)
                go_roundw
                case rel => exact ⟨j + 1, by omega, by go_num, by rw [hasT_in H5.out]; go_num, trivial⟩
                case measure => simp [intOf]; omega
              · have e5 : (((s3.a j : Nat) : Int) != 1) = false := by simp; omega
                have H5 := Lib.hid h5
                clear h5 hp
                go_wp2_with (go_at_call 10; (with_reducible refine HA.out.mono ?_); rintro e w4 ⟨rfl, rfl⟩)
                go_roundw
                case rel => exact ⟨j + 1, by omega, by go_num, by rw [hasT_out H5.out], trivial⟩
                case measure => simp [intOf]; omega
            · obtain rfl : j = n := by omega
              have c0 := C0.out
              have c1 := C1.out
              have hws := HWS.out
              go_wp2
              go_quiet (fail)
              go_wp2
              go_roundw
              case rel => exact ⟨k + 1, s3, by omega, by go_num, by omega, H4.out.on (below_drewN (Below.refl _ _) _) (Nat.le_refl _)⟩
              case measure => simp [intOf]; omega
        · have h4I : ¬ (k : Int) < 400 := by omega
          go_wp2
          go_ret
          exact ⟨rfl, HL.out.below⟩
      · have hI : ¬ (k : Int) < script.length := by omega
        go_wp2
        go_ret
        exact ⟨rfl, HL.out.below⟩
  · have HZ := Lib.hid hz
    by_cases hz1 : z < 1
    all_goals
      clear hz
      go_enter Try.func6, Try.ntmps6
      go_wp2_with (first | (go_at_call 7; refine (fact_any _).mono ?_; rintro e w1 ⟨rfl, hb⟩; have HB := Lib.hid hb; clear hb) | (go_at_call 8; refine (newBad HB.out z HZ.out).mono ?_; rw [errV_one]; rintro e w2 ⟨rfl, hb⟩; have HB2 := Lib.hid hb; clear hb))
      go_ret
      first | exact ⟨rfl, HB2.out⟩ | exact ⟨congrArg (fun b => Ending.returned (.bool b)) (bad_true HZ.out), HB2.out⟩
end Go.Proofs.Ythdfceoagjgbaaa.Ticket
