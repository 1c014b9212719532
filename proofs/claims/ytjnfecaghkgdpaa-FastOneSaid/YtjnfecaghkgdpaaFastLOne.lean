/-
  The walk of latchgarthlaw2.FastOne: it answers true, whatever the number of hands and the script.
-/
import Derived.Test.YtjnfecaghkgdpaaFastFact
namespace Go.Proofs.Ytjnfecaghkgdpaa.Fast
open Go.RowKit

/-- How many of the first q hands are in. -/
def cntP (n : Nat) (s : LSt) : Nat → Nat
  | 0 => 0
  | q + 1 => cntP n s q + if lkAt n s q = 12 then 1 else 0
theorem cntP_pos (n : Nat) (s : LSt) : ∀ q, cntP n s q ≤ q
  | 0 => by simp [cntP]
  | q + 1 => by
    have := cntP_pos n s q
    simp only [cntP]
    split <;> omega
theorem cntP_zero {n : Nat} {s : LSt} : ∀ q, (∀ p : Nat, p < q → lkAt n s p ≠ 12) → cntP n s q = 0
  | 0, _ => rfl
  | q + 1, h => by rw [cntP, cntP_zero q fun p hp => h p (by omega), if_neg (h q (by omega))]
theorem cntP_le {n : Nat} {s : LSt} (h : ∀ p q : Nat, p < n → q < n → lkAt n s p = 12 → lkAt n s q = 12 → p = q) : ∀ q, q ≤ n → cntP n s q ≤ 1
  | 0, _ => by simp [cntP]
  | q + 1, hq => by
    rw [cntP]
    split
    · rename_i e
      rw [cntP_zero q fun p hp e2 => by have := h p q (by omega) (by omega) e2 e; omega]
      exact Nat.le_refl _
    · exact cntP_le h q (by omega)
theorem cntP_in {n : Nat} {s : LSt} {q : Nat} (h : lkAt n s q = 12) : cntP n s (q + 1) = cntP n s q + 1 := by simp [cntP, h]
theorem cntP_out {n : Nat} {s : LSt} {q : Nat} (h : ¬ lkAt n s q = 12) : cntP n s (q + 1) = cntP n s q := by simp [cntP, h]

set_option maxHeartbeats 2000000 in
theorem one_law (z : Int) (sv : Value) (script : List Int) (w : World) (hn : Nums w w.heap.size sv script) :
    Calls Try.prog 3 #[.int .i64 z, sv] w fun e w' => e = .returned (.bool true) ∧ Below w.heap.size w w' := by
  obtain ⟨A, c, rfl, hlen, hn⟩ := hn
  have HN := Lib.hid hn
  clear hn
  by_cases hz : 1 ≤ z ∧ z ≤ 4
  · obtain ⟨n, rfl⟩ := Int.eq_ofNat_of_zero_le (show 0 ≤ z by omega)
    have h1 : 1 ≤ n := by omega
    have h4 : n ≤ 4 := by omega
    clear hz
    go_enter Try.func3, Try.ntmps3
    go_wp2_with (first | (go_at_call 6; refine (fact_any _).mono ?_; rintro e w1 ⟨rfl, hb⟩; have HB := Lib.hid hb; clear hb) | (go_at_call 7; refine (newL HB.out h1 h4).mono ?_; rintro e w2 ⟨g, rfl, hl⟩; have HL := Lib.hid hl; clear hl))
    go_loopw [8] (fun i wr => ∃ (k : Nat) (s : LSt), k ≤ script.length ∧ i = .int .i64 k ∧ k ≤ 400 ∧ LkAt w wr g n s k) (fun i _ => script.length - (intOf i).toNat)
    case atStart => exact ⟨0, _, by omega, rfl, by omega, HL.out⟩
    case round =>
      clear HL
      obtain ⟨k, s, hk, rfl, hk4, hl⟩ := hrel
      have HL := Lib.hid hl
      by_cases hlt : k < script.length
      · have hI : (k : Int) < script.length := by omega
        by_cases h400 : k < 400
        · have h4I : (k : Int) < 400 := by omega
          obtain ⟨b, o, rfl, hbb, hcc⟩ := HN.out (by omega)
          obtain ⟨x, hx⟩ : ∃ x, script[k]? = some x := ⟨script[k], List.getElem?_eq_getElem hlt⟩
          have hxc := (hl.below.cell (p := ⟨b, o + k, none⟩) hbb).trans (hcc k x hx)
          have HX := Lib.hid hx
          clear hcc hx hl
          go_wp2_with (go_at_call 8; (with_reducible refine (stepL HL.out (by omega) x).mono ?_); rintro e w3 ⟨rfl, hl⟩; have H3 := Lib.hid hl; clear hl)
          obtain ⟨s3, hs3⟩ : ∃ s3, s3 = lkStep n s x := ⟨_, rfl⟩
          rw [← hs3] at H3
          have hle := cntP_le (lk_one H3.out.ok) n (Nat.le_refl _)
          have hle2 : decide (1 < ((cntP n s3 n : Nat) : Int)) = false := decide_eq_false (by omega)
          have HLE := Lib.hid hle2
          clear hs3 hle hle2
          go_loopw [9, 10] (fun m q wr => ∃ j : Nat, j ≤ n ∧ q = .int .i64 j ∧ m = .int .i64 (cntP n s3 j : Nat) ∧ wr = w3) (fun _ q _ => n - (intOf q).toNat)
          case atStart => exact ⟨0, by omega, rfl, rfl, rfl⟩
          case round =>
            obtain ⟨j, hj, rfl, rfl, rfl⟩ := hrel
            by_cases hj2 : j < n
            · have hjI : (j : Int) < n := by omega
              have hp := cntP_pos n s3 j
              have HA := Lib.hid (atL H3.out j)
              by_cases h5 : lkAt n s3 j = 12
              · have e5 : (((lkAt n s3 j : Nat) : Int) == 12) = true := beq_iff_eq.2 (by omega)
                have H5 := Lib.hid h5
                have hw1 : IntKind.i64.wrap (((cntP n s3 j : Nat) : Int) + 1) = ((cntP n s3 j : Nat) : Int) + 1 := IntWalk.i64_in _ (by omega)
                clear h5 hp
                go_wp2_with (go_at_call 9; (with_reducible refine HA.out.mono ?_); rintro e w4 ⟨rfl, rfl⟩)
                go_roundw
                case rel => exact ⟨j + 1, by omega, by go_num, by rw [cntP_in H5.out]; go_num, trivial⟩
                case measure => simp [intOf]; omega
              · have e5 : (((lkAt n s3 j : Nat) : Int) == 12) = false := beq_eq_false_iff_ne.2 (by omega)
                have H5 := Lib.hid h5
                clear h5 hp
                go_wp2_with (go_at_call 9; (with_reducible refine HA.out.mono ?_); rintro e w4 ⟨rfl, rfl⟩)
                go_roundw
                case rel => exact ⟨j + 1, by omega, by go_num, by rw [cntP_out H5.out], trivial⟩
                case measure => simp [intOf]; omega
            · obtain rfl : j = n := by omega
              have hle := HLE.out
              go_wp2
              go_roundw
              case rel => exact ⟨k + 1, s3, by omega, by go_num, by omega, H3.out⟩
              case measure => simp [intOf]; omega
        · have h4I : ¬ (k : Int) < 400 := by omega
          go_wp2
          go_ret
          exact ⟨rfl, HL.out.below⟩
      · have hI : ¬ (k : Int) < script.length := by omega
        go_wp2
        go_ret
        exact ⟨rfl, HL.out.below⟩
  · have HZ := Lib.hid hz
    by_cases hz1 : z < 1
    all_goals
      clear hz
      go_enter Try.func3, Try.ntmps3
      go_wp2_with (first | (go_at_call 6; refine (fact_any _).mono ?_; rintro e w1 ⟨rfl, hb⟩; have HB := Lib.hid hb; clear hb) | (go_at_call 7; refine (newBad HB.out z HZ.out).mono ?_; rw [errV_one]; rintro e w2 ⟨rfl, hb⟩; have HB2 := Lib.hid hb; clear hb))
      go_ret
      first | exact ⟨rfl, HB2.out⟩ | exact ⟨congrArg (fun b => Ending.returned (.bool b)) (bad_true HZ.out), HB2.out⟩
end Go.Proofs.Ytjnfecaghkgdpaa.Fast
