/-
  The walk of latchgarthlaw2.FilterDoors: it answers true, whatever the number of hands and the script.
-/
import Derived.Test.YtjaiifgoaepdpaaFltFact
namespace Go.Proofs.Ytjaiifgoaepdpaa.Filter
open Go.RowKit

theorem lkWords_len (n : Nat) (s : LSt) : (lkWords n s).length = 2 * n := by simp [lkWords]; omega
theorem lkWords_low {n : Nat} (s : LSt) {q : Nat} (hq : q < n) : (lkWords n s)[q]? = some ((s.l q : Nat) : Int) := by
  rw [lkWords, List.getElem?_append_left (by simpa using hq)]
  simp [hq]
theorem fcnt_in {P : Nat → Bool} {q : Nat} (h : P q = true) : fcnt P (q + 1) = fcnt P q + 1 := by rw [fcnt, if_pos h]
theorem fcnt_out {P : Nat → Bool} {q : Nat} (h : P q = false) : fcnt P (q + 1) = fcnt P q := by rw [fcnt, if_neg (by rw [h]; decide)]; rfl

set_option maxHeartbeats 2000000 in
theorem doors_law (z : Int) (sv : Value) (script : List Int) (w : World) (hn : Nums w w.heap.size sv script) :
    Calls Try.prog 5 #[.int .i64 z, sv] w fun e w' => e = .returned (.bool true) ∧ Below w.heap.size w w' := by
  obtain ⟨A, c, rfl, hlen, hn⟩ := hn
  have HN := Lib.hid hn
  clear hn
  by_cases hz : 1 ≤ z ∧ z ≤ 4
  · obtain ⟨n, rfl⟩ := Int.eq_ofNat_of_zero_le (show 0 ≤ z by omega)
    have h1 : 1 ≤ n := by omega
    have h4 : n ≤ 4 := by omega
    have hw2 : IntKind.i64.wrap (2 * (n : Int)) = 2 * (n : Int) := IntWalk.i64_in _ (by omega)
    clear hz
    go_enter Try.func5, Try.ntmps5
    go_wp2_with (first | (go_at_call 6; refine (fact_any _).mono ?_; rintro e w1 ⟨rfl, hb⟩; have HB := Lib.hid hb; clear hb) | (go_at_call 7; refine (newL HB.out h1 h4).mono ?_; rintro e w2 ⟨g, rfl, hl⟩; have HL := Lib.hid hl; clear hl))
    go_loopw [8] (fun i wr => ∃ (k : Nat) (s : LSt), k ≤ script.length ∧ i = .int .i64 k ∧ LkAt w wr g n s) (fun i _ => script.length - (intOf i).toNat)
    case atStart => exact ⟨0, _, by omega, rfl, HL.out⟩
    case round =>
      clear HL
      obtain ⟨k, s, hk, rfl, hl⟩ := hrel
      have HL := Lib.hid hl
      by_cases hlt : k < script.length
      · have hI : (k : Int) < script.length := by omega
        by_cases h400 : k < 400
        · have h4I : (k : Int) < 400 := by omega
          obtain ⟨b, o, rfl, hbb, hcc⟩ := HN.out (by omega)
          obtain ⟨x, hx⟩ : ∃ x, script[k]? = some x := ⟨script[k], List.getElem?_eq_getElem hlt⟩
          have hxc := (hl.below.cell (p := ⟨b, o + k, none⟩) hbb).trans (hcc k x hx)
          have HX := Lib.hid hx
          clear hcc hx hl
          go_wp2_with (first | (go_at_call 8; (with_reducible refine (stepL HL.out x).mono ?_); rintro e w3 ⟨rfl, hl⟩; have H3 := Lib.hid hl; clear hl) | (go_at_call 10; (with_reducible refine (wordsL H3.out).mono ?_); rintro e w4 ⟨v, rfl, hnw, hl4, -⟩; obtain ⟨A4, c4, rfl, -, hnw⟩ := hnw; rw [lkWords_len] at hnw; rw [lkWords_len]; have H4 := Lib.hid hl4; obtain ⟨b4, o4, rfl, -, hw4⟩ := hnw (by omega); have HW4 := Lib.hid hw4; clear hl4 hnw hw4))
          obtain ⟨s3, hs3⟩ : ∃ s3, s3 = lkStep n s x := ⟨_, rfl⟩
          rw [← hs3] at H4 HW4
          clear hs3 H3
          go_loopw [10] (fun j wr => ∃ d : Nat, 1 ≤ d ∧ d ≤ n ∧ j = .int .i64 d ∧ wr = w4) (fun j _ => n - (intOf j).toNat)
          case atStart => exact ⟨1, by omega, h1, rfl, rfl⟩
          case round =>
            obtain ⟨d, hd1, hd2, rfl, rfl⟩ := hrel
            by_cases hdn : d < n
            · have hdI : (d : Int) < n := by omega
              have hle : fcnt (fun i => decide (d < s3.l i)) n ≤ n - d := FOk.told H4.out.ok d hdn
              have hle2 : decide ((n : Int) - (d : Int) < ((fcnt (fun i => decide (d < s3.l i)) n : Nat) : Int)) = false := decide_eq_false (by omega)
              have hws : IntKind.i64.wrap ((n : Int) - (d : Int)) = (n : Int) - (d : Int) := IntWalk.i64_in _ (by omega)
              have HLE := Lib.hid hle2
              clear hle hle2
              obtain ⟨F, hF⟩ : ∃ F, F = fcnt (fun i => decide (d < s3.l i)) := ⟨_, rfl⟩
              rw [← hF] at HLE
              have HF := Lib.hid hF
              clear hF
              go_wp2
              go_loopw [11, 12] (fun m q wq => ∃ j : Nat, j ≤ n ∧ q = .int .i64 j ∧ m = .int .i64 (F j : Nat) ∧ wq = wr) (fun _ q _ => n - (intOf q).toNat)
              case atStart => exact ⟨0, by omega, rfl, by rw [HF.out]; rfl, rfl⟩
              case round =>
                obtain ⟨j, hj, rfl, rfl, rfl⟩ := hrel
                by_cases hj2 : j < n
                · have hjI : (j : Int) < n := by omega
                  have hj2n : (j : Int) < 2 * (n : Int) := by omega
                  have hp : F j ≤ j := by rw [HF.out]; exact fcnt_le _ j
                  have hcj := HW4.out j _ (lkWords_low s3 hj2)
                  by_cases h5 : d < s3.l j
                  · have e5 : (d : Int) < ((s3.l j : Nat) : Int) := by omega
                    have H5 := Lib.hid (show F (j + 1) = F j + 1 by rw [HF.out]; exact fcnt_in (decide_eq_true h5))
                    have hw1 : IntKind.i64.wrap (((F j : Nat) : Int) + 1) = ((F j : Nat) : Int) + 1 := IntWalk.i64_in _ (by omega)
                    clear h5 hp
                    go_wp2
                    go_roundw
                    case rel => exact ⟨j + 1, by omega, by go_num, by rw [H5.out]; go_num, trivial⟩
                    case measure => simp [intOf]; omega
                  · have e5 : ¬ (d : Int) < ((s3.l j : Nat) : Int) := by omega
                    have H5 := Lib.hid (show F (j + 1) = F j by rw [HF.out]; exact fcnt_out (decide_eq_false h5))
                    clear h5 hp
                    go_wp2
                    go_roundw
                    case rel => exact ⟨j + 1, by omega, by go_num, by rw [H5.out], trivial⟩
                    case measure => simp [intOf]; omega
                · obtain rfl : j = n := by omega
                  have hle := HLE.out
                  have hjI : ¬ (j : Int) < j := by omega
                  go_wp2
                  go_roundw
                  case rel => exact ⟨d + 1, by omega, by omega, by go_num, trivial⟩
                  case measure => simp [intOf]; omega
            · have hdI : ¬ (d : Int) < n := by omega
              go_wp2
              go_roundw
              case rel => exact ⟨k + 1, s3, by omega, by go_num, H4.out⟩
              case measure => simp [intOf]; omega
        · have h4I : ¬ (k : Int) < 400 := by omega
          go_wp2
          go_ret
          exact ⟨rfl, HL.out.below⟩
      · have hI : ¬ (k : Int) < script.length := by omega
        go_wp2
        go_ret
        exact ⟨rfl, HL.out.below⟩
  · have HZ := Lib.hid hz
    by_cases hz1 : z < 1
    all_goals
      clear hz
      go_enter Try.func5, Try.ntmps5
      go_wp2_with (first | (go_at_call 6; refine (fact_any _).mono ?_; rintro e w1 ⟨rfl, hb⟩; have HB := Lib.hid hb; clear hb) | (go_at_call 7; refine (newBad HB.out z HZ.out).mono ?_; rw [errV_one]; rintro e w2 ⟨rfl, hb⟩; have HB2 := Lib.hid hb; clear hb))
      go_ret
      first | exact ⟨rfl, HB2.out⟩ | exact ⟨congrArg (fun b => Ending.returned (.bool b)) (bad_true HZ.out), HB2.out⟩
end Go.Proofs.Ytjaiifgoaepdpaa.Filter
