/-
  The closed fact of the laws of package split.
-/
import Derived.Test.YthainkgpafbjcaaSplitLkN
namespace Go.Proofs.Ythainkgpafbjcaa.Split
open Go.RowKit

theorem bad_true {z : Int} (h : ¬ (1 ≤ z ∧ z ≤ 4)) : (decide (z < 1) || decide (4 < z)) = true := by
  simp only [Bool.or_eq_true, decide_eq_true_eq]; omega
/-- Where the grid stands in the closed fact. -/
def pfc : Nat → LSt
  | 0 => lkNew 3
  | k + 1 => lkStep 3 (pfc k) 2
theorem pfc_in : lkName 3 (pfc 4) 2 = 0 ∧ lkName 3 (pfc 4) 0 = -1 := by decide +kernel

set_option maxHeartbeats 1000000 in
theorem fact_any (w : World) : Calls Try.prog 4 #[] w fun e w' => e = .returned (.bool true) ∧ Below w.heap.size w w' := by
  go_enter Try.func4, Try.ntmps4
  go_wp2_with (go_at_call 5; refine (newL (n := 3) (Below.refl _ _) (by omega) (by omega)).mono ?_; rintro e w1 ⟨g, rfl, hl⟩; have HL := Lib.hid hl; clear hl)
  go_loopw [3] (fun i wr => ∃ k : Nat, k ≤ 4 ∧ i = .int .i64 k ∧ LkAt w wr g 3 (pfc k) k) (fun i _ => 4 - (intOf i).toNat)
  case atStart => exact ⟨0, by omega, rfl, HL.out⟩
  case round =>
    clear HL
    obtain ⟨k, hk, rfl, hl⟩ := hrel
    have HL := Lib.hid hl
    clear hl
    by_cases hK : k < 4
    · have h4I : (k : Int) < 4 := by omega
      have HS := Lib.hid (show lkStep 3 (pfc k) 2 = pfc (k + 1) from rfl)
      go_wp2_with (go_at_call 6; (with_reducible refine (stepG HL.out (by omega) 2 (by omega) (by omega)).mono ?_); rw [HS.out]; rintro e w2 ⟨rfl, hl, -⟩; have H2 := Lib.hid hl; clear hl)
      go_roundw
      case rel => exact ⟨k + 1, by omega, by go_num, H2.out⟩
      case measure => simp [intOf]; omega
    · obtain rfl : k = 4 := by omega
      go_wp2_with (first | (go_at_call 8; (with_reducible refine (nameL HL.out 2).mono ?_); rw [pfc_in.1]; rintro e w3 ⟨rfl, h3, -⟩; have H3 := Lib.hid h3; clear h3) | (go_at_call 8; (with_reducible refine (nameL H3.out 0).mono ?_); rw [pfc_in.2]; rintro e w4 ⟨rfl, h4, -⟩; have H4 := Lib.hid h4; clear h4))
      go_ret
      exact ⟨rfl, H4.out.below⟩
end Go.Proofs.Ythainkgpafbjcaa.Split
