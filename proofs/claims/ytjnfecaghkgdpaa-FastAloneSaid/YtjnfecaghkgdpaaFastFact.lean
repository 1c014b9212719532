/-
  The closed fact of the laws of package fast.
-/
import Derived.Test.YtjnfecaghkgdpaaFastLkN
namespace Go.Proofs.Ytjnfecaghkgdpaa.Fast
open Go.RowKit

theorem bad_true {z : Int} (h : ¬ (1 ≤ z ∧ z ≤ 4)) : (decide (z < 1) || decide (4 < z)) = true := by
  simp only [Bool.or_eq_true, decide_eq_true_eq]; omega
/-- Where the lock stands in the closed fact. -/
def pfc : Nat → LSt
  | 0 => lkNew 2
  | k + 1 => lkStep 2 (pfc k) 1
theorem pfc_out : ∀ k, k + 1 < 5 → ((lkAt 2 (pfc (k + 1)) 1 : Nat) == 12) = false := by
  intro k hk
  have : k < 5 := by omega
  revert hk
  revert k
  decide +kernel
theorem pfc_in : lkAt 2 (pfc 5) 1 = 12 ∧ lkAt 2 (pfc 5) 0 = 1 := by decide +kernel

set_option maxHeartbeats 1000000 in
theorem fact_any (w : World) : Calls Try.prog 6 #[] w fun e w' => e = .returned (.bool true) ∧ Below w.heap.size w w' := by
  go_enter Try.func6, Try.ntmps6
  go_wp2_with (go_at_call 7; refine (newL (n := 2) (Below.refl _ _) (by omega) (by omega)).mono ?_; rintro e w1 ⟨g, rfl, hl⟩; have HL := Lib.hid hl; clear hl)
  go_loopw [3] (fun i wr => ∃ k : Nat, k < 5 ∧ i = .int .i64 k ∧ LkAt w wr g 2 (pfc k) k) (fun i _ => 12 - (intOf i).toNat)
  case atStart => exact ⟨0, by omega, rfl, HL.out⟩
  case round =>
    clear HL
    obtain ⟨k, hk, rfl, hl⟩ := hrel
    have HL := Lib.hid hl
    clear hl
    have h12 : (k : Int) < 12 := by omega
    have HS := Lib.hid (show lkStep 2 (pfc k) 1 = pfc (k + 1) from rfl)
    by_cases hK : k + 1 < 5
    · have ho : (((lkAt 2 (pfc (k + 1)) 1 : Nat) : Int) == 12) = false := by
        have := pfc_out k hK
        simp only [beq_eq_false_iff_ne, ne_eq] at this ⊢
        omega
      go_wp2_with (first | (go_at_call 8; (with_reducible refine (stepG HL.out (by omega) 1 (by omega) (by omega)).mono ?_); rw [HS.out]; rintro e w2 ⟨rfl, hl, -⟩; have H2 := Lib.hid hl; clear hl) | (go_at_call 9; (with_reducible refine (atL H2.out 1).mono ?_); rintro e w3 ⟨rfl, rfl⟩))
      go_roundw
      case rel => exact ⟨k + 1, hK, by go_num, H2.out⟩
      case measure => simp [intOf]; omega
    · obtain rfl : k = 5 - 1 := by omega
      go_wp2_with (first | (go_at_call 8; (with_reducible refine (stepG HL.out (by omega) 1 (by omega) (by omega)).mono ?_); rw [HS.out]; rintro e w2 ⟨rfl, hl, -⟩; have H2 := Lib.hid hl; clear hl) | (go_at_call 9; (with_reducible refine (atL H2.out 1).mono ?_); rw [pfc_in.1]; rintro e w3 ⟨rfl, rfl⟩) | (go_at_call 9; (with_reducible refine (atL H2.out 0).mono ?_); rw [pfc_in.2]; rintro e w3 ⟨rfl, rfl⟩))
      go_ret
      exact ⟨rfl, H2.out.below⟩
end Go.Proofs.Ytjnfecaghkgdpaa.Fast
