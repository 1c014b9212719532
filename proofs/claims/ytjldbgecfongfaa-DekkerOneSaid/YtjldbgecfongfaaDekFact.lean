/-
  The closed fact of the laws of package dekker.
-/
import Derived.Test.YtjldbgecfongfaaDekFact0
namespace Go.Proofs.Ytjldbgecfongfaa
open Go.RowKit

/-- Where the lock stands in the closed fact. -/
def pfc : Nat → List Int
  | 0 => pnew
  | _ => [0, 1, 0, 1, 2]
def pfcEnd : List Int := [0, 1, 0, 1, 7]
theorem pfc_step : pstp (pfc 0) 1 = pfc 1 ∧ pstp (pfc 1) 1 = pfcEnd := by decide +kernel
theorem pfc_at : atP (pfc 1) 1 = 2 ∧ atP pfcEnd 1 = 7 ∧ atP pfcEnd 0 = 1 := by decide +kernel

set_option maxHeartbeats 1000000 in
theorem dekFact_any (w : World) : Calls Try.prog 6 #[] w fun e w' => e = .returned (.bool true) ∧ Below w.heap.size w w' := by
  go_enter Try.func6, Try.ntmps6
  go_wp2_with (go_at_call 7; refine (newL (Below.refl _ _)).mono ?_; rintro e w1 ⟨g, rfl, hl⟩; have HL := Lib.hid hl; clear hl)
  go_loopw [2] (fun i wr => ∃ k : Nat, k ≤ 1 ∧ i = .int .i64 k ∧ LkAt w wr g (pfc k)) (fun i _ => 12 - (intOf i).toNat)
  case atStart => exact ⟨0, by omega, rfl, HL.out⟩
  case round =>
    clear HL
    obtain ⟨k, hk, rfl, hl⟩ := hrel
    have HL := Lib.hid hl
    clear hl
    obtain rfl | rfl : k = 0 ∨ k = 1 := by omega
    · go_wp2_with (first | (go_at_call 8; refine (stepG HL.out 1 (by omega) (by omega)).mono ?_; rw [pfc_step.1]; rintro e w2 ⟨rfl, hl⟩; have H2 := Lib.hid hl; clear hl) | (go_at_call 9; (with_reducible refine (at1 H2.out).mono ?_); rw [pfc_at.1]; rintro e w3 ⟨rfl, rfl⟩))
      go_roundw
      case rel => exact ⟨1, by omega, by go_num, H2.out⟩
      case measure => simp [intOf]
    · go_wp2_with (first | (go_at_call 8; refine (stepG HL.out 1 (by omega) (by omega)).mono ?_; rw [pfc_step.2]; rintro e w2 ⟨rfl, hl⟩; have H2 := Lib.hid hl; clear hl) | (go_at_call 9; (with_reducible refine (at1 H2.out).mono ?_); rw [pfc_at.2.1]; rintro e w3 ⟨rfl, rfl⟩) | (go_at_call 9; (with_reducible refine (at0 H2.out).mono ?_); rw [pfc_at.2.2]; rintro e w3 ⟨rfl, rfl⟩))
      go_ret
      exact ⟨rfl, H2.out.below⟩
end Go.Proofs.Ytjldbgecfongfaa
