import Derived.Test.YtobfaohcadmopaaClhNew
import Derived.Test.YtobfaohcadmopaaClhFirst
/-
  Package clh: the row of those who stood in line and are not yet in, of a state.
-/
namespace Go.Proofs.Ytobfaohcadmopaa.Clh

def lkGh (n : Nat) (s : LSt) (R : List Int) : Prop := ∃ q h e f, COk n s q h e f ∧ R = (crow s q h e).map Int.ofNat
theorem lkGh_new (n : Nat) : lkGh n (lkNew n) [] := ⟨_, _, _, _, cnew_ok n, rfl⟩
theorem row_len {n : Nat} {s : LSt} {q : Nat → Nat} {h e f : Nat} (k : COk n s q h e f) : (crow s q h e).length ≤ n := by
  have h1 : e - h ≤ n := pigeon n _ (fun i => q (h + i)) (fun i hi => k.low _ (by omega) (by omega)) fun i j hi hj e2 => by
    have := k.inj (h + i) (h + j) (by omega) (by omega) (by omega) (by omega) e2
    omega
  unfold crow chb
  rw [List.length_map, List.length_range]
  split <;> omega
theorem lkGh_len {n : Nat} {s : LSt} {R : List Int} (_hok : lkOk n s) (h : lkGh n s R) : R.length ≤ n := by
  obtain ⟨q, h, e, f, k, rfl⟩ := h
  rw [List.length_map]
  exact row_len k
theorem lkGh_step {n : Nat} {s : LSt} {R : List Int} (_hok : lkOk n s) (h : lkGh n s R) {p : Nat} (hp : p < n) :
    (lkAt n s p ≠ 4 ∧ lkAt n (lkStep n s p) p = 4 → ∃ R2, (if lkAt n s p = 2 then R ++ [(p : Int)] else R) = (p : Int) :: R2 ∧ lkGh n (lkStep n s p) R2) ∧
    (¬ (lkAt n s p ≠ 4 ∧ lkAt n (lkStep n s p) p = 4) → lkGh n (lkStep n s p) (if lkAt n s p = 2 then R ++ [(p : Int)] else R)) := by
  obtain ⟨q, h, e, f, k, rfl⟩ := h
  rw [lkStep_in hp, lkAt_in hp, lkAt_in hp]
  have h1 := clh_first k hp
  have e : (if s.a p = 2 then (crow s q h e).map Int.ofNat ++ [(p : Int)] else (crow s q h e).map Int.ofNat) = (if s.a p = 2 then crow s q h e ++ [p] else crow s q h e).map Int.ofNat := by
    split
    · simp
    · rfl
  rw [e]
  refine ⟨fun hc => ?_, fun hc => ⟨_, _, _, _, k.step hp, by rw [h1.2 hc]⟩⟩
  obtain ⟨R, hR, hR2⟩ := h1.1 hc
  exact ⟨R.map Int.ofNat, by rw [hR]; rfl, _, _, _, _, k.step hp, by rw [hR2]⟩
end Go.Proofs.Ytobfaohcadmopaa.Clh
