import Derived.Test.YtobfaohcadmopaaBakMath
/-
  Chapter 7 as plain mathematics: who has its number already when another one begins comes in ahead of that one.
-/
namespace Go.Proofs.Ytobfaohcadmopaa

/-- Hand q had its number when hand p began: p's will be greater. -/
def BAft (p q : Nat) (s : Nat → BH) : Prop :=
  p ≠ q ∧ (2 ≤ (s p).a ∧ (s p).a ≤ 6) ∧ (4 ≤ (s q).a ∧ (s q).a ≤ 6) ∧ BLate q (s q) (s p) ∧ (4 ≤ (s p).a → (s q).w < (s p).w)
/-- It never comes in ahead. -/
theorem BAft.behind {n : Nat} {s : Nat → BH} (h : BOk n s) {p q : Nat} (hp : p < n) (hq : q < n) (ha : BAft p q s) : (bone n s p).a ≠ 7 := by
  intro e
  have h1 := ha.1
  have h2 := ha.2.1
  have h3 := ha.2.2.1
  have h4 := ha.2.2.2.2
  have hl := bone_loc h hp
  have hr := bone_rel h hp hq h1
  unfold BLoc at hl
  have h5 := (hr.1 (by omega) (by omega)).2 (by omega)
  rcases bone_w (n := n) (s := s) (p := p) (by omega) with h6 | h6
  · omega
  · have := h4 h6.1; omega
/-- The line after line 1 is 2; of the others, one more, or the same, or line 5 for 6. -/
theorem bone_line {n : Nat} {s : Nat → BH} {p : Nat} (h : 2 ≤ (s p).a ∧ (s p).a ≤ 6) : (2 ≤ (bone n s p).a ∧ (bone n s p).a ≤ 7) ∧ (4 ≤ (s p).a → 5 ≤ (bone n s p).a) ∧ ((bone n s p).a = 7 → (s p).a = 6) := by
  unfold bone
  rw [if_neg (by omega)]
  by_cases a2 : (s p).a = 2
  · rw [if_pos a2]; dsimp only; split <;> omega
  rw [if_neg a2]
  by_cases a3 : (s p).a = 3
  · rw [if_pos a3]; dsimp only; omega
  rw [if_neg a3]
  by_cases a4 : (s p).a = 4
  · rw [if_pos a4]; dsimp only; omega
  rw [if_neg a4]
  by_cases a5 : (s p).a = 5
  · rw [if_pos a5]; split
    · dsimp only; omega
    · omega
  rw [if_neg a5, if_pos (by omega)]
  split
  · dsimp only; split <;> omega
  · omega
theorem bone_one {n : Nat} {s : Nat → BH} {p : Nat} (h : (s p).a = 1) : (bone n s p).a = 2 ∧ (bone n s p).k = 0 := by
  unfold bone; rw [if_pos h]; exact ⟨rfl, rfl⟩
/-- It begins: all that have a number are ahead of it. -/
theorem BAft.begin {n : Nat} {s : Nat → BH} {p q : Nat} (hne : q ≠ p) (ha : (s p).a = 1) (hq : 4 ≤ (s q).a ∧ (s q).a ≤ 6) : BAft p q (bstep n s p) := by
  have h1 := bone_one (n := n) ha
  unfold BAft BLate bstep
  rw [bup_same, bup_other hne]
  exact ⟨fun e => hne e.symm, by omega, hq, ⟨fun _ h2 => by omega, fun h2 => by omega⟩, fun h2 => by omega⟩
/-- It stays so till the one ahead comes in. -/
theorem BAft.step {n : Nat} {s : Nat → BH} (h : BOk n s) {p q x : Nat} (hp : p < n) (hq : q < n) (ha : BAft p q s) (hx : x = q → (bone n s x).a ≠ 7) : BAft p q (bstep n s x) := by
  have hb := ha.behind h hp hq
  obtain ⟨h1, h2, h3, h4, h5⟩ := ha
  unfold BAft bstep
  by_cases e : x = p
  · subst e
    rw [bup_same, bup_other (fun e => h1 e.symm)]
    have hl := bone_line (n := n) h2
    have hL := bone_late (n := n) h4 hq
    refine ⟨h1, by omega, h3, hL.1, fun h6 => ?_⟩
    rcases bone_w (n := n) h6 with h7 | h7
    · have := h4.2 h7.1; omega
    · have := h5 h7.1; omega
  · rw [bup_other (fun e2 => e e2.symm)]
    by_cases e2 : x = q
    · subst e2
      rw [bup_same]
      have hl := bone_line (n := n) (s := s) (p := x) (by omega)
      have h7 := hx rfl
      have hw : (bone n s x).w = (s x).w := by
        rcases bone_w (n := n) (s := s) (p := x) (by omega) with h8 | h8
        · omega
        · exact h8.2.1
      unfold BLate at h4 ⊢
      rw [hw]
      exact ⟨h1, h2, by omega, h4, h5⟩
    · rw [bup_other (fun e3 => e2 e3.symm)]
      exact ⟨h1, h2, h3, h4, h5⟩
end Go.Proofs.Ytobfaohcadmopaa
