import Derived.Test.YthdfceoagjgbaaaTckMath
/-
  Chapter 8 as plain mathematics: the row of those who drew and are not yet in.
-/
namespace Go.Proofs.Ythdfceoagjgbaaa
/-- Those who drew and are not yet in. -/
def ttl (s : TS) : List Nat → List Nat
  | [] => []
  | x :: r => if 3 ≤ s.a x then r else x :: r
theorem tck_first {n : Nat} {s : TS} {Q : List Nat} (k : TOk n s Q) {p : Nat} (hp : p < n) :
    (s.a p ≠ 3 ∧ (tstep s p).a p = 3 → ∃ R, (if s.a p = 1 then ttl s Q ++ [p] else ttl s Q) = p :: R ∧ ttl (tstep s p) (trow s p Q) = R) ∧
    (¬ (s.a p ≠ 3 ∧ (tstep s p).a p = 3) → ttl (tstep s p) (trow s p Q) = if s.a p = 1 then ttl s Q ++ [p] else ttl s Q) := by
  have hoth : ∀ r, r ≠ p → (tstep s p).a r = s.a r := fun r hr => by
    unfold tstep
    repeat' split
    all_goals first | rfl | exact tup_other hr
  by_cases a1 : s.a p = 1
  · have hno : p ∉ Q := fun e => (k.mem p hp).1 e a1
    have ha : (tstep s p).a p = 2 := by unfold tstep; rw [if_pos a1]; exact tup_same _ _ _
    have hQ : trow s p Q = Q ++ [p] := if_pos a1
    rw [if_pos a1, hQ]
    refine ⟨fun h => by omega, fun _ => ?_⟩
    cases Q with
    | nil => simp [ttl, ha]
    | cons x r =>
      have hx : x ≠ p := fun e => hno (by rw [e]; simp)
      show (if 3 ≤ (tstep s p).a x then r ++ [p] else x :: (r ++ [p])) = (if 3 ≤ s.a x then r else x :: r) ++ [p]
      rw [hoth x hx]
      split <;> rfl
  rw [if_neg a1]
  obtain ⟨i, g1, g2, g3, g4, g5⟩ := k.place hp a1
  by_cases h2 : s.a p = 2 ∧ s.nw = s.t p
  · have hi : i = 0 := by omega
    subst hi
    have ha : (tstep s p).a p = 3 := by unfold tstep; rw [if_neg a1, if_pos h2.1, if_pos h2.2]; exact tup_same _ _ _
    have hQ : trow s p Q = Q := by unfold trow; rw [if_neg a1, if_neg (by omega)]
    rw [hQ]
    cases Q with
    | nil => simp at g1
    | cons x r =>
      have hx : x = p := by simpa using g1
      subst hx
      refine ⟨fun _ => ⟨r, ?_, ?_⟩, fun h => absurd ⟨by omega, ha⟩ h⟩
      · show (if 3 ≤ s.a x then r else x :: r) = x :: r
        rw [if_neg (by omega)]
      · show (if 3 ≤ (tstep s x).a x then r else x :: r) = r
        rw [if_pos (by omega)]
  by_cases a4 : s.a p = 4
  · have hi : i = 0 := by
      rcases Nat.eq_zero_or_pos i with h | h
      · exact h
      · have := g4 h; omega
    subst hi
    have ha : (tstep s p).a p = 1 := by unfold tstep; rw [if_neg a1, if_neg (by omega), if_neg (by omega)]; exact tup_same _ _ _
    have hQ : trow s p Q = Q.tail := by unfold trow; rw [if_neg a1, if_pos a4]
    rw [hQ]
    refine ⟨fun h => by omega, fun _ => ?_⟩
    cases Q with
    | nil => simp at g1
    | cons x r =>
      have hx : x = p := by simpa using g1
      subst hx
      show ttl (tstep s x) r = if 3 ≤ s.a x then r else x :: r
      rw [if_pos (by omega)]
      cases r with
      | nil => rfl
      | cons y r =>
        have hy := k.idx 1 y rfl
        have h2 := hy.2.1 (by omega)
        show (if 3 ≤ (tstep s x).a y then r else y :: r) = y :: r
        rw [hoth y (fun e => by rw [e] at h2; omega), if_neg (by omega)]
  · have hQ : trow s p Q = Q := by unfold trow; rw [if_neg a1, if_neg a4]
    have ha : (tstep s p).a p ≠ 3 ∨ s.a p = 3 := by
      by_cases a2 : s.a p = 2
      · refine Or.inl ?_
        unfold tstep; rw [if_neg a1, if_pos a2, if_neg (fun h => h2 ⟨a2, h⟩)]; omega
      · exact Or.inr (by omega)
    have hsame : (3 ≤ (tstep s p).a p) ↔ (3 ≤ s.a p) := by
      by_cases a2 : s.a p = 2
      · unfold tstep; rw [if_neg a1, if_pos a2, if_neg (fun h => h2 ⟨a2, h⟩)]
      · have a3 : s.a p = 3 := by omega
        unfold tstep; rw [if_neg a1, if_neg a2, if_pos a3]; dsimp only; rw [tup_same]; omega
    rw [hQ]
    refine ⟨fun h => by omega, fun _ => ?_⟩
    cases Q with
    | nil => rfl
    | cons x r =>
      show (if 3 ≤ (tstep s p).a x then r else x :: r) = if 3 ≤ s.a x then r else x :: r
      by_cases e : x = p
      · subst e
        by_cases h : 3 ≤ s.a x
        · rw [if_pos h, if_pos (hsame.2 h)]
        · rw [if_neg h, if_neg (fun h' => h (hsame.1 h'))]
      · rw [hoth x e]
theorem ttl_len {n : Nat} {s : TS} {Q : List Nat} (k : TOk n s Q) : (ttl s Q).length ≤ Q.length := by
  have _ := k.len
  cases Q with
  | nil => exact Nat.le_refl _
  | cons x r =>
    show (if 3 ≤ s.a x then r else x :: r).length ≤ _
    split <;> simp
end Go.Proofs.Ythdfceoagjgbaaa
