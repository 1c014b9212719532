import Derived.Test.YtobfaohcadmopaaBakFirst
/-
  Chapter 7 as plain mathematics: if all do a line in turn, each comes in: the steps, and who has the least number passes.
-/
namespace Go.Proofs.Ytobfaohcadmopaa

/-- Whose number is ahead. -/
def BLex (s : Nat → BH) (i j : Nat) : Prop := (s i).w < (s j).w ∨ (s i).w = (s j).w ∧ i < j
theorem bone_choose {n : Nat} {s : Nat → BH} {q : Nat} (h : (s q).a = 2) : ((bone n s q).a = 3 ∧ (s q).k + 1 = n ∨ (bone n s q).a = 2) ∧ (bone n s q).k = (s q).k + 1 := by
  unfold bone; rw [if_neg (by omega), if_pos h]; dsimp only
  split <;> omega
theorem bone_three {n : Nat} {s : Nat → BH} {q : Nat} (h : (s q).a = 3) : (bone n s q).a = 4 := by
  unfold bone; rw [if_neg (by omega), if_neg (by omega), if_pos h]
theorem bone_four {n : Nat} {s : Nat → BH} {q : Nat} (h : (s q).a = 4) : (bone n s q).a = 5 := by
  unfold bone; rw [if_neg (by omega), if_neg (by omega), if_neg (by omega), if_pos h]
theorem bone_five {n : Nat} {s : Nat → BH} {q : Nat} (h : (s q).a = 5) : ((s (s q).k).c = 0 ∧ (bone n s q).a = 6 ∧ (bone n s q).k = (s q).k) ∨ (s (s q).k).c ≠ 0 ∧ bone n s q = s q := by
  unfold bone; rw [if_neg (by omega), if_neg (by omega), if_neg (by omega), if_neg (by omega), if_pos h]
  split
  · rename_i hc; exact Or.inl ⟨hc, rfl, rfl⟩
  · rename_i hc; exact Or.inr ⟨hc, rfl⟩
theorem bone_six {n : Nat} {s : Nat → BH} {q : Nat} (h : (s q).a = 6) (hb : BBehind q (s q).k (s q) (s (s q).k)) : ((bone n s q).a = 7 ∧ (s q).k + 1 = n ∨ (bone n s q).a = 5) ∧ (bone n s q).k = (s q).k + 1 := by
  unfold bone; rw [if_neg (by omega), if_neg (by omega), if_neg (by omega), if_neg (by omega), if_neg (by omega), if_pos h, if_pos hb]; dsimp only
  split <;> omega
theorem bone_seven {n : Nat} {s : Nat → BH} {q : Nat} (h : (s q).a = 7) : (bone n s q).a = 8 := by
  unfold bone; rw [if_neg (by omega), if_neg (by omega), if_neg (by omega), if_neg (by omega), if_neg (by omega), if_neg (by omega), if_pos h]
theorem bone_eight {n : Nat} {s : Nat → BH} {q : Nat} (h : (s q).a = 8) : (bone n s q).a = 1 := by
  unfold bone; rw [if_neg (by omega), if_neg (by omega), if_neg (by omega), if_neg (by omega), if_neg (by omega), if_neg (by omega), if_neg (by omega)]

/-- All do a line in turn. -/
structure BRun (n : Nat) (S : Nat → Nat → BH) : Prop where
  pos : 1 ≤ n
  first : BOk n (S 0)
  st : ∀ t, S (t + 1) = bstep n (S t) (t % n)
section
variable {n : Nat} {S : Nat → Nat → BH}
theorem BRun.ok (h : BRun n S) (t : Nat) : BOk n (S t) := by
  induction t with
  | zero => exact h.first
  | succ t ih => rw [h.st]; exact ih.step (Nat.mod_lt _ h.pos)
theorem BRun.other (h : BRun n S) {t q : Nat} (e : t % n ≠ q) : S (t + 1) q = S t q := by
  rw [h.st]; exact bup_other fun e2 => e e2.symm
theorem BRun.own (h : BRun n S) {t q : Nat} (e : t % n = q) : S (t + 1) q = bone n (S t) q := by
  rw [h.st, e]; exact bup_same _ _ _
/-- The next step of hand q. -/
theorem BRun.next (h : BRun n S) (t : Nat) {q : Nat} (hq : q < n) : ∃ u, t ≤ u ∧ u < t + n ∧ S (u + 1) q = bone n (S u) q ∧ ∀ w, t ≤ w → w ≤ u → S w q = S t q := by
  have key : ∀ m t, (∀ i, i < m → (t + i) % n ≠ q) → ∀ w, t ≤ w → w ≤ t + m → S w q = S t q := by
    intro m t hno w h1 h2
    obtain ⟨i, rfl⟩ : ∃ i, w = t + i := ⟨w - t, by omega⟩
    have hi : i ≤ m := by omega
    clear h1 h2
    induction i with
    | zero => rfl
    | succ i ih => exact (h.other (hno i (by omega))).trans (ih (by omega))
  have hex : ∃ m, m < n ∧ (t + m) % n = q ∧ ∀ i, i < m → (t + i) % n ≠ q := by
    have hm : t % n < n := Nat.mod_lt _ h.pos
    have hd := Nat.div_add_mod t n
    have hmod : ∀ i x, t % n + i = x → x < n → (t + i) % n = x := fun i x e hx => by
      rw [show t + i = x + n * (t / n) by omega, Nat.add_mul_mod_self_left, Nat.mod_eq_of_lt hx]
    have hmod2 : ∀ i x, t % n + i = x + n → x < n → (t + i) % n = x := fun i x e hx => by
      rw [show t + i = (x + n) + n * (t / n) by omega, Nat.add_mul_mod_self_left, Nat.add_mod_right, Nat.mod_eq_of_lt hx]
    rcases Nat.lt_or_ge q (t % n) with h1 | h1
    · refine ⟨q + n - t % n, by omega, hmod2 _ q (by omega) hq, fun i hi => ?_⟩
      rcases Nat.lt_or_ge (t % n + i) n with h2 | h2
      · rw [hmod i _ rfl h2]; omega
      · rw [hmod2 i (t % n + i - n) (by omega) (by omega)]; omega
    · refine ⟨q - t % n, by omega, hmod _ q (by omega) hq, fun i hi => ?_⟩
      rw [hmod i _ rfl (by omega)]; omega
  obtain ⟨m, h1, h2, h3⟩ := hex
  exact ⟨t + m, by omega, by omega, h.own h2, key m t h3⟩
theorem BRun.four (h : BRun n S) {q : Nat} (hq : q < n) (t : Nat) (ha : (S t q).a = 4) : ∃ u, t ≤ u ∧ u ≤ t + n ∧ (S u q).a = 5 := by
  obtain ⟨u, h1, h2, h3, h4⟩ := h.next t hq
  have h5 := h4 u h1 (Nat.le_refl _)
  exact ⟨u + 1, by omega, by omega, by rw [h3]; exact bone_four (by rw [h5]; exact ha)⟩
theorem BRun.three (h : BRun n S) {q : Nat} (hq : q < n) (t : Nat) (ha : (S t q).a = 3) : ∃ u, t ≤ u ∧ u ≤ t + 2 * n ∧ (S u q).a = 5 := by
  obtain ⟨u, h1, h2, h3, h4⟩ := h.next t hq
  have h5 := h4 u h1 (Nat.le_refl _)
  obtain ⟨w, g1, g2, g3⟩ := h.four hq (u + 1) (by rw [h3]; exact bone_three (by rw [h5]; exact ha))
  exact ⟨w, by omega, by omega, g3⟩
theorem BRun.two (h : BRun n S) {q : Nat} (hq : q < n) (m t : Nat) (ha : (S t q).a = 2) (hm : n - (S t q).k ≤ m) : ∃ u, t ≤ u ∧ u ≤ t + m * n + 2 * n ∧ (S u q).a = 5 := by
  induction m generalizing t with
  | zero => have := (h.ok t).loc q hq; unfold BLoc at this; omega
  | succ m ih =>
    have e : (m + 1) * n = m * n + n := Nat.succ_mul _ _
    obtain ⟨u, h1, h2, h3, h4⟩ := h.next t hq
    have h5 := h4 u h1 (Nat.le_refl _)
    have h6 := bone_choose (n := n) (s := S u) (q := q) (by rw [h5]; exact ha)
    rw [← h3, h5] at h6
    rcases h6.1 with h7 | h7
    · obtain ⟨w, g1, g2, g3⟩ := h.three hq (u + 1) h7.1
      exact ⟨w, by omega, by omega, g3⟩
    · obtain ⟨w, g1, g2, g3⟩ := ih (u + 1) h7 (by omega)
      exact ⟨w, by omega, by omega, g3⟩
/-- Who chooses has chosen soon. -/
theorem BRun.chosen (h : BRun n S) {q : Nat} (hq : q < n) (t : Nat) (ha : 2 ≤ (S t q).a ∧ (S t q).a ≤ 4) : ∃ u, t ≤ u ∧ u ≤ t + (n * n + 2 * n) ∧ (S u q).a = 5 := by
  by_cases a2 : (S t q).a = 2
  · obtain ⟨u, h1, h2, h3⟩ := h.two hq n t a2 (by omega)
    exact ⟨u, h1, by omega, h3⟩
  · by_cases a3 : (S t q).a = 3
    · obtain ⟨u, h1, h2, h3⟩ := h.three hq t a3
      exact ⟨u, h1, by omega, h3⟩
    · obtain ⟨u, h1, h2, h3⟩ := h.four hq t (by omega)
      exact ⟨u, h1, by omega, h3⟩
theorem BRun.out (h : BRun n S) {q : Nat} (hq : q < n) (t : Nat) (ha : 7 ≤ (S t q).a) : ∃ u, t ≤ u ∧ u ≤ t + 2 * n ∧ (S u q).a = 1 := by
  have h8 : ∀ t, (S t q).a = 8 → ∃ u, t ≤ u ∧ u ≤ t + n ∧ (S u q).a = 1 := fun t ha => by
    obtain ⟨u, h1, h2, h3, h4⟩ := h.next t hq
    have h5 := h4 u h1 (Nat.le_refl _)
    exact ⟨u + 1, by omega, by omega, by rw [h3]; exact bone_eight (by rw [h5]; exact ha)⟩
  have hl := (h.ok t).loc q hq
  unfold BLoc at hl
  by_cases e : (S t q).a = 8
  · obtain ⟨u, h1, h2, h3⟩ := h8 t e
    exact ⟨u, h1, by omega, h3⟩
  · obtain ⟨u, h1, h2, h3, h4⟩ := h.next t hq
    have h5 := h4 u h1 (Nat.le_refl _)
    obtain ⟨w, g1, g2, g3⟩ := h8 (u + 1) (by rw [h3]; exact bone_seven (by rw [h5]; omega))
    exact ⟨w, by omega, by omega, g3⟩
/-- Who has the least number passes line 6. -/
theorem BRun.six (h : BRun n S) {i E : Nat} (hi : i < n) (t : Nat) (hlex : ∀ u, t ≤ u → u ≤ E → ∀ j, j < n → j ≠ i → 4 ≤ (S u j).a → BLex (S u) i j) (ha : (S t i).a = 6) (hE : t + n ≤ E) : ∃ u, t ≤ u ∧ u ≤ t + n ∧ ((S u i).a = 7 ∧ (S t i).k + 1 = n ∨ (S u i).a = 5) ∧ (S u i).k = (S t i).k + 1 := by
  obtain ⟨u, h1, h2, h3, h4⟩ := h.next t hi
  have h5 := h4 u h1 (Nat.le_refl _)
  have hl := (h.ok t).loc i hi
  unfold BLoc at hl
  have hb : BBehind i (S u i).k (S u i) (S u (S u i).k) := by
    have hlk := (h.ok u).loc (S u i).k (by rw [h5]; omega)
    unfold BLoc at hlk
    unfold BBehind
    by_cases e : (S u i).k = i
    · exact Or.inr (Or.inr ⟨by rw [e], by omega⟩)
    · by_cases e4 : 4 ≤ (S u (S u i).k).a
      · have := hlex u h1 (by omega) (S u i).k (by rw [h5]; omega) e e4
        unfold BLex at this
        omega
      · omega
  have h6 := bone_six (n := n) (s := S u) (q := i) (by rw [h5]; exact ha) hb
  rw [← h3, h5] at h6
  exact ⟨u + 1, by omega, by omega, h6⟩
/-- And line 5. -/
theorem BRun.five (h : BRun n S) {i E : Nat} (hi : i < n) (t : Nat) (hlex : ∀ u, t ≤ u → u ≤ E → ∀ j, j < n → j ≠ i → 4 ≤ (S u j).a → BLex (S u) i j) (ha : (S t i).a = 5) (hE : t + (n * n + 4 * n) ≤ E) : ∃ u, t ≤ u ∧ u ≤ t + (n * n + 4 * n) ∧ (S u i).a = 6 ∧ (S u i).k = (S t i).k := by
  have hl := (h.ok t).loc i hi
  unfold BLoc at hl
  have hk : (S t i).k < n := by omega
  obtain ⟨u, h1, h2, h3, h4⟩ := h.next t hi
  have h5 := h4 u h1 (Nat.le_refl _)
  have h6 := bone_five (n := n) (s := S u) (q := i) (by rw [h5]; exact ha)
  rw [← h3, h5] at h6
  rcases h6 with h6 | h6
  · exact ⟨u + 1, by omega, by omega, h6.2⟩
  have hlk := (h.ok u).loc (S t i).k hk
  unfold BLoc at hlk
  have hne : (S t i).k ≠ i := fun e => by
    have := h6.1; rw [e, h5] at this; omega
  obtain ⟨u1, g1, g2, g3⟩ := h.chosen hk u (by omega)
  have stay : ∀ x, S (u + x) i = S t i ∨ ∃ w, u ≤ w ∧ w ≤ u + x ∧ (S w i).a = 6 ∧ (S w i).k = (S t i).k := by
    intro x
    induction x with
    | zero => exact Or.inl h5
    | succ x ih =>
      rcases ih with ih | ⟨w, f1, f2, f3⟩
      · by_cases e : (u + x) % n = i
        · have f4 := bone_five (n := n) (s := S (u + x)) (q := i) (by rw [ih]; exact ha)
          rw [← h.own e, ih] at f4
          rcases f4 with f4 | f4
          · exact Or.inr ⟨u + x + 1, by omega, by omega, f4.2⟩
          · exact Or.inl f4.2
        · exact Or.inl ((h.other e).trans ih)
      · exact Or.inr ⟨w, f1, by omega, f3⟩
  rcases stay (u1 - u) with hs | ⟨w, f1, f2, f3⟩
  · rw [show u + (u1 - u) = u1 by omega] at hs
    obtain ⟨u2, d1, d2, d3, d4⟩ := h.next u1 hi
    have d5 := d4 u2 d1 (Nat.le_refl _)
    have held : ∀ x, u1 + x ≤ u2 → (S (u1 + x) (S t i).k).a = 5 ∨ (S (u1 + x) (S t i).k).a = 6 := by
      intro x
      induction x with
      | zero => exact fun _ => Or.inl g3
      | succ x ih =>
        intro hx
        have c1 := ih (by omega)
        rw [show u1 + (x + 1) = u1 + x + 1 from rfl]
        by_cases e : (u1 + x) % n = (S t i).k
        · have c2 := bone_line (n := n) (s := S (u1 + x)) (p := (S t i).k) (by omega)
          rw [← h.own e] at c2
          by_cases e7 : (S (u1 + x + 1) (S t i).k).a = 7
          · have c3 := d4 (u1 + x + 1) (by omega) (by omega)
            rw [hs] at c3
            have c4 := (h.ok (u1 + x + 1)).least hk hi hne (by omega) (by rw [c3]; omega)
            have c5 := hlex (u1 + x + 1) (by omega) (by omega) _ hk hne (by omega)
            unfold BLex at c5
            omega
          · omega
        · rw [h.other e]; exact c1
    have c6 := held (u2 - u1) (by omega)
    rw [show u1 + (u2 - u1) = u2 by omega] at c6
    have c7 := (h.ok u2).loc _ hk
    unfold BLoc at c7
    have c8 := bone_five (n := n) (s := S u2) (q := i) (by rw [d5, hs]; exact ha)
    rw [← d3, d5, hs] at c8
    rcases c8 with c8 | c8
    · exact ⟨u2 + 1, by omega, by omega, c8.2⟩
    · exact absurd (by omega) c8.1
  · exact ⟨w, by omega, by omega, f3⟩
/-- And all of them. -/
theorem BRun.scan (h : BRun n S) {i E : Nat} (hi : i < n) (m t : Nat) (hlex : ∀ u, t ≤ u → u ≤ E → ∀ j, j < n → j ≠ i → 4 ≤ (S u j).a → BLex (S u) i j) (ha : (S t i).a = 5 ∨ (S t i).a = 6) (hm : n - (S t i).k ≤ m) (hE : t + m * (n * n + 5 * n) ≤ E) : ∃ u, t ≤ u ∧ u ≤ t + m * (n * n + 5 * n) ∧ (S u i).a = 7 := by
  induction m generalizing t with
  | zero => have := (h.ok t).loc i hi; unfold BLoc at this; omega
  | succ m ih =>
    have e : (m + 1) * (n * n + 5 * n) = m * (n * n + 5 * n) + (n * n + 5 * n) := Nat.succ_mul _ _
    have h6 : ∃ u, t ≤ u ∧ u ≤ t + (n * n + 4 * n) ∧ (S u i).a = 6 ∧ (S u i).k = (S t i).k := by
      rcases ha with ha | ha
      · exact h.five hi t hlex ha (by omega)
      · exact ⟨t, Nat.le_refl _, by omega, ha, rfl⟩
    obtain ⟨u, h1, h2, h3, h4⟩ := h6
    obtain ⟨w, g1, g2, g3, g4⟩ := h.six hi u (fun x hx => hlex x (by omega)) h3 (by omega)
    rcases g3 with g3 | g3
    · exact ⟨w, by omega, by omega, g3.1⟩
    · obtain ⟨x, f1, f2, f3⟩ := ih w (fun x hx => hlex x (by omega)) (Or.inl g3) (by omega) (by omega)
      exact ⟨x, by omega, by omega, f3⟩
end
end Go.Proofs.Ytobfaohcadmopaa
