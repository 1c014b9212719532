import Derived.Test.YtobfaohcadmopaaFltCount
/-
  Chapter 6 as plain mathematics: if all do a line in turn, each comes in.
-/
namespace Go.Proofs.Ytobfaohcadmopaa

theorem fstep_other {n : Nat} {s : FS} {p q : Nat} (h : q ≠ p) : (fstep n s p).a q = s.a q ∧ (fstep n s p).j q = s.j q ∧ (fstep n s p).k q = s.k q ∧ (fstep n s p).l q = s.l q := by
  unfold fstep fpass
  repeat' split
  all_goals simp [fup, h]
theorem fstep_v (n : Nat) (s : FS) (p d : Nat) : (fstep n s p).v d = if s.a p = 2 ∧ s.j p = d then p + 1 else s.v d := by
  by_cases h2 : s.a p = 2
  · unfold fstep
    rw [if_neg (by omega), if_pos h2]
    by_cases e : s.j p = d
    · subst e; rw [if_pos ⟨h2, rfl⟩]; exact fup_same _ _ _
    · rw [if_neg (fun h => e h.2)]; exact fup_other (fun h => e h.symm)
  · rw [if_neg (fun h => h2 h.1)]
    unfold fstep fpass
    rw [if_neg h2]
    repeat' split
    all_goals rfl
/-- It has passed door d. -/
def FPass (n d : Nat) (s : FS) (p : Nat) : Prop := s.j p = d + 1 ∧ s.a p = if n ≤ d + 1 then 5 else 1
theorem fpass_is (n : Nat) (s : FS) (p : Nat) : FPass n (s.j p) (fpass n s p) p := ⟨fup_same _ _ _, fup_same _ _ _⟩
theorem fstep1 {n : Nat} {s : FS} {p : Nat} (h : s.a p = 1) : (fstep n s p).a p = 2 ∧ (fstep n s p).j p = s.j p := by
  unfold fstep; rw [if_pos h]; exact ⟨fup_same _ _ _, rfl⟩
theorem fstep1l {n : Nat} {s : FS} {p : Nat} (h : s.a p = 1) : (fstep n s p).l p = s.j p := by
  unfold fstep; rw [if_pos h]; exact fup_same _ _ _
theorem fstep2 {n : Nat} {s : FS} {p : Nat} (h : s.a p = 2) : (fstep n s p).a p = 3 ∧ (fstep n s p).j p = s.j p := by
  unfold fstep; rw [if_neg (by omega), if_pos h]; exact ⟨fup_same _ _ _, rfl⟩
theorem fstep3 {n : Nat} {s : FS} {p : Nat} (h : s.a p = 3) : FPass n (s.j p) (fstep n s p) p ∨ s.v (s.j p) = p + 1 ∧ (fstep n s p).a p = 4 ∧ (fstep n s p).j p = s.j p ∧ (fstep n s p).k p = s.k p := by
  unfold fstep; rw [if_neg (by omega), if_neg (by omega), if_pos h]
  split
  · exact Or.inl (fpass_is n s p)
  · rename_i hv
    exact Or.inr ⟨by omega, fup_same _ _ _, rfl, rfl⟩
theorem fstep4 {n : Nat} {s : FS} {p : Nat} (h : s.a p = 4) : FPass n (s.j p) (fstep n s p) p ∨ (s.k p ≠ p ∧ s.j p ≤ s.l (s.k p) ∧ (fstep n s p).a p = 3 ∧ (fstep n s p).j p = s.j p ∧ (fstep n s p).k p = 0) ∨ s.k p + 1 ≠ n ∧ (fstep n s p).a p = 4 ∧ (fstep n s p).j p = s.j p ∧ (fstep n s p).k p = s.k p + 1 := by
  unfold fstep; rw [if_neg (by omega), if_neg (by omega), if_neg (by omega), if_pos h]
  split
  · rename_i hb
    exact Or.inr (Or.inl ⟨hb.1, hb.2, fup_same _ _ _, rfl, fup_same _ _ _⟩)
  · split
    · exact Or.inl (fpass_is n s p)
    · rename_i hk
      exact Or.inr (Or.inr ⟨hk, h, rfl, fup_same _ _ _⟩)
theorem fstep5 {n : Nat} {s : FS} {p : Nat} (h : s.a p = 5) : (fstep n s p).a p = 6 := by
  unfold fstep; rw [if_neg (by omega), if_neg (by omega), if_neg (by omega), if_neg (by omega), if_pos h]; exact fup_same _ _ _
theorem fstep6 {n : Nat} {s : FS} {p : Nat} (h : s.a p = 6) : (fstep n s p).a p = 1 ∧ (fstep n s p).j p = 1 ∧ (fstep n s p).l p = 0 := by
  unfold fstep; rw [if_neg (by omega), if_neg (by omega), if_neg (by omega), if_neg (by omega), if_neg (by omega)]; exact ⟨fup_same _ _ _, fup_same _ _ _, fup_same _ _ _⟩

/-- All do a line in turn. -/
structure FRun (n : Nat) (S : Nat → FS) : Prop where
  pos : 1 ≤ n
  first : FOk n (S 0)
  st : ∀ t, S (t + 1) = fstep n (S t) (t % n)
section
variable {n : Nat} {S : Nat → FS}
theorem FRun.ok (h : FRun n S) (t : Nat) : FOk n (S t) := by
  induction t with
  | zero => exact h.first
  | succ t ih => rw [h.st]; exact ih.step (Nat.mod_lt _ h.pos)
/-- What a hand has of its own is as it was. -/
def FSame (s r : FS) (q : Nat) : Prop := r.a q = s.a q ∧ r.j q = s.j q ∧ r.k q = s.k q ∧ r.l q = s.l q
/-- The next step of hand q. -/
theorem FRun.next (h : FRun n S) (t : Nat) {q : Nat} (hq : q < n) : ∃ u, t ≤ u ∧ u < t + n ∧ u % n = q ∧ ∀ w, t ≤ w → w ≤ u → FSame (S t) (S w) q := by
  have key : ∀ m t, (t + m) % n = q → (∀ i, i < m → (t + i) % n ≠ q) → ∀ w, t ≤ w → w ≤ t + m → FSame (S t) (S w) q := by
    intro m t _ hno w h1 h2
    obtain ⟨i, rfl⟩ : ∃ i, w = t + i := ⟨w - t, by omega⟩
    have hi : i ≤ m := by omega
    clear h1 h2
    induction i with
    | zero => exact ⟨rfl, rfl, rfl, rfl⟩
    | succ i ih =>
      have h3 := ih (by omega)
      have h4 := h.st (t + i)
      have h5 := fstep_other (n := n) (s := S (t + i)) (p := (t + i) % n) (q := q) (fun e => hno i (by omega) e.symm)
      rw [← h4] at h5
      exact ⟨h5.1.trans h3.1, h5.2.1.trans h3.2.1, h5.2.2.1.trans h3.2.2.1, h5.2.2.2.trans h3.2.2.2⟩
  have hex : ∃ m, m < n ∧ (t + m) % n = q ∧ ∀ i, i < m → (t + i) % n ≠ q := by
    have hm : t % n < n := Nat.mod_lt _ h.pos
    have hd := Nat.div_add_mod t n
    have hmod : ∀ i x, t % n + i = x → x < n → (t + i) % n = x := fun i x e hx => by
      rw [show t + i = x + n * (t / n) by omega, Nat.add_mul_mod_self_left, Nat.mod_eq_of_lt hx]
    have hmod2 : ∀ i x, t % n + i = x + n → x < n → (t + i) % n = x := fun i x e hx => by
      rw [show t + i = (x + n) + n * (t / n) by omega, Nat.add_mul_mod_self_left, Nat.add_mod_right, Nat.mod_eq_of_lt hx]
    rcases Nat.lt_or_ge q (t % n) with h1 | h1
    · refine ⟨q + n - t % n, by omega, hmod2 _ q (by omega) hq, fun i hi => ?_⟩
      rcases Nat.lt_or_ge (t % n + i) n with h2 | h2
      · rw [hmod i _ rfl h2]; omega
      · rw [hmod2 i (t % n + i - n) (by omega) (by omega)]; omega
    · refine ⟨q - t % n, by omega, hmod _ q (by omega) hq, fun i hi => ?_⟩
      rw [hmod i _ rfl (by omega)]; omega
  obtain ⟨m, h1, h2, h3⟩ := hex
  exact ⟨t + m, by omega, by omega, h2, key m t h2 h3⟩
theorem FRun.v_same (h : FRun n S) {d t u : Nat} (hno : ∀ w, t ≤ w → w < u → ¬ ((S w).a (w % n) = 2 ∧ (S w).j (w % n) = d)) (htu : t ≤ u) : (S u).v d = (S t).v d := by
  obtain ⟨i, rfl⟩ : ∃ i, u = t + i := ⟨u - t, by omega⟩
  clear htu
  induction i with
  | zero => rfl
  | succ i ih =>
    have h1 := ih fun w h1 h2 => hno w h1 (by omega)
    have h2 := fstep_v n (S (t + i)) ((t + i) % n) d
    rw [← h.st, if_neg (hno (t + i) (by omega) (by omega))] at h2
    exact h2.trans h1
/-- Who does not write p's name keeps it away. -/
theorem FRun.v_ne (h : FRun n S) {p d t u : Nat} (hw : ∀ w, t ≤ w → w < u → (S w).a p ≠ 2) (hv : (S t).v d ≠ p + 1) (htu : t ≤ u) : (S u).v d ≠ p + 1 := by
  obtain ⟨i, rfl⟩ : ∃ i, u = t + i := ⟨u - t, by omega⟩
  clear htu
  induction i with
  | zero => exact hv
  | succ i ih =>
    have h1 := ih fun w h1 h2 => hw w h1 (by omega)
    have h2 := fstep_v n (S (t + i)) ((t + i) % n) d
    rw [← h.st] at h2
    have h3 := hw (t + i) (by omega) (by omega)
    rw [show t + (i + 1) = t + i + 1 from rfl, h2]
    split
    · rename_i e
      intro e2
      have : (t + i) % n = p := by omega
      rw [this] at e; exact h3 e.1
    · exact h1
/-- Whose name is not at the door passes. -/
theorem FRun.free3 (h : FRun n S) {p d : Nat} (hp : p < n) (t : Nat) (ha : (S t).a p = 3) (hj : (S t).j p = d) (hv : (S t).v d ≠ p + 1) : ∃ u, t ≤ u ∧ u ≤ t + n ∧ FPass n d (S u) p := by
  obtain ⟨u, h1, h2, h3, h4⟩ := h.next t hp
  have h5 := h4 u h1 (Nat.le_refl _)
  have h6 : (S u).v d ≠ p + 1 := h.v_ne (fun w hw1 hw2 => by rw [(h4 w hw1 (by omega)).1]; omega) hv h1
  have h7 := h.st u
  rw [h3] at h7
  refine ⟨u + 1, by omega, by omega, ?_⟩
  rcases fstep3 (n := n) (s := S u) (p := p) (by rw [h5.1]; exact ha) with h8 | h8
  · rw [← h7, h5.2.1, hj] at h8; exact h8
  · have := h8.1; rw [h5.2.1, hj] at this; exact absurd this h6
theorem FRun.free (h : FRun n S) {p d : Nat} (hp : p < n) (m : Nat) (t : Nat) (ha : (S t).a p = 3 ∨ (S t).a p = 4 ∧ n - (S t).k p ≤ m) (hj : (S t).j p = d) (hv : (S t).v d ≠ p + 1) : ∃ u, t ≤ u ∧ u ≤ t + (m + 1) * n ∧ FPass n d (S u) p := by
  induction m generalizing t with
  | zero =>
    rcases ha with ha | ha
    · obtain ⟨u, h1, h2, h3⟩ := h.free3 hp t ha hj hv
      exact ⟨u, h1, by omega, h3⟩
    · have := ((h.ok t).kr p hp).1; omega
  | succ m ih =>
    have e : (m + 1 + 1) * n = (m + 1) * n + n := Nat.succ_mul _ _
    rcases ha with ha | ⟨ha, hk⟩
    · obtain ⟨u, h1, h2, h3⟩ := h.free3 hp t ha hj hv
      exact ⟨u, h1, by omega, h3⟩
    · obtain ⟨u, h1, h2, h3, h4⟩ := h.next t hp
      have h5 := h4 u h1 (Nat.le_refl _)
      have h6 : (S (u + 1)).v d ≠ p + 1 := h.v_ne (fun w hw1 hw2 => by rw [(h4 w hw1 (by omega)).1]; omega) hv (by omega)
      have h7 := h.st u
      rw [h3] at h7
      rcases fstep4 (n := n) (s := S u) (p := p) (by rw [h5.1]; exact ha) with h8 | h8 | h8
      · rw [← h7, h5.2.1, hj] at h8; exact ⟨u + 1, by omega, by omega, h8⟩
      · rw [← h7, h5.2.1, hj] at h8
        obtain ⟨u', g1, g2, g3⟩ := ih (u + 1) (Or.inl h8.2.2.1) h8.2.2.2.1 h6
        exact ⟨u', by omega, by omega, g3⟩
      · rw [← h7, h5.2.1, hj, h5.2.2.1] at h8
        obtain ⟨u', g1, g2, g3⟩ := ih (u + 1) (Or.inr ⟨h8.2.1, by rw [h8.2.2.2]; omega⟩) h8.2.2.1 h6
        exact ⟨u', by omega, by omega, g3⟩
/-- Who finds all others low passes. -/
theorem FRun.clear4 (h : FRun n S) {p d : Nat} (hp : p < n) (m : Nat) (t : Nat) (ha : (S t).a p = 4) (hk : n - (S t).k p ≤ m) (hj : (S t).j p = d) (hl : ∀ u, t ≤ u → u < t + m * n → ∀ q, q < n → q ≠ p → (S u).l q < d) : ∃ u, t ≤ u ∧ u ≤ t + m * n ∧ FPass n d (S u) p := by
  induction m generalizing t with
  | zero => have := ((h.ok t).kr p hp).1; omega
  | succ m ih =>
    have e : (m + 1) * n = m * n + n := Nat.succ_mul _ _
    obtain ⟨u, h1, h2, h3, h4⟩ := h.next t hp
    have h5 := h4 u h1 (Nat.le_refl _)
    have h7 := h.st u
    rw [h3] at h7
    have h0 := ((h.ok u).kr p hp).1
    rcases fstep4 (n := n) (s := S u) (p := p) (by rw [h5.1]; exact ha) with h8 | h8 | h8
    · rw [← h7, h5.2.1, hj] at h8; exact ⟨u + 1, by omega, by omega, h8⟩
    · have h9 := h8.2.1
      rw [h5.2.1, hj] at h9
      have := hl u h1 (by omega) _ h0 h8.1
      omega
    · rw [← h7, h5.2.1, hj, h5.2.2.1] at h8
      obtain ⟨u', g1, g2, g3⟩ := ih (u + 1) h8.2.1 (by rw [h8.2.2.2]; omega) h8.2.2.1 (fun w hw1 hw2 => hl w (by omega) (by omega))
      exact ⟨u', by omega, by omega, g3⟩
theorem FRun.clear (h : FRun n S) {p d : Nat} (hp : p < n) (t : Nat) (ha : (S t).a p = 3 ∨ (S t).a p = 4) (hj : (S t).j p = d) (hl : ∀ u, t ≤ u → u < t + (n + 1) * n → ∀ q, q < n → q ≠ p → (S u).l q < d) : ∃ u, t ≤ u ∧ u ≤ t + (n + 1) * n ∧ FPass n d (S u) p := by
  have e : (n + 1) * n = n * n + n := Nat.succ_mul _ _
  rcases ha with ha | ha
  · obtain ⟨u, h1, h2, h3, h4⟩ := h.next t hp
    have h5 := h4 u h1 (Nat.le_refl _)
    have h7 := h.st u
    rw [h3] at h7
    rcases fstep3 (n := n) (s := S u) (p := p) (by rw [h5.1]; exact ha) with h8 | h8
    · rw [← h7, h5.2.1, hj] at h8; exact ⟨u + 1, by omega, by omega, h8⟩
    · rw [← h7, h5.2.1, hj] at h8
      obtain ⟨u', g1, g2, g3⟩ := h.clear4 hp n (u + 1) h8.2.1 (by omega) h8.2.2.1 (fun w hw1 hw2 => hl w (by omega) (by omega))
      exact ⟨u', by omega, by omega, g3⟩
  · obtain ⟨u', g1, g2, g3⟩ := h.clear4 hp n t ha (by omega) hj (fun w hw1 hw2 => hl w (by omega) (by omega))
    exact ⟨u', by omega, by omega, g3⟩
/-- Who is inside goes out. -/
theorem FRun.out6 (h : FRun n S) {q : Nat} (hq : q < n) (t : Nat) (ha : (S t).a q = 6) : ∃ u, t ≤ u ∧ u ≤ t + n ∧ (S u).a q = 1 ∧ (S u).l q = 0 := by
  obtain ⟨u, h1, h2, h3, h4⟩ := h.next t hq
  have h5 := h4 u h1 (Nat.le_refl _)
  have h7 := h.st u
  rw [h3] at h7
  have h8 := fstep6 (n := n) (s := S u) (p := q) (by rw [h5.1]; exact ha)
  rw [← h7] at h8
  exact ⟨u + 1, by omega, by omega, h8.1, h8.2.2⟩
theorem FRun.out (h : FRun n S) {q : Nat} (hq : q < n) (t : Nat) (ha : 5 ≤ (S t).a q) : ∃ u, t ≤ u ∧ u ≤ t + 2 * n ∧ (S u).a q = 1 ∧ (S u).l q = 0 := by
  have h0 := ((h.ok t).ar q hq).2
  by_cases e : (S t).a q = 6
  · obtain ⟨u, h1, h2, h3⟩ := h.out6 hq t e
    exact ⟨u, h1, by omega, h3⟩
  · obtain ⟨u, h1, h2, h3, h4⟩ := h.next t hq
    have h5 := h4 u h1 (Nat.le_refl _)
    have h7 := h.st u
    rw [h3] at h7
    have h8 := fstep5 (n := n) (s := S u) (p := q) (by rw [h5.1]; omega)
    rw [← h7] at h8
    obtain ⟨u', g1, g2, g3⟩ := h.out6 hq (u + 1) h8
    exact ⟨u', by omega, by omega, g3⟩
end
end Go.Proofs.Ytobfaohcadmopaa
