/-
  All do a line in turn: a number that falls, and the hand that makes it fall. It imports nothing of the translation.
-/
namespace Go.Proofs.Ytimdhnjkjflbdaa
theorem pigeon (n : Nat) : ∀ (m : Nat) (q : Nat → Nat), (∀ i, i < m → q i < n) → (∀ i j, i < m → j < m → q i = q j → i = j) → m ≤ n := by
  induction n with
  | zero =>
    intro m q h1 _
    rcases Nat.eq_zero_or_pos m with h | h
    · omega
    · have := h1 0 h; omega
  | succ n ih =>
    intro m q h1 h2
    cases m with
    | zero => omega
    | succ m =>
      have := ih m (fun j => if q j = n then q m else q j) (fun i hi => by
        split
        · rename_i e
          have h3 := h1 m (by omega)
          have h4 : q m ≠ n := fun e2 => by have := h2 i m (by omega) (by omega) (by omega); omega
          omega
        · have := h1 i (by omega); omega) (fun i j hi hj e => by
        split at e
        · split at e
          · exact h2 i j (by omega) (by omega) (by omega)
          · have := h2 m j (by omega) (by omega) e; omega
        · split at e
          · have := h2 i m (by omega) (by omega) e; omega
          · exact h2 i j (by omega) (by omega) e)
      omega
section
variable {σ : Type} {n : Nat} {step : σ → Nat → σ} {S : Nat → σ} {Inv : σ → Prop}
theorem rounds_inv (hn : 1 ≤ n) (hS : ∀ t, S (t + 1) = step (S t) (t % n)) (h0 : Inv (S 0)) (hI : ∀ s p, Inv s → p < n → Inv (step s p)) (t : Nat) : Inv (S t) := by
  induction t with
  | zero => exact h0
  | succ t ih => rw [hS]; exact hI _ _ ih (Nat.mod_lt _ hn)
/-- When hand q steps next. -/
theorem rounds_when (hn : 1 ≤ n) (t : Nat) {q : Nat} (hq : q < n) : ∃ m, m < n ∧ (t + m) % n = q ∧ ∀ i, i < m → (t + i) % n ≠ q := by
  have hm : t % n < n := Nat.mod_lt _ hn
  have hd := Nat.div_add_mod t n
  have hmod : ∀ i x, t % n + i = x → x < n → (t + i) % n = x := fun i x e hx => by
    rw [show t + i = x + n * (t / n) by omega, Nat.add_mul_mod_self_left, Nat.mod_eq_of_lt hx]
  have hmod2 : ∀ i x, t % n + i = x + n → x < n → (t + i) % n = x := fun i x e hx => by
    rw [show t + i = (x + n) + n * (t / n) by omega, Nat.add_mul_mod_self_left, Nat.add_mod_right, Nat.mod_eq_of_lt hx]
  rcases Nat.lt_or_ge q (t % n) with h1 | h1
  · refine ⟨q + n - t % n, by omega, hmod2 _ q (by omega) hq, fun i hi => ?_⟩
    rcases Nat.lt_or_ge (t % n + i) n with h2 | h2
    · rw [hmod i _ rfl h2]; omega
    · rw [hmod2 i (t % n + i - n) (by omega) (by omega)]; omega
  · refine ⟨q - t % n, by omega, hmod _ q (by omega) hq, fun i hi => ?_⟩
    rw [hmod i _ rfl (by omega)]; omega
/-- What all hope for comes, or the number falls, within a round. -/
theorem rounds_fall (hn : 1 ≤ n) (hS : ∀ t, S (t + 1) = step (S t) (t % n)) (hinv : ∀ t, Inv (S t)) {Done : σ → Prop} {V M : σ → Nat}
    (hM : ∀ s, Inv s → ¬ Done s → M s < n ∧ (Done (step s (M s)) ∨ V (step s (M s)) < V s) ∧ ∀ y, y < n → y ≠ M s → Done (step s y) ∨ V (step s y) < V s ∨ V (step s y) = V s ∧ M (step s y) = M s)
    (t : Nat) (hd : ¬ Done (S t)) : ∃ u, t < u ∧ u ≤ t + n ∧ (Done (S u) ∨ V (S u) < V (S t)) := by
  obtain ⟨m, h1, h2, h3⟩ := rounds_when hn t (hM _ (hinv t) hd).1
  have key : ∀ i, i ≤ m → (∃ u, t < u ∧ u ≤ t + i ∧ (Done (S u) ∨ V (S u) < V (S t))) ∨ (¬ Done (S (t + i)) ∧ V (S (t + i)) = V (S t) ∧ M (S (t + i)) = M (S t)) := fun i => by
    induction i with
    | zero => exact fun _ => Or.inr ⟨hd, rfl, rfl⟩
    | succ i ih =>
      intro hi
      rcases ih (by omega) with ⟨u, g1, g2, g3⟩ | ⟨g1, g2, g3⟩
      · exact Or.inl ⟨u, g1, by omega, g3⟩
      · have h4 := (hM _ (hinv (t + i)) g1).2.2 ((t + i) % n) (Nat.mod_lt _ hn) (by rw [g3]; exact h3 i (by omega))
        rw [← hS] at h4
        by_cases e : Done (S (t + i + 1))
        · exact Or.inl ⟨t + i + 1, by omega, by omega, Or.inl e⟩
        · rcases h4 with h4 | h4 | ⟨h4, h5⟩
          · exact absurd h4 e
          · exact Or.inl ⟨t + i + 1, by omega, by omega, Or.inr (by omega)⟩
          · exact Or.inr ⟨e, h4.trans g2, h5.trans g3⟩
  rcases key m (Nat.le_refl _) with ⟨u, g1, g2, g3⟩ | ⟨g1, g2, g3⟩
  · exact ⟨u, g1, by omega, g3⟩
  · have h4 := (hM _ (hinv (t + m)) g1).2.1
    rw [show M (S (t + m)) = (t + m) % n by rw [g3, h2], ← hS] at h4
    refine ⟨t + m + 1, by omega, by omega, ?_⟩
    rcases h4 with h4 | h4
    · exact Or.inl h4
    · exact Or.inr (by omega)
theorem rounds_done (hn : 1 ≤ n) (hS : ∀ t, S (t + 1) = step (S t) (t % n)) (hinv : ∀ t, Inv (S t)) {Done : σ → Prop} {V M : σ → Nat}
    (hM : ∀ s, Inv s → ¬ Done s → M s < n ∧ (Done (step s (M s)) ∨ V (step s (M s)) < V s) ∧ ∀ y, y < n → y ≠ M s → Done (step s y) ∨ V (step s y) < V s ∨ V (step s y) = V s ∧ M (step s y) = M s)
    (b t : Nat) (hb : V (S t) ≤ b) : ∃ u, t ≤ u ∧ u ≤ t + (b + 1) * n ∧ Done (S u) := by
  induction b generalizing t with
  | zero =>
    by_cases hd : Done (S t)
    · exact ⟨t, Nat.le_refl _, by omega, hd⟩
    · obtain ⟨u, g1, g2, g3⟩ := rounds_fall hn hS hinv hM t hd
      rcases g3 with g3 | g3
      · exact ⟨u, by omega, by omega, g3⟩
      · omega
  | succ b ih =>
    by_cases hd : Done (S t)
    · exact ⟨t, Nat.le_refl _, by omega, hd⟩
    · have e : (b + 1 + 1) * n = (b + 1) * n + n := Nat.succ_mul _ _
      obtain ⟨u, g1, g2, g3⟩ := rounds_fall hn hS hinv hM t hd
      rcases g3 with g3 | g3
      · exact ⟨u, by omega, by omega, g3⟩
      · obtain ⟨w, f1, f2, f3⟩ := ih u (by omega)
        exact ⟨w, by omega, by omega, f3⟩
/-- The same, where the hand that makes it fall is one of some. -/
theorem rounds_fallR (hn : 1 ≤ n) (hS : ∀ t, S (t + 1) = step (S t) (t % n)) (hinv : ∀ t, Inv (S t)) {Done : σ → Prop} {V : σ → Nat} {Mv : σ → Nat → Prop}
    (hE : ∀ s, Inv s → ¬ Done s → ∃ x, x < n ∧ Mv s x)
    (hM : ∀ s x, Inv s → ¬ Done s → x < n → Mv s x → (Done (step s x) ∨ V (step s x) < V s) ∧ ∀ y, y < n → y ≠ x → Done (step s y) ∨ V (step s y) < V s ∨ V (step s y) = V s ∧ Mv (step s y) x)
    (t : Nat) (hd : ¬ Done (S t)) : ∃ u, t < u ∧ u ≤ t + n ∧ (Done (S u) ∨ V (S u) < V (S t)) := by
  obtain ⟨x, hx, hmx⟩ := hE _ (hinv t) hd
  obtain ⟨m, h1, h2, h3⟩ := rounds_when hn t hx
  have key : ∀ i, i ≤ m → (∃ u, t < u ∧ u ≤ t + i ∧ (Done (S u) ∨ V (S u) < V (S t))) ∨ (¬ Done (S (t + i)) ∧ V (S (t + i)) = V (S t) ∧ Mv (S (t + i)) x) := fun i => by
    induction i with
    | zero => exact fun _ => Or.inr ⟨hd, rfl, hmx⟩
    | succ i ih =>
      intro hi
      rcases ih (by omega) with ⟨u, g1, g2, g3⟩ | ⟨g1, g2, g3⟩
      · exact Or.inl ⟨u, g1, by omega, g3⟩
      · have h4 := (hM _ x (hinv (t + i)) g1 hx g3).2 ((t + i) % n) (Nat.mod_lt _ hn) (h3 i (by omega))
        rw [← hS] at h4
        by_cases e : Done (S (t + i + 1))
        · exact Or.inl ⟨t + i + 1, by omega, by omega, Or.inl e⟩
        · rcases h4 with h4 | h4 | ⟨h4, h5⟩
          · exact absurd h4 e
          · exact Or.inl ⟨t + i + 1, by omega, by omega, Or.inr (by omega)⟩
          · exact Or.inr ⟨e, h4.trans g2, h5⟩
  rcases key m (Nat.le_refl _) with ⟨u, g1, g2, g3⟩ | ⟨g1, g2, g3⟩
  · exact ⟨u, g1, by omega, g3⟩
  · have h4 := (hM _ x (hinv (t + m)) g1 hx g3).1
    rw [show step (S (t + m)) x = S (t + m + 1) by rw [hS, h2]] at h4
    refine ⟨t + m + 1, by omega, by omega, ?_⟩
    rcases h4 with h4 | h4
    · exact Or.inl h4
    · exact Or.inr (by omega)
theorem rounds_doneR (hn : 1 ≤ n) (hS : ∀ t, S (t + 1) = step (S t) (t % n)) (hinv : ∀ t, Inv (S t)) {Done : σ → Prop} {V : σ → Nat} {Mv : σ → Nat → Prop}
    (hE : ∀ s, Inv s → ¬ Done s → ∃ x, x < n ∧ Mv s x)
    (hM : ∀ s x, Inv s → ¬ Done s → x < n → Mv s x → (Done (step s x) ∨ V (step s x) < V s) ∧ ∀ y, y < n → y ≠ x → Done (step s y) ∨ V (step s y) < V s ∨ V (step s y) = V s ∧ Mv (step s y) x)
    (b t : Nat) (hb : V (S t) ≤ b) : ∃ u, t ≤ u ∧ u ≤ t + (b + 1) * n ∧ Done (S u) := by
  induction b generalizing t with
  | zero =>
    by_cases hd : Done (S t)
    · exact ⟨t, Nat.le_refl _, by omega, hd⟩
    · obtain ⟨u, g1, g2, g3⟩ := rounds_fallR hn hS hinv hE hM t hd
      rcases g3 with g3 | g3
      · exact ⟨u, by omega, by omega, g3⟩
      · omega
  | succ b ih =>
    by_cases hd : Done (S t)
    · exact ⟨t, Nat.le_refl _, by omega, hd⟩
    · have e : (b + 1 + 1) * n = (b + 1) * n + n := Nat.succ_mul _ _
      obtain ⟨u, g1, g2, g3⟩ := rounds_fallR hn hS hinv hE hM t hd
      rcases g3 with g3 | g3
      · exact ⟨u, by omega, by omega, g3⟩
      · obtain ⟨w, f1, f2, f3⟩ := ih u (by omega)
        exact ⟨w, by omega, by omega, f3⟩
/-- Hand p comes to a line, where the number falls till it does: in one of the rounds it has just come. -/
theorem rounds_come (hn : 1 ≤ n) (hS : ∀ t, S (t + 1) = step (S t) (t % n)) (h0 : Inv (S 0)) (hI : ∀ s p, Inv s → p < n → Inv (step s p)) {p : Nat} (hp : p < n) (line : σ → Nat) (IN : Nat)
    (hother : ∀ s q, q ≠ p → line (step s q) = line s) (hout : ∀ s, Inv s → line s = IN → line (step s p) ≠ IN) {V M : σ → Nat} (B : Nat) (hB : ∀ s, Inv s → V s ≤ B)
    (hM : ∀ s, Inv s → line s ≠ IN → M s < n ∧ (line (step s (M s)) = IN ∨ V (step s (M s)) < V s) ∧ ∀ y, y < n → y ≠ M s → line (step s y) = IN ∨ V (step s y) < V s ∨ V (step s y) = V s ∧ M (step s y) = M s)
    {R : Nat} (hR : B + 2 ≤ R) : ∃ t, t < R * n ∧ t % n = p ∧ line (S (t + 1)) = IN := by
  have hinv := rounds_inv hn hS h0 hI
  have hstart : ∃ t, t ≤ n ∧ line (S t) ≠ IN := by
    by_cases e : line (S 0) = IN
    · have key : ∀ i, i ≤ p → line (S i) = IN := fun i => by
        induction i with
        | zero => exact fun _ => e
        | succ i ih =>
          intro hi
          rw [hS, hother _ _ (by rw [Nat.mod_eq_of_lt (by omega)]; omega)]
          exact ih (by omega)
      refine ⟨p + 1, by omega, ?_⟩
      rw [hS, Nat.mod_eq_of_lt hp]
      exact hout _ (hinv p) (key p (Nat.le_refl _))
    · exact ⟨0, by omega, e⟩
  obtain ⟨t, ht, he⟩ := hstart
  obtain ⟨u, g1, g2, g3⟩ := rounds_done (Done := fun s => line s = IN) hn hS hinv hM B t (hB _ (hinv t))
  have became : ∀ i, line (S (t + i)) = IN → ∃ w, t ≤ w ∧ w < t + i ∧ w % n = p ∧ line (S (w + 1)) = IN := fun i => by
    induction i with
    | zero => exact fun h => absurd h he
    | succ i ih =>
      intro h
      by_cases e : line (S (t + i)) = IN
      · obtain ⟨w, f1, f2, f3⟩ := ih e
        exact ⟨w, f1, by omega, f3⟩
      · refine ⟨t + i, by omega, by omega, ?_, h⟩
        by_cases e2 : (t + i) % n = p
        · exact e2
        · rw [show t + (i + 1) = t + i + 1 from rfl, hS, hother _ _ e2] at h
          exact absurd h e
  obtain ⟨w, f1, f2, f3, f4⟩ := became (u - t) (by rw [show t + (u - t) = u by omega]; exact g3)
  refine ⟨w, ?_, f3, f4⟩
  have h1 : (B + 2) * n ≤ R * n := Nat.mul_le_mul_right n hR
  have h2 : (B + 2) * n = (B + 1) * n + n := Nat.succ_mul _ _
  omega
end
end Go.Proofs.Ytimdhnjkjflbdaa
