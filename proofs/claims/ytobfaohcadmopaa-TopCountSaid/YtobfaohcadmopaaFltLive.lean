import Derived.Test.YtobfaohcadmopaaFltGoes
/-
  Chapter 6 as plain mathematics: nobody waits for ever.
-/
namespace Go.Proofs.Ytobfaohcadmopaa

theorem fstep_l {n : Nat} {s : FS} {p : Nat} (h1 : s.a p ≠ 1) (h2 : 2 ≤ s.a p ∧ s.a p ≤ 5) : (fstep n s p).l p = s.l p := by
  unfold fstep fpass
  rw [if_neg h1]
  repeat' split
  all_goals first | rfl | omega
section
variable {n : Nat} {S : Nat → FS}
/-- Who waits at door d passes it, if who is beyond comes in. -/
theorem FRun.wait (h : FRun n S) {d T : Nat} (hd : 1 ≤ d) (hup : ∀ t q, q < n → (S t).a q ≤ 4 → d + 1 ≤ (S t).j q → ∃ u, t ≤ u ∧ u ≤ t + T * n ∧ (S u).a q = 5) {p : Nat} (hp : p < n) (t : Nat) (ha : (S t).a p = 3 ∨ (S t).a p = 4) (hj : (S t).j p = d) : ∃ u, t ≤ u ∧ u ≤ t + (T + 3 * n + 6) * n ∧ FPass n d (S u) p := by
  by_cases hex : ∃ u, t ≤ u ∧ u ≤ t + (T + 3 * n + 6) * n ∧ FPass n d (S u) p
  · exact hex
  exfalso
  have e1 : (T + 3 * n + 6) * n = T * n + 3 * (n * n) + 6 * n := by rw [Nat.add_mul, Nat.add_mul, Nat.mul_assoc]
  have e2 : (n + 1) * n = n * n + n := Nat.succ_mul _ _
  have hno : ∀ u, t ≤ u → u ≤ t + T * n + 3 * (n * n) + 6 * n → ¬ FPass n d (S u) p := fun u h1 h2 h3 => hex ⟨u, h1, by omega, h3⟩
  have stays : ∀ i, t + i ≤ t + T * n + 3 * (n * n) + 6 * n → ((S (t + i)).a p = 3 ∨ (S (t + i)).a p = 4) ∧ (S (t + i)).j p = d := by
    intro i
    induction i with
    | zero => exact fun _ => ⟨ha, hj⟩
    | succ i ih =>
      intro hi
      obtain ⟨g1, g2⟩ := ih (by omega)
      have h7 := h.st (t + i)
      have h9 := hno (t + i + 1) (by omega) (by omega)
      by_cases e : (t + i) % n = p
      · rw [e] at h7
        rw [show t + (i + 1) = t + i + 1 from rfl]
        rcases g1 with g1 | g1
        · rcases fstep3 (n := n) g1 with h8 | h8
          · rw [← h7, g2] at h8; exact absurd h8 h9
          · rw [← h7, g2] at h8; exact ⟨Or.inr h8.2.1, h8.2.2.1⟩
        · rcases fstep4 (n := n) g1 with h8 | h8 | h8
          · rw [← h7, g2] at h8; exact absurd h8 h9
          · rw [← h7, g2] at h8; exact ⟨Or.inl h8.2.2.1, h8.2.2.2.1⟩
          · rw [← h7, g2] at h8; exact ⟨Or.inr h8.2.1, h8.2.2.1⟩
      · have h8 := fstep_other (n := n) (s := S (t + i)) (p := (t + i) % n) (q := p) (fun e2 => e e2.symm)
        rw [← h7] at h8
        rw [show t + (i + 1) = t + i + 1 from rfl, h8.1, h8.2.1]
        exact ⟨g1, g2⟩
  have stay : ∀ u, t ≤ u → u ≤ t + T * n + 3 * (n * n) + 6 * n → ((S u).a p = 3 ∨ (S u).a p = 4) ∧ (S u).j p = d := fun u h1 h2 => by
    have := stays (u - t) (by omega)
    rwa [show t + (u - t) = u by omega] at this
  have vst : ∀ u, t ≤ u → u ≤ t + T * n + 2 * (n * n) + 5 * n → (S u).v d = p + 1 := fun u h1 h2 => by
    by_cases e : (S u).v d = p + 1
    · exact e
    obtain ⟨g1, g2⟩ := stay u h1 (by omega)
    obtain ⟨w, h3, h4, h5⟩ := h.free hp n u (g1.imp id fun g => ⟨g, by omega⟩) g2 e
    exact absurd h5 (hno w (by omega) (by omega))
  have no2 : ∀ u, t ≤ u → u + n ≤ t + T * n + 2 * (n * n) + 5 * n → ∀ q, q < n → q ≠ p → (S u).a q = 2 → (S u).j q ≠ d := fun u h1 h2 q hq hqp h3 h4 => by
    obtain ⟨w, g1, g2, g3, g4⟩ := h.next u hq
    have g5 := g4 w g1 (Nat.le_refl _)
    have g6 := fstep_v n (S w) q d
    rw [if_pos ⟨by rw [g5.1]; exact h3, by rw [g5.2.1]; exact h4⟩] at g6
    have g7 := h.st w
    rw [g3] at g7
    rw [← g7, vst (w + 1) (by omega) (by omega)] at g6
    omega
  have lows : ∀ q, q < n → q ≠ p → ∀ u, t ≤ u → (S u).l q < d → ∀ i, u + i + n ≤ t + T * n + 2 * (n * n) + 5 * n → (S (u + i)).l q < d := by
    intro q hq hqp u hu hl i
    induction i with
    | zero => exact fun _ => hl
    | succ i ih =>
      intro hi
      have h1 := ih (by omega)
      have h7 := h.st (u + i)
      rw [show u + (i + 1) = u + i + 1 from rfl]
      by_cases e : (u + i) % n = q
      · rw [e] at h7
        have har := (h.ok (u + i)).ar q hq
        have hlr := (h.ok (u + i)).lr q hq
        have hjr := ((h.ok (u + i)).jr q hq).1
        by_cases a1 : (S (u + i)).a q = 1
        · rw [if_neg (by omega)] at hlr
          have h8 := fstep1 (n := n) a1
          have h9 := fstep1l (n := n) a1
          rw [← h7] at h8 h9
          have := no2 (u + i + 1) (by omega) (by omega) q hq hqp h8.1
          omega
        · by_cases a6 : (S (u + i)).a q = 6
          · have h8 := fstep6 (n := n) a6
            rw [← h7] at h8
            omega
          · have h8 := fstep_l (n := n) a1 (by omega)
            rw [← h7] at h8
            omega
      · have h8 := fstep_other (n := n) (s := S (u + i)) (p := (u + i) % n) (q := q) (fun e2 => e e2.symm)
        rw [← h7] at h8
        omega
  have outs : ∀ q, q < n → ∀ u b, t ≤ u → u ≤ t + b → ((S u).a q ≤ 4 → d + 1 ≤ (S u).j q) → ∃ w, t ≤ w ∧ w ≤ t + b + T * n + 2 * n ∧ (S w).l q < d := by
    intro q hq u b h1 h2 h3
    have : ∃ w, u ≤ w ∧ w ≤ u + T * n ∧ 5 ≤ (S w).a q := by
      by_cases e : (S u).a q ≤ 4
      · obtain ⟨w, g1, g2, g3⟩ := hup u q hq e (h3 e)
        exact ⟨w, g1, g2, by omega⟩
      · exact ⟨u, Nat.le_refl _, by omega, by omega⟩
    obtain ⟨w, g1, g2, g3⟩ := this
    obtain ⟨x, f1, f2, f3⟩ := h.out hq w g3
    exact ⟨x, by omega, by omega, by omega⟩
  have become : ∀ q, q < n → q ≠ p → ∃ u, t ≤ u ∧ u ≤ t + T * n + n * n + 3 * n ∧ (S u).l q < d := by
    intro q hq hqp
    by_cases e0 : (S t).l q < d
    · exact ⟨t, Nat.le_refl _, by omega, e0⟩
    have har := (h.ok t).ar q hq
    have hlr := (h.ok t).lr q hq
    by_cases e34 : ((S t).a q = 3 ∨ (S t).a q = 4) ∧ (S t).j q = d
    · have hv := vst t (Nat.le_refl _) (by omega)
      obtain ⟨w, h3, h4, h5⟩ := h.free hq n t (e34.1.imp id fun g => ⟨g, by omega⟩) e34.2 (by omega)
      obtain ⟨x, f1, f2, f3⟩ := outs q hq w (n * n + n) h3 (by omega) (fun _ => by rw [h5.1]; omega)
      exact ⟨x, f1, by omega, f3⟩
    · obtain ⟨x, f1, f2, f3⟩ := outs q hq t 0 (Nat.le_refl _) (by omega) (fun h4 => by
        by_cases a2 : (S t).a q = 2
        · have := no2 t (Nat.le_refl _) (by omega) q hq hqp a2
          rw [if_pos (Or.inl a2)] at hlr; omega
        · split at hlr <;> omega)
      exact ⟨x, f1, by omega, f3⟩
  obtain ⟨g1, g2⟩ := stay (t + T * n + n * n + 3 * n) (by omega) (by omega)
  obtain ⟨u, f1, f2, f3⟩ := h.clear hp (t + T * n + n * n + 3 * n) g1 g2 fun u h1 h2 q hq hqp => by
    obtain ⟨w, b1, b2, b3⟩ := become q hq hqp
    have := lows q hq hqp w b1 b3 (u - w) (by omega)
    rwa [show w + (u - w) = u by omega] at this
  exact hno u (by omega) (by omega) f3

/-- How many rounds suffice with so many doors ahead. -/
def ftime (n : Nat) : Nat → Nat
  | 0 => 0
  | e + 1 => ftime n e + (ftime n e + 3 * n + 8)
theorem FRun.live (h : FRun n S) (e : Nat) : ∀ d, 1 ≤ d → n ≤ d + e → 2 ≤ d + e → ∀ t q, q < n → (S t).a q ≤ 4 → d ≤ (S t).j q → ∃ u, t ≤ u ∧ u ≤ t + ftime n e * n ∧ (S u).a q = 5 := by
  induction e with
  | zero =>
    intro d hd h1 h2 t q hq ha hj
    have := ((h.ok t).jr q hq).2.1 ha
    omega
  | succ e ih =>
    intro d hd h1 h2 t q hq ha hj
    have hup := ih (d + 1) (by omega) (by omega) (by omega)
    have e1 : ftime n (e + 1) * n = ftime n e * n + (ftime n e + 3 * n + 6) * n + 2 * n := by
      show (ftime n e + (ftime n e + 3 * n + 8)) * n = _
      rw [← Nat.add_mul, ← Nat.add_mul]; congr 1
    have e2 : (ftime n e + 3 * n + 6) * n = ftime n e * n + 3 * (n * n) + 6 * n := by rw [Nat.add_mul, Nat.add_mul, Nat.mul_assoc]
    by_cases hj1 : d + 1 ≤ (S t).j q
    · obtain ⟨u, g1, g2, g3⟩ := hup t q hq ha hj1
      exact ⟨u, g1, by omega, g3⟩
    have hjd : (S t).j q = d := by omega
    have s34 : ∀ t, (S t).a q = 3 ∨ (S t).a q = 4 → (S t).j q = d → ∃ u, t ≤ u ∧ u ≤ t + ftime n e * n + (ftime n e + 3 * n + 6) * n ∧ (S u).a q = 5 := fun t ha hj => by
      obtain ⟨w, g1, g2, g3⟩ := h.wait hd hup hq t ha hj
      by_cases e5 : (S w).a q = 5
      · exact ⟨w, g1, by omega, e5⟩
      · have g4 := g3.2
        split at g4
        · exact absurd g4 e5
        · obtain ⟨u, f1, f2, f3⟩ := hup w q hq (by omega) (by rw [g3.1]; omega)
          exact ⟨u, by omega, by omega, f3⟩
    have s2 : ∀ t, (S t).a q = 2 → (S t).j q = d → ∃ u, t ≤ u ∧ u ≤ t + ftime n e * n + (ftime n e + 3 * n + 6) * n + n ∧ (S u).a q = 5 := fun t ha hj => by
      obtain ⟨u, g1, g2, g3, g4⟩ := h.next t hq
      have g5 := g4 u g1 (Nat.le_refl _)
      have g7 := h.st u
      rw [g3] at g7
      have g8 := fstep2 (n := n) (s := S u) (p := q) (by rw [g5.1]; exact ha)
      rw [← g7, g5.2.1, hj] at g8
      obtain ⟨w, f1, f2, f3⟩ := s34 (u + 1) (Or.inl g8.1) g8.2
      exact ⟨w, by omega, by omega, f3⟩
    have har := (h.ok t).ar q hq
    by_cases a1 : (S t).a q = 1
    · obtain ⟨u, g1, g2, g3, g4⟩ := h.next t hq
      have g5 := g4 u g1 (Nat.le_refl _)
      have g7 := h.st u
      rw [g3] at g7
      have g8 := fstep1 (n := n) (s := S u) (p := q) (by rw [g5.1]; exact a1)
      rw [← g7, g5.2.1, hjd] at g8
      obtain ⟨w, f1, f2, f3⟩ := s2 (u + 1) g8.1 g8.2
      exact ⟨w, by omega, by omega, f3⟩
    · by_cases a2 : (S t).a q = 2
      · obtain ⟨w, f1, f2, f3⟩ := s2 t a2 hjd
        exact ⟨w, f1, by omega, f3⟩
      · obtain ⟨w, f1, f2, f3⟩ := s34 t (by omega) hjd
        exact ⟨w, f1, by omega, f3⟩
theorem FRun.became (h : FRun n S) {p t : Nat} (i : Nat) (h1 : (S t).a p ≠ 5) (h2 : (S (t + i)).a p = 5) : ∃ w, t ≤ w ∧ w < t + i ∧ w % n = p ∧ (S (w + 1)).a p = 5 := by
  induction i with
  | zero => exact absurd h2 h1
  | succ i ih =>
    by_cases e : (S (t + i)).a p = 5
    · obtain ⟨w, g1, g2, g3⟩ := ih e
      exact ⟨w, g1, by omega, g3⟩
    · refine ⟨t + i, by omega, by omega, ?_, h2⟩
      by_cases e2 : (t + i) % n = p
      · exact e2
      have h8 := fstep_other (n := n) (s := S (t + i)) (p := (t + i) % n) (q := p) (fun e3 => e2 e3.symm)
      rw [← h.st] at h8
      exact absurd (h8.1.symm.trans h2) e
/-- Each comes in, in one of the rounds: just done its line, it is at line 5. -/
theorem FRun.comes (h : FRun n S) (h4 : n ≤ 4) {p : Nat} (hp : p < n) : ∃ r, r < 300 ∧ (S (r * n + p + 1)).a p = 5 := by
  have hn := h.pos
  have hT : ftime n 3 ≤ 140 := by
    show ftime n 2 + (ftime n 2 + 3 * n + 8) ≤ 140
    have : ftime n 2 = ftime n 1 + (ftime n 1 + 3 * n + 8) := rfl
    have : ftime n 1 = ftime n 0 + (ftime n 0 + 3 * n + 8) := rfl
    have : ftime n 0 = 0 := rfl
    omega
  have h0 : ∃ t, t ≤ 2 * n ∧ (S t).a p ≤ 4 := by
    by_cases e : (S 0).a p ≤ 4
    · exact ⟨0, by omega, e⟩
    · obtain ⟨u, _, g2, g3, _⟩ := h.out hp 0 (by omega)
      exact ⟨u, by omega, by omega⟩
  obtain ⟨t, ht, ha⟩ := h0
  obtain ⟨u, g1, g2, g3⟩ := h.live 3 1 (Nat.le_refl _) (by omega) (by omega) t p hp ha ((h.ok t).jr p hp).1
  obtain ⟨w, f1, f2, f3, f4⟩ := h.became (p := p) (t := t) (u - t) (by omega) (by rw [show t + (u - t) = u by omega]; exact g3)
  have hm : ftime n 3 * n ≤ 140 * n := Nat.mul_le_mul_right _ hT
  have hw : w < n * 300 := by omega
  have hdm := Nat.div_add_mod w n
  refine ⟨w / n, Nat.div_lt_of_lt_mul hw, ?_⟩
  rw [show w / n * n + p + 1 = w + 1 by rw [Nat.mul_comm]; omega]
  exact f4
end
end Go.Proofs.Ytobfaohcadmopaa
