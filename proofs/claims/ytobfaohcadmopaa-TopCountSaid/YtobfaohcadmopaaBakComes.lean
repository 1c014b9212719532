import Derived.Test.YtobfaohcadmopaaBakLive
/-
  Chapter 7 as plain mathematics: each comes in, in one of the rounds.
-/
namespace Go.Proofs.Ytobfaohcadmopaa
section
variable {n : Nat} {S : Nat → Nat → BH}
open Classical in
theorem bahead_lt {p : Nat} (hp : p < n) (s : Nat → BH) : bahead n p s + 1 ≤ n := by
  unfold bahead
  refine Nat.le_trans (bcnt_lt (Q := fun _ => true) (x := p) (fun _ _ _ => rfl) hp ?_ rfl) (bcnt_le _ _)
  exact decide_eq_false fun h => h.1 rfl
theorem BRun.from5 (h : BRun n S) {p : Nat} (hp : p < n) (t : Nat) (ha : (S t p).a = 5 ∨ (S t p).a = 6) : ∃ u, t ≤ u ∧ u ≤ t + (n * n + 2 * n) + n * (n * (n * n + 5 * n) + 3 * n) ∧ (S u p).a = 7 := by
  by_cases hex : ∃ u, t ≤ u ∧ u ≤ t + (n * n + 2 * n) ∧ (S u p).a = 7
  · obtain ⟨u, h1, h2, h3⟩ := hex
    exact ⟨u, h1, by omega, h3⟩
  have wait : ∀ x, x ≤ n * n + 2 * n → (S (t + x) p).a = 5 ∨ (S (t + x) p).a = 6 := fun x hx => by
    rcases h.waits ha x with ⟨u, h1, h2, h3⟩ | h1
    · exact absurd ⟨u, h1, by omega, h3⟩ hex
    · exact h1
  have start : ∀ j, j < n → j ≠ p → ∃ x, x ≤ n * n + 2 * n ∧ (BG p p j (S (t + x)) ∨ 4 ≤ (S (t + x) j).a) := fun j hj _ => by
    by_cases a4 : 4 ≤ (S t j).a
    · exact ⟨0, by omega, Or.inr a4⟩
    · by_cases a1 : (S t j).a = 1
      · exact ⟨0, by omega, Or.inl (by unfold BG; rw [Nat.add_zero]; omega)⟩
      · have hl := (h.ok t).loc j hj
        unfold BLoc at hl
        obtain ⟨u, h1, h2, h3⟩ := h.chosen hj t (by omega)
        refine ⟨u - t, by omega, Or.inr ?_⟩
        rw [show t + (u - t) = u by omega]; omega
  have hQ : ∀ j, j < n → j ≠ p → BG p p j (S (t + (n * n + 2 * n))) ∨ 4 ≤ (S (t + (n * n + 2 * n)) j).a := fun j hj hne => by
    obtain ⟨x, hx, h0⟩ := start j hj hne
    have key : ∀ y, x + y ≤ n * n + 2 * n → BG p p j (S (t + (x + y))) ∨ 4 ≤ (S (t + (x + y)) j).a := fun y => by
      induction y with
      | zero => exact fun _ => h0
      | succ y ih => exact fun hy => h.mind2 hp hne (wait (x + y) (by omega)) (wait (x + y + 1) (by omega)) (ih (by omega))
    have := key (n * n + 2 * n - x) (by omega)
    rwa [show x + (n * n + 2 * n - x) = n * n + 2 * n by omega] at this
  have hc := bahead_lt hp (S (t + (n * n + 2 * n)))
  obtain ⟨u, h1, h2, h3⟩ := h.turn hp (n - 1) (t + (n * n + 2 * n)) (wait _ (Nat.le_refl _)) hQ (by omega)
  rw [show n - 1 + 1 = n by omega] at h2
  exact ⟨u, by omega, h2, h3⟩
theorem BRun.from1 (h : BRun n S) {p : Nat} (hp : p < n) (t : Nat) (ha : (S t p).a ≤ 6) : ∃ u, t ≤ u ∧ u ≤ t + n + 2 * (n * n + 2 * n) + n * (n * (n * n + 5 * n) + 3 * n) ∧ (S u p).a = 7 := by
  have h2 : ∀ t, 2 ≤ (S t p).a → (S t p).a ≤ 6 → ∃ u, t ≤ u ∧ u ≤ t + 2 * (n * n + 2 * n) + n * (n * (n * n + 5 * n) + 3 * n) ∧ (S u p).a = 7 := fun t a2 a6 => by
    by_cases a5 : 5 ≤ (S t p).a
    · obtain ⟨u, g1, g2, g3⟩ := h.from5 hp t (by omega)
      exact ⟨u, g1, by omega, g3⟩
    · obtain ⟨u, g1, g2, g3⟩ := h.chosen hp t (by omega)
      obtain ⟨w, f1, f2, f3⟩ := h.from5 hp u (Or.inl g3)
      exact ⟨w, by omega, by omega, f3⟩
  have hl := (h.ok t).loc p hp
  unfold BLoc at hl
  by_cases a1 : (S t p).a = 1
  · obtain ⟨u, g1, g2, g3, g4⟩ := h.next t hp
    have g5 := g4 u g1 (Nat.le_refl _)
    have g6 := bone_one (n := n) (s := S u) (p := p) (by rw [g5]; exact a1)
    rw [← g3] at g6
    obtain ⟨w, f1, f2, f3⟩ := h2 (u + 1) (by omega) (by omega)
    exact ⟨w, by omega, by omega, f3⟩
  · obtain ⟨u, g1, g2, g3⟩ := h2 t (by omega) ha
    exact ⟨u, g1, by omega, g3⟩
theorem BRun.became (h : BRun n S) {p t : Nat} (i : Nat) (h1 : (S t p).a ≠ 7) (h2 : (S (t + i) p).a = 7) : ∃ w, t ≤ w ∧ w < t + i ∧ w % n = p ∧ (S (w + 1) p).a = 7 := by
  induction i with
  | zero => exact absurd h2 h1
  | succ i ih =>
    by_cases e : (S (t + i) p).a = 7
    · obtain ⟨w, g1, g2, g3⟩ := ih e
      exact ⟨w, g1, by omega, g3⟩
    · refine ⟨t + i, by omega, by omega, ?_, h2⟩
      by_cases e2 : (t + i) % n = p
      · exact e2
      rw [show t + (i + 1) = t + i + 1 from rfl, h.other e2] at h2
      exact absurd h2 e
/-- Just done its line, it is at line 7, in one of the rounds. -/
theorem BRun.comes (h : BRun n S) (h4 : n ≤ 4) {p : Nat} (hp : p < n) : ∃ r, r < 200 ∧ (S (r * n + p + 1) p).a = 7 := by
  have hn := h.pos
  have h0 : ∃ t, t ≤ 2 * n ∧ (S t p).a ≤ 6 := by
    by_cases e : (S 0 p).a ≤ 6
    · exact ⟨0, by omega, e⟩
    · obtain ⟨u, _, g2, g3⟩ := h.out hp 0 (by omega)
      exact ⟨u, by omega, by omega⟩
  obtain ⟨t, ht, ha⟩ := h0
  obtain ⟨u, g1, g2, g3⟩ := h.from1 hp t ha
  have hlt : u < n * 200 := by
    have h5 : n = 1 ∨ n = 2 ∨ n = 3 ∨ n = 4 := by omega
    rcases h5 with rfl | rfl | rfl | rfl <;> omega
  have hne : (S t p).a ≠ 7 := by omega
  obtain ⟨w, f1, f2, f3, f4⟩ := h.became (u - t) hne (by rw [show t + (u - t) = u by omega]; exact g3)
  have hdm := Nat.div_add_mod w n
  refine ⟨w / n, Nat.div_lt_of_lt_mul (by omega), ?_⟩
  rw [show w / n * n + p + 1 = w + 1 by rw [Nat.mul_comm]; omega]
  exact f4
end
end Go.Proofs.Ytobfaohcadmopaa
