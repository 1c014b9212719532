import Derived.Test.YtobfaohcadmopaaBakGoes
/-
  Chapter 7 as plain mathematics: nobody waits for ever.
-/
namespace Go.Proofs.Ytobfaohcadmopaa

def bcnt (P : Nat → Bool) : Nat → Nat
  | 0 => 0
  | n + 1 => bcnt P n + (if P n then 1 else 0)
theorem bcnt_le (P : Nat → Bool) (n : Nat) : bcnt P n ≤ n := by
  induction n with
  | zero => exact Nat.le_refl _
  | succ n ih => unfold bcnt; split <;> omega
theorem bcnt_mono {P Q : Nat → Bool} {n : Nat} (h : ∀ i, i < n → P i = true → Q i = true) : bcnt P n ≤ bcnt Q n := by
  induction n with
  | zero => exact Nat.le_refl _
  | succ n ih =>
    have h1 := ih fun i hi => h i (by omega)
    have h2 := h n (by omega)
    unfold bcnt
    by_cases e : P n = true
    · rw [if_pos e, if_pos (h2 e)]; omega
    · rw [if_neg e]; omega
theorem bcnt_lt {P Q : Nat → Bool} {n x : Nat} (h : ∀ i, i < n → P i = true → Q i = true) (hx : x < n) (hp : P x = false) (hq : Q x = true) : bcnt P n + 1 ≤ bcnt Q n := by
  induction n with
  | zero => omega
  | succ n ih =>
    unfold bcnt
    by_cases e : x = n
    · subst e
      have h1 := bcnt_mono (n := x) fun i hi => h i (by omega)
      rw [if_pos hq, hp, if_neg (by decide)]; omega
    · have h1 := ih (fun i hi => h i (by omega)) (by omega)
      have h2 := h n (by omega)
      by_cases e2 : P n = true
      · rw [if_pos e2, if_pos (h2 e2)]; omega
      · rw [if_neg e2]; omega
/-- The least of some. -/
theorem lexmin {P : Nat → Prop} (s : Nat → BH) (n : Nat) (h : ∃ p, p < n ∧ P p) : ∃ i, i < n ∧ P i ∧ ∀ j, j < n → P j → j ≠ i → BLex s i j := by
  induction n with
  | zero => obtain ⟨p, hp, _⟩ := h; omega
  | succ n ih =>
    by_cases e : ∃ p, p < n ∧ P p
    · obtain ⟨i, h1, h2, h3⟩ := ih e
      by_cases hn : P n ∧ (s n).w < (s i).w
      · refine ⟨n, by omega, hn.1, fun j hj hP hne => ?_⟩
        unfold BLex
        by_cases e2 : j = i
        · subst e2; exact Or.inl hn.2
        · have := h3 j (by omega) hP e2
          unfold BLex at this; omega
      · refine ⟨i, by omega, h2, fun j hj hP hne => ?_⟩
        by_cases e2 : j = n
        · subst e2
          unfold BLex
          have : ¬ (s j).w < (s i).w := fun e => hn ⟨hP, e⟩
          omega
        · exact h3 j (by omega) hP hne
    · obtain ⟨p, hp, hP⟩ := h
      have hpn : ∀ x, x < n + 1 → P x → x = n := fun x hx hP => by
        rcases Nat.lt_or_ge x n with h1 | h1
        · exact absurd ⟨x, h1, hP⟩ e
        · omega
      have := hpn p hp hP
      subst this
      exact ⟨p, by omega, hP, fun j hj hPj hne => absurd (hpn j hj hPj) hne⟩
/-- Hand j gets a greater number than i, or has it; who reads p's number sees as much. -/
def BG (i p j : Nat) (s : Nat → BH) : Prop := ((s j).a = 2 → p < (s j).k → (s i).w ≤ (s j).m) ∧ ((s j).a = 3 → (s i).w ≤ (s j).m) ∧ (4 ≤ (s j).a → BLex s i j)
theorem bone_least {n : Nat} {s : Nat → BH} {p i W : Nat} (hW : W ≤ (s i).w) (h2 : (s p).a = 2 → i < (s p).k → W ≤ (s p).m) : ((bone n s p).a = 2 → i < (bone n s p).k → W ≤ (bone n s p).m) ∧ ((bone n s p).a = 3 → i < n → W ≤ (bone n s p).m) := by
  unfold bone
  by_cases a1 : (s p).a = 1
  · rw [if_pos a1]; dsimp only; omega
  rw [if_neg a1]
  by_cases a2 : (s p).a = 2
  · rw [if_pos a2]; dsimp only
    have hm : i = (s p).k → W ≤ (if (s p).m < (s (s p).k).w then (s (s p).k).w else (s p).m) := fun e => by
      subst e; split <;> omega
    have hm2 : (s p).m ≤ (if (s p).m < (s (s p).k).w then (s (s p).k).w else (s p).m) := by split <;> omega
    refine ⟨fun _ g2 => ?_, fun h1 hi => ?_⟩
    · by_cases e : i = (s p).k
      · exact hm e
      · exact Nat.le_trans (h2 a2 (by omega)) hm2
    · by_cases e : i = (s p).k
      · exact hm e
      · split at h1
        · exact Nat.le_trans (h2 a2 (by omega)) hm2
        · omega
  rw [if_neg a2]
  by_cases a3 : (s p).a = 3
  · rw [if_pos a3]; dsimp only; omega
  rw [if_neg a3]
  by_cases a4 : (s p).a = 4
  · rw [if_pos a4]; dsimp only; omega
  rw [if_neg a4]
  by_cases a5 : (s p).a = 5
  · rw [if_pos a5]; split
    · dsimp only; omega
    · omega
  rw [if_neg a5]
  by_cases a6 : (s p).a = 6
  · rw [if_pos a6]; split
    · dsimp only; refine ⟨fun h1 => ?_, fun h1 => ?_⟩ <;> split at h1 <;> omega
    · omega
  rw [if_neg a6]
  by_cases a7 : (s p).a = 7
  · rw [if_pos a7]; dsimp only; omega
  · rw [if_neg a7]; dsimp only; omega
theorem bone_high {n : Nat} {s : Nat → BH} {p : Nat} (h : 4 ≤ (s p).a) : 4 ≤ (bone n s p).a ∨ (bone n s p).a = 1 := by
  by_cases h6 : (s p).a ≤ 6
  · have := bone_line (n := n) (s := s) (p := p) (by omega); omega
  · by_cases a7 : (s p).a = 7
    · rw [bone_seven a7]; omega
    · unfold bone
      rw [if_neg (by omega), if_neg (by omega), if_neg (by omega), if_neg (by omega), if_neg (by omega), if_neg (by omega), if_neg a7]
      exact Or.inr rfl
section
variable {n : Nat} {S : Nat → Nat → BH}
/-- A hand with a number keeps it. -/
theorem BRun.keeps (h : BRun n S) {i t : Nat} (h1 : 4 ≤ (S t i).a) (h2 : 4 ≤ (S (t + 1) i).a) : (S (t + 1) i).w = (S t i).w := by
  by_cases e : t % n = i
  · have h3 := h.own e
    rw [h3] at h2 ⊢
    rcases bone_w (n := n) h2 with h4 | h4
    · omega
    · exact h4.2.1
  · rw [h.other e]
theorem BRun.bg (h : BRun n S) {i p j t : Nat} (hp : p < n) (hwp : (S t i).w ≤ (S t p).w) (h1 : 4 ≤ (S t i).a) (h2 : 4 ≤ (S (t + 1) i).a) (hg : BG i p j (S t)) : BG i p j (S (t + 1)) ∨ j = i := by
  by_cases hne : j = i
  · exact Or.inr hne
  left
  have hw := h.keeps h1 h2
  unfold BG BLex at hg ⊢
  rw [hw]
  by_cases e : t % n = j
  · have h3 := bone_least (n := n) hwp hg.1
    rw [h.own e]
    refine ⟨h3.1, fun h4 => h3.2 h4 hp, fun h4 => ?_⟩
    rcases bone_w (n := n) h4 with h5 | h5
    · have := hg.2.1 h5.1; omega
    · have := hg.2.2 h5.1; omega
  · rw [h.other e]; exact hg
/-- It waits, or has come in. -/
theorem BRun.waits (h : BRun n S) {p t : Nat} (ha : (S t p).a = 5 ∨ (S t p).a = 6) (x : Nat) : (∃ u, t ≤ u ∧ u ≤ t + x ∧ (S u p).a = 7) ∨ ((S (t + x) p).a = 5 ∨ (S (t + x) p).a = 6) := by
  induction x with
  | zero => exact Or.inr ha
  | succ x ih =>
    rcases ih with ⟨u, h1, h2, h3⟩ | ih
    · exact Or.inl ⟨u, h1, by omega, h3⟩
    · rw [show t + (x + 1) = t + x + 1 from rfl]
      by_cases e : (t + x) % n = p
      · have h4 := bone_line (n := n) (s := S (t + x)) (p := p) (by omega)
        rw [← h.own e] at h4
        by_cases e7 : (S (t + x + 1) p).a = 7
        · exact Or.inl ⟨t + x + 1, by omega, by omega, e7⟩
        · right; omega
      · rw [h.other e]; exact Or.inr ih
/-- Who has the least number, of all that have one, comes in. -/
theorem BRun.least (h : BRun n S) {i E : Nat} (hi : i < n) (t : Nat) (hlex : ∀ u, t ≤ u → u ≤ E → ∀ j, j < n → j ≠ i → 4 ≤ (S u j).a → BLex (S u) i j) (ha : 4 ≤ (S t i).a ∧ (S t i).a ≤ 6) (hE : t + n * (n * n + 5 * n) + n ≤ E) : ∃ u, t ≤ u ∧ u ≤ t + n * (n * n + 5 * n) + n ∧ (S u i).a = 7 := by
  by_cases a4 : (S t i).a = 4
  · obtain ⟨u, h1, h2, h3⟩ := h.four hi t a4
    obtain ⟨w, g1, g2, g3⟩ := h.scan hi n u (fun x hx => hlex x (by omega)) (Or.inl h3) (by omega) (by omega)
    exact ⟨w, by omega, by omega, g3⟩
  · obtain ⟨w, g1, g2, g3⟩ := h.scan hi n t hlex (by omega) (by omega) (by omega)
    exact ⟨w, by omega, by omega, g3⟩
theorem BRun.mind (h : BRun n S) {p j t : Nat} (hp : p < n) (hne : j ≠ p) (h1 : (S t p).a = 5 ∨ (S t p).a = 6) (h2 : (S (t + 1) p).a = 5 ∨ (S (t + 1) p).a = 6) (hg : BG p p j (S t)) : BG p p j (S (t + 1)) := by
  rcases h.bg hp (Nat.le_refl _) (by omega) (by omega) hg with h3 | h3
  · exact h3
  · exact absurd h3 hne
theorem BRun.mind2 (h : BRun n S) {p j t : Nat} (hp : p < n) (hne : j ≠ p) (h1 : (S t p).a = 5 ∨ (S t p).a = 6) (h2 : (S (t + 1) p).a = 5 ∨ (S (t + 1) p).a = 6) (hg : BG p p j (S t) ∨ 4 ≤ (S t j).a) : BG p p j (S (t + 1)) ∨ 4 ≤ (S (t + 1) j).a := by
  rcases hg with hg | hg
  · exact Or.inl (h.mind hp hne h1 h2 hg)
  · by_cases e : t % n = j
    · rw [h.own e]
      rcases bone_high (n := n) hg with h3 | h3
      · exact Or.inr h3
      · left
        rw [← h.own e] at h3
        unfold BG; omega
    · rw [h.other e]; exact Or.inr hg
open Classical in
/-- How many may be ahead of p. -/
noncomputable def bahead (n p : Nat) (s : Nat → BH) : Nat := bcnt (fun j => decide (j ≠ p ∧ ¬ BG p p j s)) n
open Classical in
/-- Who waits comes in, when those ahead have been in. -/
theorem BRun.turn (h : BRun n S) {p : Nat} (hp : p < n) (c : Nat) (t : Nat) (ha : (S t p).a = 5 ∨ (S t p).a = 6) (hQ : ∀ j, j < n → j ≠ p → BG p p j (S t) ∨ 4 ≤ (S t j).a) (hc : bahead n p (S t) ≤ c) : ∃ u, t ≤ u ∧ u ≤ t + (c + 1) * (n * (n * n + 5 * n) + 3 * n) ∧ (S u p).a = 7 := by
  induction c generalizing t with
  | zero => ?_
  | succ c ih => ?_
  all_goals
    by_cases hex : ∃ u, t ≤ u ∧ u ≤ t + (n * (n * n + 5 * n) + 3 * n) ∧ (S u p).a = 7
    · obtain ⟨u, h1, h2, h3⟩ := hex
      refine ⟨u, h1, ?_, h3⟩
      rw [Nat.succ_mul]; omega
    have wait : ∀ x, x ≤ n * (n * n + 5 * n) + 3 * n → (S (t + x) p).a = 5 ∨ (S (t + x) p).a = 6 := fun x hx => by
      rcases h.waits ha x with ⟨u, h1, h2, h3⟩ | h1
      · exact absurd ⟨u, h1, by omega, h3⟩ hex
      · exact h1
    have hw : ∀ x, x ≤ n * (n * n + 5 * n) + 3 * n → (S (t + x) p).w = (S t p).w := fun x => by
      induction x with
      | zero => exact fun _ => rfl
      | succ x ih2 =>
        intro hx
        have h1 : 4 ≤ (S (t + x) p).a := by
          have := wait x (by omega)
          omega
        have h2 : 4 ≤ (S (t + x + 1) p).a := by
          have := wait (x + 1) hx
          rw [show t + (x + 1) = t + x + 1 from rfl] at this
          omega
        exact (h.keeps h1 h2).trans (ih2 (by omega))
    have mind : ∀ j, j ≠ p → BG p p j (S t) → ∀ x, x ≤ n * (n * n + 5 * n) + 3 * n → BG p p j (S (t + x)) := fun j hne hg x => by
      induction x with
      | zero => exact fun _ => hg
      | succ x ih2 => exact fun hx => h.mind hp hne (wait x (by omega)) (wait (x + 1) hx) (ih2 (by omega))
    have mind2 : ∀ j, j < n → j ≠ p → ∀ x, x ≤ n * (n * n + 5 * n) + 3 * n → BG p p j (S (t + x)) ∨ 4 ≤ (S (t + x) j).a := fun j hj hne x => by
      induction x with
      | zero => exact fun _ => hQ j hj hne
      | succ x ih2 => exact fun hx => h.mind2 hp hne (wait x (by omega)) (wait (x + 1) hx) (ih2 (by omega))
    obtain ⟨i, hi, hia, hmin⟩ := lexmin (P := fun j => 4 ≤ (S t j).a) (S t) n ⟨p, hp, by omega⟩
    have hip : (S t i).w ≤ (S t p).w := by
      by_cases e : p = i
      · rw [e]; exact Nat.le_refl _
      · have := hmin p hp (by omega) e
        unfold BLex at this; omega
    have hG : ∀ j, j < n → j ≠ i → BG i p j (S t) := fun j hj hne => by
      by_cases a4 : 4 ≤ (S t j).a
      · have := hmin j hj a4 hne
        exact ⟨fun _ => by omega, fun _ => by omega, fun _ => this⟩
      · have hjp : j ≠ p := by intro e; subst e; omega
        rcases hQ j hj hjp with h1 | h1
        · exact ⟨fun h2 h3 => Nat.le_trans hip (h1.1 h2 h3), fun h2 => Nat.le_trans hip (h1.2.1 h2), fun h2 => absurd h2 a4⟩
        · exact absurd h1 a4
    by_cases hlow : ∃ x, x ≤ n * (n * n + 5 * n) + 3 * n ∧ ¬ 4 ≤ (S (t + x) i).a
    · obtain ⟨x, hx, hlo⟩ := hlow
      have hne : i ≠ p := by
        intro e; subst e
        have := wait x hx; omega
      have hb : ¬ BG p p i (S t) := fun hg => by
        have h1 := hg.2.2 hia
        have h2 := hmin p hp (by omega) (fun e => hne e.symm)
        unfold BLex at h1 h2; omega
      have hb2 : BG p p i (S (t + x)) := by
        rcases mind2 i hi hne x hx with h1 | h1
        · exact h1
        · exact absurd h1 hlo
      have hlt : bahead n p (S (t + x)) + 1 ≤ bahead n p (S t) := by
        unfold bahead
        refine bcnt_lt (x := i) (fun j hj h1 => ?_) hi ?_ ?_
        · have h2 := of_decide_eq_true h1
          exact decide_eq_true ⟨h2.1, fun hg => h2.2 (mind j h2.1 hg x hx)⟩
        · exact decide_eq_false fun h2 => h2.2 hb2
        · exact decide_eq_true ⟨hne, hb⟩
      first
      | (exfalso; omega)
      | (obtain ⟨u, h1, h2, h3⟩ := ih (t + x) (wait x hx) (fun j hj hne => mind2 j hj hne x hx) (by omega)
         refine ⟨u, by omega, ?_, h3⟩
         rw [Nat.succ_mul (c + 1)]; omega)
    · have hhi : ∀ x, x ≤ n * (n * n + 5 * n) + 3 * n → 4 ≤ (S (t + x) i).a := fun x hx => by
        by_cases e : 4 ≤ (S (t + x) i).a
        · exact e
        · exact absurd ⟨x, hx, e⟩ hlow
      have hwi : ∀ x, x ≤ n * (n * n + 5 * n) + 3 * n → (S (t + x) i).w = (S t i).w := fun x => by
        induction x with
        | zero => exact fun _ => rfl
        | succ x ih2 => exact fun hx => (h.keeps (hhi x (by omega)) (hhi (x + 1) hx)).trans (ih2 (by omega))
      have hbg : ∀ j, j < n → j ≠ i → ∀ x, x ≤ n * (n * n + 5 * n) + 3 * n → BG i p j (S (t + x)) := fun j hj hne x => by
        induction x with
        | zero => exact fun _ => hG j hj hne
        | succ x ih2 =>
          intro hx
          rcases h.bg hp (by rw [hwi x (by omega), hw x (by omega)]; exact hip) (hhi x (by omega)) (hhi (x + 1) hx) (ih2 (by omega)) with h1 | h1
          · exact h1
          · exact absurd h1 hne
      have h7 : ∃ u, t ≤ u ∧ u ≤ t + n * (n * n + 5 * n) + n ∧ 7 ≤ (S u i).a := by
        by_cases a6 : (S t i).a ≤ 6
        · obtain ⟨u, h1, h2, h3⟩ := h.least hi t (E := t + n * (n * n + 5 * n) + n) (fun u h1 h2 j hj hne h4 => by
            have := (hbg j hj hne (u - t) (by omega)).2.2
            rw [show t + (u - t) = u by omega] at this
            exact this h4) (by omega) (Nat.le_refl _)
          exact ⟨u, h1, h2, by omega⟩
        · exact ⟨t, Nat.le_refl _, by omega, by omega⟩
      obtain ⟨u, h1, h2, h3⟩ := h7
      obtain ⟨w, g1, g2, g3⟩ := h.out hi u h3
      have := hhi (w - t) (by omega)
      rw [show t + (w - t) = w by omega] at this
      omega
end
end Go.Proofs.Ytobfaohcadmopaa
