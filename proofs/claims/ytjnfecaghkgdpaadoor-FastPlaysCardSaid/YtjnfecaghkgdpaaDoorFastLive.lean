import Derived.Test.YtjnfecaghkgdpaaDoorFastMath
import Derived.Test.YtjnfecaghkgdpaaDoorRounds
/-
  Chapter 11 as plain mathematics: if all do a line in turn, again and again one comes in.
-/
namespace Go.Proofs.YtjnfecaghkgdpaaDoor

/-- The sum of the first so many. -/
def vsum (f : Nat → Nat) : Nat → Nat
  | 0 => 0
  | k + 1 => vsum f k + f k
theorem vsum_le {f g : Nat → Nat} {k : Nat} (h : ∀ i, i < k → f i ≤ g i) : vsum f k ≤ vsum g k := by
  induction k with
  | zero => exact Nat.le_refl _
  | succ k ih =>
    have h1 := ih fun i hi => h i (by omega)
    have h2 := h k (by omega)
    unfold vsum; omega
theorem vsum_lt {f g : Nat → Nat} {k x : Nat} (hx : x < k) (h : ∀ i, i < k → i ≠ x → f i ≤ g i) (hlt : f x < g x) : vsum f k < vsum g k := by
  induction k with
  | zero => omega
  | succ k ih =>
    unfold vsum
    by_cases e : x = k
    · subst e
      have h1 := vsum_le (f := f) (g := g) (k := x) fun i hi => h i (by omega) (by omega)
      omega
    · have h1 := ih (by omega) fun i hi hne => h i (by omega) hne
      have h2 := h k (by omega) (fun e2 => e e2.symm)
      omega
theorem vsum_const {f : Nat → Nat} {k c : Nat} (h : ∀ i, i < k → f i ≤ c) : vsum f k ≤ k * c := by
  induction k with
  | zero => exact Nat.zero_le _
  | succ k ih =>
    have h1 := ih fun i hi => h i (by omega)
    have h2 := h k (by omega)
    unfold vsum
    rw [Nat.succ_mul]; omega
theorem vsum_zero {f : Nat → Nat} {k : Nat} (h : vsum f k = 0) {i : Nat} (hi : i < k) : f i = 0 := by
  induction k with
  | zero => omega
  | succ k ih =>
    unfold vsum at h
    by_cases e : i = k
    · subst e; omega
    · exact ih (by omega) (by omega)
theorem vsum_none {f : Nat → Nat} {k : Nat} (h : ∀ i, i < k → f i = 0) : vsum f k = 0 := by
  have := vsum_const (f := f) (k := k) (c := 0) fun i hi => by rw [h i hi]; exact Nat.le_refl _
  omega
theorem vsum_same {f g : Nat → Nat} {k : Nat} (h : ∀ i, i < k → f i = g i) : vsum f k = vsum g k :=
  Nat.le_antisymm (vsum_le fun i hi => Nat.le_of_eq (h i hi)) (vsum_le fun i hi => Nat.le_of_eq (h i hi).symm)
/-- The least of the first so many; 6, if none is less. -/
def vmin (f : Nat → Nat) : Nat → Nat
  | 0 => 6
  | k + 1 => min (vmin f k) (f k)
theorem vmin_le {f : Nat → Nat} {k i : Nat} (hi : i < k) : vmin f k ≤ f i := by
  induction k with
  | zero => omega
  | succ k ih =>
    unfold vmin
    by_cases e : i = k
    · subst e; omega
    · have := ih (by omega); omega
theorem vmin_at {f : Nat → Nat} {k : Nat} : vmin f k = 6 ∨ ∃ i, i < k ∧ f i = vmin f k := by
  induction k with
  | zero => exact Or.inl rfl
  | succ k ih =>
    unfold vmin
    rcases Nat.le_total (vmin f k) (f k) with h | h
    · rw [Nat.min_eq_left h]
      rcases ih with h1 | ⟨i, h1, h2⟩
      · exact Or.inl h1
      · exact Or.inr ⟨i, by omega, h2⟩
    · rw [Nat.min_eq_right h]; exact Or.inr ⟨k, by omega, rfl⟩
theorem vmin_mono {f g : Nat → Nat} {k : Nat} (h : ∀ i, i < k → f i ≤ g i) : vmin f k ≤ vmin g k := by
  induction k with
  | zero => exact Nat.le_refl _
  | succ k ih =>
    have h1 := ih fun i hi => h i (by omega)
    have h2 := h k (by omega)
    unfold vmin; omega

/-- How many lines a hand has yet to do, while Y is not 0, till it waits. -/
def w1 (n : Nat) (h : VH) : Nat :=
  if h.a = 10 then 1 else if h.a = 9 then 1 + (n - h.k) else if h.a = 8 then n + 2 else if h.a = 7 then n + 3 else if h.a = 6 then n + 4 else
  if h.a = 4 then 1 else if h.a = 3 then 2 else if h.a = 2 then 3 else if h.a = 1 then 4 else if h.a = 14 then 5 else 0
/-- .. while Y is 0, till it writes Y. -/
def w2 (h : VH) : Nat := if h.a = 6 then 1 else if h.a = 3 then 2 else if h.a = 2 then 3 else if h.a = 1 then 4 else if h.a = 14 then 5 else 6
/-- .. till it is no longer in. -/
def w3 (h : VH) : Nat := if h.a = 12 then 2 else if h.a = 13 then 1 else 0
theorem w1_le {n : Nat} (hn : 1 ≤ n) {h : VH} : w1 n h ≤ n + 4 := by
  unfold w1
  repeat' split
  all_goals omega
theorem w3_zero {h : VH} : w3 h = 0 ↔ ¬ (12 ≤ h.a ∧ h.a ≤ 13) := by
  unfold w3
  repeat' split
  all_goals omega
def vV (n : Nat) (v : VS) : Nat :=
  if vsum (fun q => w3 (v.s q)) n ≠ 0 then 38 + vsum (fun q => w3 (v.s q)) n else if v.Y = 0 then 33 + vmin (fun q => w2 (v.s q)) n else vsum (fun q => w1 n (v.s q)) n
/-- It waits. -/
def vstuck (v : VS) (x : Nat) : Prop := (v.s x).a = 5 ∨ (v.s x).a = 11 ∨ (v.s x).a = 9 ∧ (v.s (v.s x).k).b ≠ 0
def vMv (n : Nat) (v : VS) (x : Nat) : Prop :=
  (vsum (fun q => w3 (v.s q)) n ≠ 0 → 12 ≤ (v.s x).a ∧ (v.s x).a ≤ 13) ∧
  (vsum (fun q => w3 (v.s q)) n = 0 → v.Y = 0 → w2 (v.s x) = vmin (fun q => w2 (v.s q)) n ∧ w2 (v.s x) ≤ 5) ∧
  (vsum (fun q => w3 (v.s q)) n = 0 → v.Y ≠ 0 → ¬ vstuck v x)
section
variable {n : Nat} {v : VS}
theorem vsum_in {p : Nat} (hp : p < n) (h : 12 ≤ (v.s p).a ∧ (v.s p).a ≤ 13) : vsum (fun q => w3 (v.s q)) n ≠ 0 := fun e => w3_zero.1 (vsum_zero e hp) h
theorem vsum_out (h : ∀ p, p < n → ¬ (12 ≤ (v.s p).a ∧ (v.s p).a ≤ 13)) : vsum (fun q => w3 (v.s q)) n = 0 := vsum_none fun i hi => w3_zero.2 (h i hi)
/-- Somebody moves it. -/
theorem vMv_some (k : VOk n v) : ∃ x, x < n ∧ vMv n v x := by
  by_cases h3 : vsum (fun q => w3 (v.s q)) n ≠ 0
  · have : ∃ x, x < n ∧ (12 ≤ (v.s x).a ∧ (v.s x).a ≤ 13) := by
      refine Classical.byContradiction fun hno => h3 (vsum_out fun p hp hc => hno ⟨p, hp, hc⟩)
    obtain ⟨x, hx, hc⟩ := this
    exact ⟨x, hx, fun _ => hc, fun h => absurd h h3, fun h => absurd h h3⟩
  · have h0 : vsum (fun q => w3 (v.s q)) n = 0 := by omega
    by_cases hY : v.Y = 0
    · obtain ⟨q, hq, hqa⟩ := k.zero hY
      have hq5 : w2 (v.s q) ≤ 5 := by
        unfold w2
        repeat' split
        all_goals omega
      have hm := vmin_le (f := fun q => w2 (v.s q)) hq
      rcases vmin_at (f := fun q => w2 (v.s q)) (k := n) with h6 | ⟨x, hx, e⟩
      · omega
      · refine ⟨x, hx, fun h => absurd h0 h, fun _ _ => ⟨e, ?_⟩, fun _ h => absurd hY h⟩
        omega
    · have hno : ∀ p, p < n → ¬ (12 ≤ (v.s p).a ∧ (v.s p).a ≤ 13) := fun p hp hc => vsum_in hp hc h0
      have h1 := k.yy hY
      have hr : v.Y - 1 < n := by omega
      unfold vgood at h1
      have h2 := hno _ hr
      by_cases hs : vstuck v (v.Y - 1)
      · have h9 : (v.s (v.Y - 1)).a = 9 ∧ (v.s (v.s (v.Y - 1)).k).b ≠ 0 := by
          rcases hs with h | h | h
          · omega
          · omega
          · exact h
        have hk := (k.loc _ hr).2.2.2.1 h9.1
        have hl := (k.loc _ hk).2.2.1
        refine ⟨_, hk, fun h => absurd h0 h, fun _ h => absurd h hY, fun _ _ hst => ?_⟩
        unfold vstuck at hst
        have : (v.s (v.s (v.Y - 1)).k).a = 5 ∨ (v.s (v.s (v.Y - 1)).k).a = 11 ∨ (v.s (v.s (v.Y - 1)).k).a = 9 := by
          rcases hst with h | h | h
          · exact Or.inl h
          · exact Or.inr (Or.inl h)
          · exact Or.inr (Or.inr h.1)
        exact h9.2 (hl (by omega))
      · exact ⟨_, hr, fun h => absurd h0 h, fun _ h => absurd h hY, fun _ _ => hs⟩
/-- Another one's line, and the rest. -/
theorem vstep_self {x : Nat} : (vstep n v x).s x = vone n v x := vup_same _ _ _
theorem vstep_other {x q : Nat} (h : q ≠ x) : (vstep n v x).s q = v.s q := vup_other h
theorem vstuck_same {x : Nat} (hs : vstuck v x) (hY : v.Y ≠ 0) : vstep n v x = v := by
  have e : vone n v x = v.s x := by
    unfold vone
    rcases hs with h | h | h
    · simp only [h]; simp [hY]; rw [← h]
    · simp only [h]; simp [hY]; rw [← h]
    · simp only [h.1]; simp [h.2]
  have ha : (v.s x).a = 5 ∨ (v.s x).a = 11 ∨ (v.s x).a = 9 := by
    rcases hs with h | h | h
    · exact Or.inl h
    · exact Or.inr (Or.inl h)
    · exact Or.inr (Or.inr h.1)
  unfold vstep
  rw [e, vX_same (by omega), vY_same (by omega) (by omega)]
  have : vup v.s x (v.s x) = v.s := by
    funext q
    unfold vup
    split
    · rename_i h; rw [h]
    · rfl
  rw [this]
/-- While Y is not 0 and nobody is in: who does not wait comes in, or comes nearer to waiting. -/
theorem w1_falls (k : VOk n v) {x : Nat} (hx : x < n) (hY : v.Y ≠ 0) (hs : ¬ vstuck v x) (hno : ¬ (12 ≤ (v.s x).a ∧ (v.s x).a ≤ 13)) (h12 : (vone n v x).a ≠ 12) : w1 n (vone n v x) < w1 n (v.s x) := by
  have hl := k.loc x hx
  have hk := hl.2.2.2.1
  unfold vstuck at hs
  rcases vone_cases k hx with h | h | h | h | h | h | h | h | h | h | h | h | h | h | h | h | h | h | h | h | h
  case inr.inr.inr.inr.inr.inr.inr.inr.inr.inr.inr.inr.inr.inl => exact absurd (Or.inr (Or.inr ⟨h.1, h.2.1⟩)) hs
  case inr.inr.inr.inr.inr.inr.inr.inr.inr.inr.inr.inr.inl =>
    have hkn := hk h.1
    have e1 : w1 n (vone n v x) = 1 + (n - (vone n v x).k) := by unfold w1; rw [if_neg (by omega), if_pos (by omega)]
    have e2 : w1 n (v.s x) = 1 + (n - (v.s x).k) := by unfold w1; rw [if_neg (by omega), if_pos (by omega)]
    omega
  case inr.inr.inr.inr.inr.inr.inr.inr.inr.inr.inl =>
    have e1 : w1 n (vone n v x) = 1 + (n - (vone n v x).k) := by unfold w1; rw [if_neg (by omega), if_pos (by omega)]
    have e2 : w1 n (v.s x) = n + 2 := by unfold w1; rw [if_neg (by omega), if_neg (by omega), if_pos (by omega)]
    omega
  case inr.inr.inr.inr.inr.inr.inr.inr.inr.inr.inr.inl =>
    have hkn := hk h.1
    have e1 : w1 n (vone n v x) = 1 := by unfold w1; rw [if_pos (by omega)]
    have e2 : w1 n (v.s x) = 1 + (n - (v.s x).k) := by unfold w1; rw [if_neg (by omega), if_pos (by omega)]
    omega
  all_goals first
    | (exfalso; clear hl hk; omega)
    | (obtain ⟨b1, b2⟩ := h; simp [w1, b1, b2]; try omega)
    | (obtain ⟨b1, b2, b3⟩ := h; simp [w1, b1, b2, b3]; try omega)
    | (obtain ⟨b1, b2, b3, b4⟩ := h; simp [w1, b1, b2, b3, b4]; try omega)
/-- Where nobody is in, and nobody comes in, nobody is in. -/
theorem w3_stays (k : VOk n v) (h0 : vsum (fun q => w3 (v.s q)) n = 0) {y : Nat} (hy : y < n) (h12 : (vone n v y).a ≠ 12) : vsum (fun q => w3 ((vstep n v y).s q)) n = 0 := by
  have hno : ∀ p, p < n → ¬ (12 ≤ (v.s p).a ∧ (v.s p).a ≤ 13) := fun p hp hc => vsum_in hp hc h0
  refine vsum_none fun p hp => w3_zero.2 ?_
  by_cases e : p = y
  · subst e
    rw [vstep_self]
    have h1 := hno p hp
    have hc := vone_cases k hp
    intro h2
    omega
  · rw [vstep_other e]; exact hno p hp
theorem vV_low (k : VOk n v) (h4 : n ≤ 4) (hn : 1 ≤ n) (h0 : vsum (fun q => w3 (v.s q)) n = 0) : vV n v ≤ 38 ∧ (v.Y ≠ 0 → vV n v ≤ 32) := by
  unfold vV
  rw [if_neg (by omega)]
  by_cases hY : v.Y = 0
  · rw [if_pos hY]
    obtain ⟨q, hq, hqa⟩ := k.zero hY
    have hq5 : w2 (v.s q) ≤ 5 := by
      unfold w2
      repeat' split
      all_goals omega
    have hm := vmin_le (f := fun q => w2 (v.s q)) hq
    exact ⟨by omega, fun h => absurd hY h⟩
  · rw [if_neg hY]
    have h1 := vsum_const (f := fun q => w1 n (v.s q)) (k := n) (c := n + 4) fun i _ => w1_le hn
    have h2 : n * (n + 4) ≤ 4 * (4 + 4) := Nat.mul_le_mul h4 (by omega)
    exact ⟨by omega, fun _ => by omega⟩
theorem vV_le (k : VOk n v) (h4 : n ≤ 4) (hn : 1 ≤ n) : vV n v ≤ 40 := by
  by_cases h3 : vsum (fun q => w3 (v.s q)) n = 0
  · have := (vV_low k h4 hn h3).1; omega
  · obtain ⟨x, hx, hm⟩ := vMv_some k
    have hc := hm.1 h3
    unfold vV
    rw [if_pos h3]
    have hw : ∀ i, i < n → i ≠ x → w3 (v.s i) = 0 := fun i hi hne => w3_zero.2 ((k.rel x i hx hi (fun e => hne e.symm)).1 hc).1
    have key : ∀ m, m ≤ n → vsum (fun q => w3 (v.s q)) m ≤ 2 := fun m => by
      induction m with
      | zero => exact fun _ => Nat.zero_le _
      | succ m ih =>
        intro hm
        unfold vsum
        by_cases e : m = x
        · subst e
          have h1 : vsum (fun q => w3 (v.s q)) m = 0 := vsum_none fun i hi => hw i (by omega) (by omega)
          have h2 : w3 (v.s m) ≤ 2 := by
            unfold w3
            repeat' split
            all_goals omega
          omega
        · have h1 := ih (by omega)
          have h2 := hw m (by omega) e
          omega
    have := key n (Nat.le_refl _)
    omega
theorem vV_fall (k : VOk n v) (h4 : n ≤ 4) (hn : 1 ≤ n) {x : Nat} (hx : x < n) (hm : vMv n v x) :
    ((vone n v x).a = 12 ∨ vV n (vstep n v x) < vV n v) ∧ ∀ y, y < n → y ≠ x → (vone n v y).a = 12 ∨ vV n (vstep n v y) < vV n v ∨ vV n (vstep n v y) = vV n v ∧ vMv n (vstep n v y) x := by
  by_cases h3 : vsum (fun q => w3 (v.s q)) n ≠ 0
  · have hc := hm.1 h3
    have hV : vV n v = 38 + vsum (fun q => w3 (v.s q)) n := if_pos h3
    have hw : ∀ i, i < n → i ≠ x → ¬ (12 ≤ (v.s i).a ∧ (v.s i).a ≤ 13) := fun i hi hne => ((k.rel x i hx hi (fun e => hne e.symm)).1 hc).1
    refine ⟨Or.inr ?_, fun y hy hyx => ?_⟩
    · by_cases a12 : (v.s x).a = 12
      · have ha : (vone n v x).a = 13 := by have := vone_cases k hx; omega
        have h3' : vsum (fun q => w3 ((vstep n v x).s q)) n ≠ 0 := vsum_in (v := vstep n v x) hx (by rw [vstep_self]; omega)
        have hV' : vV n (vstep n v x) = 38 + vsum (fun q => w3 ((vstep n v x).s q)) n := if_pos h3'
        have hlt : vsum (fun q => w3 ((vstep n v x).s q)) n < vsum (fun q => w3 (v.s q)) n := vsum_lt hx (fun i hi hne => by rw [vstep_other hne]; exact Nat.le_refl _) (by rw [vstep_self]; unfold w3; rw [if_neg (by omega), if_pos ha, if_pos a12]; omega)
        omega
      · have a13 : (v.s x).a = 13 := by omega
        have ha : (vone n v x).a = 14 := by have := vone_cases k hx; omega
        have h0 : vsum (fun q => w3 ((vstep n v x).s q)) n = 0 := vsum_none fun i hi => w3_zero.2 (by
          by_cases e : i = x
          · rw [e, vstep_self]; omega
          · rw [vstep_other e]; exact hw i hi e)
        have := (vV_low (k.step hx) h4 hn h0).1
        omega
    · by_cases h12 : (vone n v y).a = 12
      · exact Or.inl h12
      · have hyc := hw y hy hyx
        have e1 : vsum (fun q => w3 ((vstep n v y).s q)) n = vsum (fun q => w3 (v.s q)) n := vsum_same fun i hi => by
          by_cases e : i = y
          · rw [e, vstep_self, w3_zero.2 hyc]
            exact w3_zero.2 (by have := vone_cases k hy; omega)
          · rw [vstep_other e]
        have hxs : (vstep n v y).s x = v.s x := vstep_other fun e => hyx e.symm
        refine Or.inr (Or.inr ⟨?_, fun _ => by rw [hxs]; exact hc, fun h => absurd h (by rw [e1]; exact h3), fun h => absurd h (by rw [e1]; exact h3)⟩)
        unfold vV
        rw [e1, if_pos h3, if_pos h3]
  · have h0 : vsum (fun q => w3 (v.s q)) n = 0 := by omega
    have hno : ∀ p, p < n → ¬ (12 ≤ (v.s p).a ∧ (v.s p).a ≤ 13) := fun p hp hc => vsum_in hp hc h0
    by_cases hY : v.Y = 0
    · have hV : vV n v = 33 + vmin (fun q => w2 (v.s q)) n := by unfold vV; rw [if_neg h3, if_pos hY]
      have hx2 := hm.2.1 h0 hY
      have low : ∀ y, y < n → (vone n v y).a ≠ 12 → (v.s y).a = 6 → vV n (vstep n v y) < vV n v := fun y hy h12 a6 => by
        have h1 := (vV_low (k.step hy) h4 hn (w3_stays k h0 hy h12)).2 (by
          show vY v y ≠ 0
          unfold vY; rw [if_pos a6]; omega)
        omega
      have stay : ∀ y, y < n → (vone n v y).a ≠ 12 → (v.s y).a ≠ 6 → vV n (vstep n v y) = 33 + vmin (fun q => w2 ((vstep n v y).s q)) n ∧ (vstep n v y).Y = 0 ∧ w2 (vone n v y) ≤ w2 (v.s y) ∧ (w2 (v.s y) ≤ 5 → w2 (vone n v y) < w2 (v.s y)) := fun y hy h12 a6 => by
        have hY' : (vstep n v y).Y = 0 := by
          show vY v y = 0
          rw [vY_same a6 (by have := hno y hy; omega)]; exact hY
        refine ⟨by unfold vV; rw [if_neg (by rw [w3_stays k h0 hy h12]; omega), if_pos hY'], hY', ?_⟩
        have h1 := hno y hy
        have h7 := k.sev y hy
        rcases vone_cases k hy with h | h | h | h | h | h | h | h | h | h | h | h | h | h | h | h | h | h | h | h | h
        case inr.inr.inr.inr.inr.inr.inr.inr.inr.inr.inr.inr.inr.inl => simp [w2, h.1, h.2.2.2.1]
        all_goals first
          | (exfalso; omega)
          | (obtain ⟨b1, b2⟩ := h; simp [w2, b1, b2]; done)
          | (obtain ⟨b1, b2, b3⟩ := h; simp [w2, b1, b2, b3]; done)
          | (obtain ⟨b1, b2, b3, b4⟩ := h; simp [w2, b1, b2, b3, b4]; done)
          | (obtain ⟨b1, b2, b3, b4, b5⟩ := h; simp [w2, b1, b2, b3, b4, b5]; done)
      refine ⟨?_, fun y hy hyx => ?_⟩
      · by_cases h12 : (vone n v x).a = 12
        · exact Or.inl h12
        · refine Or.inr ?_
          by_cases a6 : (v.s x).a = 6
          · exact low x hx h12 a6
          · obtain ⟨e1, _, _, e4⟩ := stay x hx h12 a6
            have h1 := vmin_le (f := fun q => w2 ((vstep n v x).s q)) hx
            rw [vstep_self] at h1
            have h2 := e4 hx2.2
            omega
      · by_cases h12 : (vone n v y).a = 12
        · exact Or.inl h12
        · by_cases a6 : (v.s y).a = 6
          · exact Or.inr (Or.inl (low y hy h12 a6))
          · obtain ⟨e1, e2, e3, _⟩ := stay y hy h12 a6
            have hmono : vmin (fun q => w2 ((vstep n v y).s q)) n ≤ vmin (fun q => w2 (v.s q)) n := vmin_mono fun i hi => by
              by_cases e : i = y
              · rw [e, vstep_self]; exact e3
              · rw [vstep_other e]; exact Nat.le_refl _
            by_cases heq : vmin (fun q => w2 ((vstep n v y).s q)) n = vmin (fun q => w2 (v.s q)) n
            · have hxs : (vstep n v y).s x = v.s x := vstep_other fun e => hyx e.symm
              refine Or.inr (Or.inr ⟨by omega, fun h => absurd (w3_stays k h0 hy h12) h, fun _ _ => by rw [hxs, heq]; exact hx2, fun _ h => absurd e2 h⟩)
            · exact Or.inr (Or.inl (by omega))
    · have hV : vV n v = vsum (fun q => w1 n (v.s q)) n := by unfold vV; rw [if_neg h3, if_neg hY]
      have falls : ∀ y, y < n → (vone n v y).a ≠ 12 → ¬ vstuck v y → vV n (vstep n v y) < vV n v := fun y hy h12 hst => by
        have hY' : (vstep n v y).Y ≠ 0 := by
          show vY v y ≠ 0
          unfold vY
          split
          · omega
          · split
            · have := hno y hy; omega
            · exact hY
        have hV' : vV n (vstep n v y) = vsum (fun q => w1 n ((vstep n v y).s q)) n := by
          unfold vV; rw [if_neg (by rw [w3_stays k h0 hy h12]; omega), if_neg hY']
        rw [hV, hV']
        refine vsum_lt hy (fun i hi hne => by rw [vstep_other hne]; exact Nat.le_refl _) ?_
        rw [vstep_self]
        exact w1_falls k hy hY hst (hno y hy) h12
      refine ⟨?_, fun y hy hyx => ?_⟩
      · by_cases h12 : (vone n v x).a = 12
        · exact Or.inl h12
        · exact Or.inr (falls x hx h12 (hm.2.2 h0 hY))
      · by_cases h12 : (vone n v y).a = 12
        · exact Or.inl h12
        · by_cases hst : vstuck v y
          · rw [vstuck_same hst hY]; exact Or.inr (Or.inr ⟨rfl, hm⟩)
          · exact Or.inr (Or.inl (falls y hy h12 hst))
end
/-- A state, and how often somebody came in. -/
def vcstep (n : Nat) (g : VS × Nat) (x : Nat) : VS × Nat := (vstep n g.1 x, g.2 + if (vone n g.1 x).a = 12 then 1 else 0)
/-- How often somebody came in by some time. -/
def vcnt (n : Nat) (S : Nat → VS) : Nat → Nat
  | 0 => 0
  | t + 1 => vcnt n S t + if ((S (t + 1)).s (t % n)).a = 12 then 1 else 0
theorem vcnt_mono (n : Nat) (S : Nat → VS) {t u : Nat} (h : t ≤ u) : vcnt n S t ≤ vcnt n S u := by
  induction u with
  | zero => rw [show t = 0 by omega]; exact Nat.le_refl _
  | succ u ih =>
    by_cases e : t = u + 1
    · rw [e]; exact Nat.le_refl _
    · have := ih (by omega)
      rw [vcnt]; omega
theorem fast_some {n : Nat} {S : Nat → VS} (hn : 1 ≤ n) (h4 : n ≤ 4) (h0 : VOk n (S 0)) (hS : ∀ t, S (t + 1) = vstep n (S t) (t % n)) : 3 ≤ vcnt n S (200 * n) := by
  have hinv := rounds_inv (Inv := VOk n) hn hS h0 (fun s p k hp => k.step hp)
  obtain ⟨u, g1, g2, g3⟩ := rounds_doneR (σ := VS × Nat) (S := fun t => (S t, vcnt n S t)) (step := vcstep n) (Inv := fun g => VOk n g.1) hn
    (fun t => by
      show (S (t + 1), vcnt n S (t + 1)) = _
      unfold vcstep
      rw [vcnt, hS]
      dsimp only
      rw [vstep_self])
    hinv (Done := fun g => 3 ≤ g.2) (V := fun g => (3 - g.2) * 41 + vV n g.1) (Mv := fun g x => vMv n g.1 x)
    (fun g k _ => vMv_some k)
    (fun g x k hd hx hm => by
      have hf := vV_fall k h4 hn hx hm
      have step : ∀ y, y < n → (vone n g.1 y).a = 12 → 3 ≤ (vcstep n g y).2 ∨ (3 - (vcstep n g y).2) * 41 + vV n (vcstep n g y).1 < (3 - g.2) * 41 + vV n g.1 := fun y hy h12 => by
        have e2 : (vcstep n g y).2 = g.2 + 1 := by unfold vcstep; dsimp only; rw [if_pos h12]
        have h1 := vV_le (k.step hy) h4 hn
        have e1 : (vcstep n g y).1 = vstep n g.1 y := rfl
        rw [e1, e2]
        omega
      refine ⟨?_, fun y hy hyx => ?_⟩
      · by_cases h12 : (vone n g.1 x).a = 12
        · exact step x hx h12
        · have e2 : (vcstep n g x).2 = g.2 := by unfold vcstep; dsimp only; rw [if_neg h12]; rfl
          have e1 : (vcstep n g x).1 = vstep n g.1 x := rfl
          rcases hf.1 with h | h
          · exact absurd h h12
          · refine Or.inr ?_
            rw [e1, e2]; omega
      · by_cases h12 : (vone n g.1 y).a = 12
        · rcases step y hy h12 with h | h
          · exact Or.inl h
          · exact Or.inr (Or.inl h)
        · have e2 : (vcstep n g y).2 = g.2 := by unfold vcstep; dsimp only; rw [if_neg h12]; rfl
          have e1 : (vcstep n g y).1 = vstep n g.1 y := rfl
          rw [e1, e2]
          rcases hf.2 y hy hyx with h | h | h
          · exact absurd h h12
          · exact Or.inr (Or.inl (by omega))
          · exact Or.inr (Or.inr ⟨by omega, h.2⟩))
    163 0 (by
      show (3 - 0) * 41 + vV n (S 0) ≤ 163
      have := vV_le h0 h4 hn
      omega)
  have h1 := vcnt_mono n S (show u ≤ 200 * n by
    have : (163 + 1) * n ≤ 200 * n := Nat.mul_le_mul_right n (by omega)
    omega)
  exact Nat.le_trans g3 h1
end Go.Proofs.YtjnfecaghkgdpaaDoor
