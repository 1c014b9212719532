import Derived.Test.YtobfaohcadmopaaFltMath
/-
  Chapter 6 as plain mathematics: how many hands can be beyond a door, and so one hand inside.
-/
namespace Go.Proofs.Ytobfaohcadmopaa

/-- Of the numbers below n, how many are so. -/
def fcnt (P : Nat → Bool) : Nat → Nat
  | 0 => 0
  | n + 1 => fcnt P n + (if P n then 1 else 0)
theorem fcnt_le (P : Nat → Bool) (n : Nat) : fcnt P n ≤ n := by
  induction n with
  | zero => exact Nat.le_refl _
  | succ n ih => unfold fcnt; split <;> omega
theorem fcnt_mono {P Q : Nat → Bool} {n : Nat} (h : ∀ i, i < n → P i = true → Q i = true) : fcnt P n ≤ fcnt Q n := by
  induction n with
  | zero => exact Nat.le_refl _
  | succ n ih =>
    have h1 := ih fun i hi => h i (by omega)
    have h2 := h n (by omega)
    unfold fcnt
    by_cases e : P n = true
    · rw [if_pos e, if_pos (h2 e)]; omega
    · rw [if_neg e]; omega
theorem fcnt_lt {P Q : Nat → Bool} {n x : Nat} (h : ∀ i, i < n → P i = true → Q i = true) (hx : x < n) (hp : P x = false) (hq : Q x = true) : fcnt P n + 1 ≤ fcnt Q n := by
  induction n with
  | zero => omega
  | succ n ih =>
    unfold fcnt
    by_cases e : x = n
    · subst e
      have h1 := fcnt_mono (n := x) fun i hi => h i (by omega)
      rw [if_pos hq, hp, if_neg (by decide)]; omega
    · have h1 := ih (fun i hi => h i (by omega)) (by omega)
      have h2 := h n (by omega)
      by_cases e2 : P n = true
      · rw [if_pos e2, if_pos (h2 e2)]; omega
      · rw [if_neg e2]; omega
theorem fcnt_zero {P : Nat → Bool} {n : Nat} (h : ∀ i, i < n → P i = false) : fcnt P n = 0 := by
  induction n with
  | zero => rfl
  | succ n ih =>
    unfold fcnt
    rw [ih fun i hi => h i (by omega), h n (by omega), if_neg (by decide)]
theorem fcnt_one {P : Nat → Bool} {n : Nat} (h : ∀ x y, x < n → y < n → P x = true → P y = true → x = y) : fcnt P n ≤ 1 := by
  induction n with
  | zero => exact Nat.zero_le _
  | succ n ih =>
    unfold fcnt
    by_cases e : P n = true
    · have : fcnt P n = 0 := fcnt_zero fun i hi => by
        cases e2 : P i with
        | false => rfl
        | true => have := h i n (by omega) (by omega) e2 e; omega
      rw [if_pos e]; omega
    · have := ih fun x y hx hy => h x y (by omega) (by omega)
      rw [if_neg e]; omega
theorem fcnt_pos {P : Nat → Bool} {n x : Nat} (hx : x < n) (h : P x = true) : 1 ≤ fcnt P n := by
  have := fcnt_lt (P := fun _ => false) (Q := P) (n := n) (x := x) (fun i _ h => by simp at h) hx rfl h
  omega
theorem fcnt_two {P : Nat → Bool} {n x y : Nat} (hx : x < n) (hy : y < n) (hne : x ≠ y) (h1 : P x = true) (h2 : P y = true) : 2 ≤ fcnt P n := by
  have h3 := fcnt_lt (P := fun i => i == x) (Q := P) (n := n) (x := y) (fun i _ h => by simp at h; rw [h]; exact h1) hy (by simp; omega) h2
  have h4 := fcnt_pos (P := fun i => i == x) (n := n) hx (by simp)
  omega

/-- Beyond door d there are at most n - d hands. -/
theorem FOk.beyond {n : Nat} {s : FS} (h : FOk n s) (d : Nat) (hd : d < n) : fcnt (fun i => decide (d < s.j i)) n ≤ n - d := by
  induction d with
  | zero => exact fcnt_le _ _
  | succ d ih =>
    have h0 := ih (by omega)
    rcases h.wt (d + 1) (by omega) hd with ⟨x, hx, _, hj, _⟩ | h2
    · have := fcnt_lt (P := fun i => decide (d + 1 < s.j i)) (Q := fun i => decide (d < s.j i)) (n := n) (x := x) (fun i _ h => by simp at h ⊢; omega) hx (by simp; omega) (by simp; omega)
      omega
    · have := fcnt_one (P := fun i => decide (d + 1 < s.j i)) (n := n) fun x y hx hy h3 h4 => h2 x y hx hy (Or.inl (by simpa using h3)) (Or.inl (by simpa using h4))
      omega
/-- The words say no more than the doors. -/
theorem FOk.told {n : Nat} {s : FS} (h : FOk n s) (d : Nat) (hd : d < n) : fcnt (fun i => decide (d < s.l i)) n ≤ n - d := by
  refine Nat.le_trans (fcnt_mono (Q := fun i => decide (d < s.j i)) fun i hi h1 => ?_) (h.beyond d hd)
  have := h.lr i hi
  simp at h1 ⊢
  split at this <;> omega
/-- One hand is inside. -/
theorem FOk.alone {n : Nat} {s : FS} (h : FOk n s) {p q : Nat} (hp : p < n) (hq : q < n) (ap : 5 ≤ s.a p) (aq : 5 ≤ s.a q) : p = q := by
  by_cases e : p = q
  · exact e
  have h1 := (h.jr p hp).2.2.1 ap
  have h2 := (h.jr q hq).2.2.1 aq
  have h3 := fcnt_two (P := fun i => decide (n - 1 < s.j i)) (n := n) hp hq e (by simp; omega) (by simp; omega)
  have h4 := h.beyond (n - 1) (by omega)
  omega
end Go.Proofs.Ytobfaohcadmopaa
