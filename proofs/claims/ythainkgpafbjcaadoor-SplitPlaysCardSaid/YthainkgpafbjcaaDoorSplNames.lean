import Derived.Test.YthainkgpafbjcaaDoorSplMath
/-
  Chapter 12 as plain mathematics: of k hands that did anything nobody is farther than k - 1.
-/
namespace Go.Proofs.YthainkgpafbjcaaDoor
/-- What is so of some, and of none beyond a bound, is so of a greatest one. -/
theorem nat_max {P : Nat → Prop} (B : Nat) {j : Nat} (hj : P j) (hb : ∀ i, P i → i ≤ B) : ∃ m, P m ∧ ∀ i, P i → i ≤ m := by
  induction B with
  | zero => exact ⟨j, hj, fun i hi => by have := hb i hi; omega⟩
  | succ B ih =>
    by_cases h : P (B + 1)
    · exact ⟨B + 1, h, hb⟩
    · refine ih fun i hi => ?_
      have h1 := hb i hi
      have h2 : i ≠ B + 1 := fun e => h (e ▸ hi)
      omega
section
variable {n : Nat} {g : SG}
theorem SOk.ro_mono (k : SOk n g) {p : Nat} (hp : p < n) (t : Nat) : ∀ u, t ≤ u → u ≤ dep g p → g.ro p t ≤ g.ro p u ∧ g.ro p u ≤ g.ro p t + (u - t) := by
  intro u
  induction u with
  | zero => intro h1 _; rw [show t = 0 by omega]; omega
  | succ u ih =>
    intro h1 h2
    by_cases e : t = u + 1
    · subst e; omega
    · have h3 := ih (by omega) (by omega)
      have h4 := k.rom p u hp (by omega)
      omega
theorem SOk.ro_le (k : SOk n g) {p : Nat} (hp : p < n) {t : Nat} (ht : t ≤ dep g p) : g.ro p t ≤ t := by
  have h1 := k.ro_mono hp 0 t (Nat.zero_le _) ht
  have h2 := k.ro0 p hp
  omega
/-- Where it left a row. -/
theorem SOk.left_row (k : SOk n g) {p i : Nat} (hp : p < n) (hi : i < (g.v.s p).r) : ∃ y, spDown g p i y := by
  have h0 : ∃ m, (m ≤ dep g p ∧ g.ro p m ≤ i) ∧ ∀ t, (t ≤ dep g p ∧ g.ro p t ≤ i) → t ≤ m :=
    nat_max (P := fun t => t ≤ dep g p ∧ g.ro p t ≤ i) (dep g p) (j := 0) ⟨Nat.zero_le _, by rw [k.ro0 p hp]; exact Nat.zero_le _⟩ fun t h => h.1
  obtain ⟨m, ⟨h1, h2⟩, h3⟩ := h0
  have hl := k.rol p hp
  have hlt : m < dep g p := by
    rcases Nat.lt_or_ge m (dep g p) with h | h
    · exact h
    · have : m = dep g p := by omega
      subst this; omega
  have h4 : i < g.ro p (m + 1) := by
    rcases Nat.lt_or_ge i (g.ro p (m + 1)) with h | h
    · exact h
    · have := h3 (m + 1) ⟨hlt, h⟩; omega
  have h5 := k.rom p m hp hlt
  have h6 := k.ro_le hp h1
  refine ⟨m - i, ?_⟩
  unfold spDown
  rw [show i + (m - i) = m by omega]
  exact ⟨hlt, by omega, by omega⟩
/-- Where it left a column. -/
theorem SOk.left_col (k : SOk n g) {p j : Nat} (hp : p < n) (hj : j < (g.v.s p).c) : ∃ z, spRight g p z j := by
  have h0 : ∃ m, (m ≤ dep g p ∧ m - g.ro p m ≤ j) ∧ ∀ t, (t ≤ dep g p ∧ t - g.ro p t ≤ j) → t ≤ m :=
    nat_max (P := fun t => t ≤ dep g p ∧ t - g.ro p t ≤ j) (dep g p) (j := 0) ⟨Nat.zero_le _, by omega⟩ fun t h => h.1
  obtain ⟨m, ⟨h1, h2⟩, h3⟩ := h0
  have hl := k.rol p hp
  have hlt : m < dep g p := by
    rcases Nat.lt_or_ge m (dep g p) with h | h
    · exact h
    · have : m = dep g p := by omega
      subst this
      have hd : dep g p = (g.v.s p).r + (g.v.s p).c := rfl
      omega
  have h4 : j < m + 1 - g.ro p (m + 1) := by
    rcases Nat.lt_or_ge j (m + 1 - g.ro p (m + 1)) with h | h
    · exact h
    · have := h3 (m + 1) ⟨hlt, h⟩; omega
  have h5 := k.rom p m hp hlt
  have h6 := k.ro_le hp h1
  refine ⟨g.ro p m, ?_⟩
  unfold spRight
  rw [show g.ro p m + j = m by omega]
  exact ⟨hlt, rfl, by omega⟩
theorem SOk.ent_at (k : SOk n g) {x i j : Nat} (hx : x < n) (h : spEnt g x i j) : spAt g x i j ∨ spDown g x i j ∨ spRight g x i j := by
  obtain ⟨h1, h2⟩ := h
  have hl := k.rol x hx
  by_cases e : i + j = dep g x
  · rw [e, hl] at h2
    have hd : dep g x = (g.v.s x).r + (g.v.s x).c := rfl
    exact Or.inl ⟨h2, by omega⟩
  · have h3 := k.rom x (i + j) hx (by omega)
    rw [h2] at h3
    rcases h3 with h3 | h3
    · exact Or.inr (Or.inr ⟨by omega, h2, h3⟩)
    · exact Or.inr (Or.inl ⟨by omega, h2, h3⟩)
theorem SOk.far (_k : SOk n g) : ∃ B, ∀ x, x < n → dep g x ≤ B := by
  have key : ∀ m, ∃ B, ∀ x, x < m → dep g x ≤ B := fun m => by
    induction m with
    | zero => exact ⟨0, fun x h => by omega⟩
    | succ m ih =>
      obtain ⟨B, hB⟩ := ih
      refine ⟨B + dep g m, fun x hx => ?_⟩
      by_cases e : x = m
      · subst e; omega
      · have := hB x (by omega); omega
  exact key n
/-- In each row that somebody left stands one, beyond whom nobody came in that row. -/
theorem SOk.in_row (k : SOk n g) {p i : Nat} (hp : p < n) (hi : i < (g.v.s p).r) : ∃ q, q < n ∧ 0 < g.d q ∧ (g.v.s q).r = i ∧ ∀ x j, x < n → spEnt g x i j → j ≤ (g.v.s q).c := by
  obtain ⟨y, hy⟩ := k.left_row hp hi
  obtain ⟨B, hB⟩ := k.far
  have h0 : ∃ m, (∃ x, x < n ∧ spEnt g x i m) ∧ ∀ j, (∃ x, x < n ∧ spEnt g x i j) → j ≤ m :=
    nat_max (P := fun j => ∃ x, x < n ∧ spEnt g x i j) B (j := y) ⟨p, hp, by have := hy.1; omega, hy.2.1⟩ fun j ⟨x, hx, h⟩ => by have := hB x hx; have := h.1; omega
  obtain ⟨m, ⟨x, hx, hxe⟩, hmax⟩ := h0
  by_cases hA : ∃ z, z < n ∧ spDown g z i m
  · obtain ⟨z, hz, hzd⟩ := hA
    have h1 := k.x2 z i m hz (Or.inl hzd)
    obtain ⟨hq, h2⟩ := k.x1 i m (g.v.X i m - 1) (by omega)
    rcases h2 with h2 | h2
    · refine ⟨_, hq, k.act _ hq (Or.inl h2.2), h2.1.1, fun w j hw he => ?_⟩
      rw [h2.1.2]; exact hmax j ⟨w, hw, he⟩
    · have := hmax (m + 1) ⟨_, hq, by have := h2.1; omega, h2.2.2⟩
      omega
  · rcases k.ent_at hx hxe with h2 | h2 | h2
    · have hym : y < m := by
        have h3 := hmax y ⟨p, hp, by have := hy.1; omega, hy.2.1⟩
        have h4 : y ≠ m := fun e => hA ⟨p, hp, e ▸ hy⟩
        omega
      refine ⟨x, hx, k.act x hx (Or.inr ?_), h2.1, fun w j hw he => ?_⟩
      · unfold dep; rw [h2.2]; omega
      · rw [h2.2]; exact hmax j ⟨w, hw, he⟩
    · exact absurd ⟨x, hx, h2⟩ hA
    · have := hmax (m + 1) ⟨x, hx, by have := h2.1; omega, h2.2.2⟩
      omega
/-- In each column that somebody left stands one, below whom nobody came in that column. -/
theorem SOk.in_col (k : SOk n g) {p j : Nat} (hp : p < n) (hj : j < (g.v.s p).c) : ∃ q, q < n ∧ 0 < g.d q ∧ (g.v.s q).c = j ∧ ∀ x i, x < n → spEnt g x i j → i ≤ (g.v.s q).r := by
  obtain ⟨z, hz⟩ := k.left_col hp hj
  obtain ⟨B, hB⟩ := k.far
  have h0 : ∃ m, (∃ x, x < n ∧ spEnt g x m j) ∧ ∀ i, (∃ x, x < n ∧ spEnt g x i j) → i ≤ m :=
    nat_max (P := fun i => ∃ x, x < n ∧ spEnt g x i j) B (j := z) ⟨p, hp, by have := hz.1; omega, hz.2.1⟩ fun i ⟨x, hx, h⟩ => by have := hB x hx; have := h.1; omega
  obtain ⟨m, ⟨x, hx, hxe⟩, hmax⟩ := h0
  by_cases hA : ∃ w, w < n ∧ spRight g w m j
  · obtain ⟨w, hw, hwr⟩ := hA
    obtain ⟨q, hq, h2⟩ := k.y2 m j (k.y1 w m j hw hwr)
    rcases h2 with h2 | h2
    · refine ⟨q, hq, k.act q hq (Or.inl (by omega)), h2.1.2, fun w i hw he => ?_⟩
      rw [h2.1.1]; exact hmax i ⟨w, hw, he⟩
    · have := hmax (m + 1) ⟨q, hq, by have := h2.1; omega, by rw [show m + 1 + j = m + j + 1 by omega]; exact h2.2.2⟩
      omega
  · rcases k.ent_at hx hxe with h2 | h2 | h2
    · have hzm : z < m := by
        have h3 := hmax z ⟨p, hp, by have := hz.1; omega, hz.2.1⟩
        have h4 : z ≠ m := fun e => hA ⟨p, hp, e ▸ hz⟩
        omega
      refine ⟨x, hx, k.act x hx (Or.inr ?_), h2.2, fun w i hw he => ?_⟩
      · unfold dep; rw [h2.1]; omega
      · rw [h2.1]; exact hmax i ⟨w, hw, he⟩
    · have := hmax (m + 1) ⟨x, hx, by have := h2.1; omega, by rw [show m + 1 + j = m + j + 1 by omega]; exact h2.2.2⟩
      omega
    · exact absurd ⟨x, hx, h2⟩ hA
/-- Of k hands that did anything nobody is farther than k - 1. -/
theorem SOk.near (k : SOk n g) {p : Nat} (hp : p < n) (hd : 0 < g.d p) : dep g p + 1 ≤ scnt (fun q => 0 < g.d q) n := by
  have hr : ∀ i, ∃ q, i < (g.v.s p).r → q < n ∧ 0 < g.d q ∧ (g.v.s q).r = i ∧ ∀ x j, x < n → spEnt g x i j → j ≤ (g.v.s q).c := fun i => by
    by_cases h : i < (g.v.s p).r
    · obtain ⟨q, hq⟩ := k.in_row hp h
      exact ⟨q, fun _ => hq⟩
    · exact ⟨0, fun h' => absurd h' h⟩
  have hc : ∀ j, ∃ q, j < (g.v.s p).c → q < n ∧ 0 < g.d q ∧ (g.v.s q).c = j ∧ ∀ x i, x < n → spEnt g x i j → i ≤ (g.v.s q).r := fun j => by
    by_cases h : j < (g.v.s p).c
    · obtain ⟨q, hq⟩ := k.in_col hp h
      exact ⟨q, fun _ => hq⟩
    · exact ⟨0, fun h' => absurd h' h⟩
  obtain ⟨A, hA⟩ := Classical.axiomOfChoice hr
  obtain ⟨C, hC⟩ := Classical.axiomOfChoice hc
  have hdp : dep g p = (g.v.s p).r + (g.v.s p).c := rfl
  have cross : ∀ i j, i < (g.v.s p).r → j < (g.v.s p).c → A i ≠ C j := fun i j hi hj e => by
    obtain ⟨_, _, a3, a4⟩ := hA i hi
    obtain ⟨_, _, c3, c4⟩ := hC j hj
    obtain ⟨y, y1, y2, y3⟩ := k.left_row hp hi
    obtain ⟨z, z1, z2, z3⟩ := k.left_col hp hj
    have h1 := a4 p y hp ⟨by omega, y2⟩
    have h2 := c4 p z hp ⟨by omega, z2⟩
    rw [e, c3] at h1
    rw [← e, a3] at h2
    rcases Nat.lt_trichotomy (i + y) (z + j) with h | h | h
    · have h3 := (k.ro_mono hp (i + y + 1) (z + j) (by omega) (by omega)).1
      omega
    · rw [← h, y2] at z2
      rw [← h, y3] at z3
      omega
    · have h3 := (k.ro_mono hp (z + j + 1) (i + y) (by omega) (by omega)).2
      omega
  refine scnt_ge (fun q => 0 < g.d q) n (dep g p + 1) (fun t => if t < (g.v.s p).r then A t else if t < dep g p then C (t - (g.v.s p).r) else p) (fun t ht => ?_) fun t u ht hu e => ?_
  · split
    · rename_i h; exact ⟨(hA t h).1, (hA t h).2.1⟩
    · split
      · have := hC (t - (g.v.s p).r) (by omega); exact ⟨this.1, this.2.1⟩
      · exact ⟨hp, hd⟩
  · have rA : ∀ t, t < (g.v.s p).r → (g.v.s (A t)).r = t := fun t h => (hA t h).2.2.1
    have rC : ∀ t, t < (g.v.s p).c → (g.v.s (C t)).c = t := fun t h => (hC t h).2.2.1
    by_cases t1 : t < (g.v.s p).r
    · rw [if_pos t1] at e
      by_cases u1 : u < (g.v.s p).r
      · rw [if_pos u1] at e
        have h1 := rA t t1
        rw [e, rA u u1] at h1
        exact h1.symm
      · rw [if_neg u1] at e
        by_cases u2 : u < dep g p
        · rw [if_pos u2] at e
          exact absurd e (cross t _ t1 (by omega))
        · rw [if_neg u2] at e
          have h1 := rA t t1
          rw [e] at h1; omega
    · rw [if_neg t1] at e
      by_cases t2 : t < dep g p
      · rw [if_pos t2] at e
        by_cases u1 : u < (g.v.s p).r
        · rw [if_pos u1] at e
          exact absurd e.symm (cross u _ u1 (by omega))
        · rw [if_neg u1] at e
          by_cases u2 : u < dep g p
          · rw [if_pos u2] at e
            have h1 := rC (t - (g.v.s p).r) (by omega)
            rw [e, rC (u - (g.v.s p).r) (by omega)] at h1
            omega
          · rw [if_neg u2] at e
            have h1 := rC (t - (g.v.s p).r) (by omega)
            rw [e] at h1; omega
      · rw [if_neg t2] at e
        by_cases u1 : u < (g.v.s p).r
        · rw [if_pos u1] at e
          have h1 := rA u u1
          rw [← e] at h1; omega
        · rw [if_neg u1] at e
          by_cases u2 : u < dep g p
          · rw [if_pos u2] at e
            have h1 := rC (u - (g.v.s p).r) (by omega)
            rw [← e] at h1; omega
          · omega
end
end Go.Proofs.YthainkgpafbjcaaDoor
