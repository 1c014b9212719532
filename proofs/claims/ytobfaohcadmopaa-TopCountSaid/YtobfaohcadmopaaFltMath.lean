/-
  Chapter 6 as plain mathematics: several doors; what holds in all states. It imports nothing of the translation.
-/
namespace Go.Proofs.Ytobfaohcadmopaa

def fup {α : Type} (f : Nat → α) (i : Nat) (x : α) : Nat → α := fun j => if j = i then x else f j
theorem fup_same {α : Type} (f : Nat → α) (i : Nat) (x : α) : fup f i x i = x := by simp [fup]
theorem fup_other {α : Type} {f : Nat → α} {i j : Nat} {x : α} (h : j ≠ i) : fup f i x j = f j := by simp [fup, h]

/-- A lock with doors: of each hand its line, its door, its k; the words. -/
structure FS where
  a : Nat → Nat
  j : Nat → Nat
  k : Nat → Nat
  l : Nat → Nat
  v : Nat → Nat
def fnew : FS := ⟨fun _ => 1, fun _ => 1, fun _ => 0, fun _ => 0, fun _ => 0⟩
/-- It passes its door. -/
def fpass (n : Nat) (s : FS) (p : Nat) : FS := { s with a := fup s.a p (if n ≤ s.j p + 1 then 5 else 1), j := fup s.j p (s.j p + 1), k := fup s.k p 0 }
/-- A hand does its line. -/
def fstep (n : Nat) (s : FS) (p : Nat) : FS :=
  if s.a p = 1 then { s with l := fup s.l p (s.j p), a := fup s.a p 2 }
  else if s.a p = 2 then { s with v := fup s.v (s.j p) (p + 1), a := fup s.a p 3 }
  else if s.a p = 3 then (if s.v (s.j p) ≠ p + 1 then fpass n s p else { s with a := fup s.a p 4 })
  else if s.a p = 4 then
    (if s.k p ≠ p ∧ s.j p ≤ s.l (s.k p) then { s with k := fup s.k p 0, a := fup s.a p 3 }
     else if s.k p + 1 = n then fpass n s p else { s with k := fup s.k p (s.k p + 1) })
  else if s.a p = 5 then { s with a := fup s.a p 6 }
  else { s with l := fup s.l p 0, j := fup s.j p 1, k := fup s.k p 0, a := fup s.a p 1 }

/-- It wrote at door d: it waits there, or is beyond. -/
def FW (s : FS) (d i : Nat) : Prop := d < s.j i ∨ (s.j i = d ∧ (s.a i = 3 ∨ s.a i = 4))
structure FOk (n : Nat) (s : FS) : Prop where
  ar : ∀ p, p < n → 1 ≤ s.a p ∧ s.a p ≤ 6
  jr : ∀ p, p < n → 1 ≤ s.j p ∧ (s.a p ≤ 4 → s.j p = 1 ∨ s.j p < n) ∧ (5 ≤ s.a p → n ≤ s.j p) ∧ (s.j p = 1 ∨ s.j p ≤ n ∨ n = 1 ∧ s.j p = 2)
  kr : ∀ p, p < n → s.k p < n ∧ (s.a p ≠ 4 → s.k p = 0)
  lr : ∀ p, p < n → s.l p = if s.a p = 2 ∨ s.a p = 3 ∨ s.a p = 4 then s.j p else s.j p - 1
  vr : ∀ d, s.v d ≤ n
  sc : ∀ p, p < n → s.a p = 4 → s.v (s.j p) = p + 1 → ∀ i, i < s.k p → i ≠ p → ¬ FW s (s.j p) i
  wt : ∀ d, 1 ≤ d → d < n → (∃ x, x < n ∧ s.v d = x + 1 ∧ s.j x = d ∧ (s.a x = 3 ∨ s.a x = 4)) ∨ ∀ x y, x < n → y < n → FW s d x → FW s d y → x = y

theorem fnew_ok (n : Nat) (hn : 1 ≤ n) : FOk n fnew := by
  refine ⟨fun p _ => ⟨Nat.le_refl _, by show 1 ≤ 6; omega⟩, fun p _ => ⟨Nat.le_refl _, fun _ => Or.inl rfl, fun h => ?_, Or.inl rfl⟩, fun p _ => ⟨by show 0 < n; omega, fun _ => rfl⟩, fun p _ => rfl, fun d => Nat.zero_le _, fun p _ h => ?_, fun d h1 h2 => Or.inr fun x y _ _ hx => ?_⟩
  · exact absurd h (by show ¬ 5 ≤ 1; omega)
  · exact absurd h (by show ¬ 1 = 4; omega)
  · rcases hx with hx | ⟨_, hx⟩
    · exact absurd hx (by show ¬ d < 1; omega)
    · exact absurd hx (by show ¬ (1 = 3 ∨ 1 = 4); omega)

/-- Who is scanned, and has not come to door d, did not write there. -/
theorem FOk.low {n : Nat} {s : FS} (h : FOk n s) {i d : Nat} (hi : i < n) (hl : s.l i < d) : ¬ FW s d i := by
  have hlr := h.lr i hi
  have hj := (h.jr i hi).1
  intro hw
  unfold FW at hw
  by_cases h2 : s.a i = 2 ∨ s.a i = 3 ∨ s.a i = 4
  · rw [if_pos h2] at hlr; omega
  · rw [if_neg h2] at hlr; omega
theorem FOk.line1 {n : Nat} {s : FS} (h : FOk n s) {p : Nat} (hp : p < n) (ha : s.a p = 1) : FOk n { s with l := fup s.l p (s.j p), a := fup s.a p 2 } := by
  have hw : ∀ d i, FW { s with l := fup s.l p (s.j p), a := fup s.a p 2 } d i ↔ FW s d i := fun d i => by
    unfold FW fup
    dsimp only
    by_cases e : i = p
    · subst e; rw [if_pos rfl]; omega
    · rw [if_neg e]
  have hj := h.jr p hp
  refine ⟨fun q hq => ?_, fun q hq => ?_, fun q hq => ?_, fun q hq => ?_, h.vr, fun q hq h4 hv i hi hne => ?_, fun d h1 h2 => ?_⟩
  · have := h.ar q hq
    dsimp only; unfold fup
    split <;> omega
  · have := h.jr q hq
    dsimp only; unfold fup
    split
    · rename_i e; subst e
      exact ⟨this.1, fun _ => this.2.1 (by omega), fun h => absurd h (by omega), this.2.2.2⟩
    · exact this
  · have := h.kr q hq
    dsimp only; unfold fup
    split
    · rename_i e; subst e
      exact ⟨this.1, fun _ => this.2 (by omega)⟩
    · exact this
  · have := h.lr q hq
    dsimp only; unfold fup
    split
    · rename_i e; subst e; simp
    · exact this
  · rw [hw]
    have hqp : q ≠ p := by
      intro e; subst e
      dsimp only at h4
      rw [fup_same] at h4; omega
    dsimp only at h4 hv hi ⊢
    rw [fup_other hqp] at h4
    exact h.sc q hq h4 hv i hi hne
  · rcases h.wt d h1 h2 with ⟨x, hx, hv, hjx, hax⟩ | h3
    · refine Or.inl ⟨x, hx, hv, hjx, ?_⟩
      have : x ≠ p := by intro e; subst e; omega
      dsimp only
      rw [fup_other this]; exact hax
    · exact Or.inr fun x y hx hy h4 h5 => h3 x y hx hy ((hw d x).1 h4) ((hw d y).1 h5)
theorem FOk.line2 {n : Nat} {s : FS} (h : FOk n s) {p : Nat} (hp : p < n) (ha : s.a p = 2) : FOk n { s with v := fup s.v (s.j p) (p + 1), a := fup s.a p 3 } := by
  have hw : ∀ d i, ¬ (i = p ∧ d = s.j p) → (FW { s with v := fup s.v (s.j p) (p + 1), a := fup s.a p 3 } d i ↔ FW s d i) := fun d i hne => by
    unfold FW fup
    dsimp only
    by_cases e : i = p
    · subst e; rw [if_pos rfl]; omega
    · rw [if_neg e]
  have hj := h.jr p hp
  refine ⟨fun q hq => ?_, fun q hq => ?_, fun q hq => ?_, fun q hq => ?_, fun d => ?_, fun q hq h4 hv i hi hne => ?_, fun d h1 h2 => ?_⟩
  · have := h.ar q hq
    dsimp only; unfold fup
    split <;> omega
  · have := h.jr q hq
    dsimp only; unfold fup
    split
    · rename_i e; subst e
      exact ⟨this.1, fun _ => this.2.1 (by omega), fun h => absurd h (by omega), this.2.2.2⟩
    · exact this
  · have := h.kr q hq
    dsimp only; unfold fup
    split
    · rename_i e; subst e
      exact ⟨this.1, fun _ => this.2 (by omega)⟩
    · exact this
  · have := h.lr q hq
    dsimp only; unfold fup
    split
    · rename_i e; subst e; rw [if_pos (Or.inl ha)] at this; simpa using this
    · exact this
  · have := h.vr d
    dsimp only; unfold fup
    split <;> omega
  · have hqp : q ≠ p := by
      intro e; subst e
      dsimp only at h4
      rw [fup_same] at h4; omega
    dsimp only at h4 hv hi ⊢
    rw [fup_other hqp] at h4
    have hjn : s.j q ≠ s.j p := by
      intro e
      rw [e, fup_same] at hv; omega
    rw [fup_other hjn] at hv
    rw [hw _ _ (fun e => hjn e.2)]
    exact h.sc q hq h4 hv i hi hne
  · by_cases hd : d = s.j p
    · subst hd
      exact Or.inl ⟨p, hp, fup_same _ _ _, rfl, Or.inl (fup_same _ _ _)⟩
    · rcases h.wt d h1 h2 with ⟨x, hx, hv, hjx, hax⟩ | h3
      · refine Or.inl ⟨x, hx, ?_, hjx, ?_⟩
        · dsimp only; rw [fup_other hd]; exact hv
        · have : x ≠ p := by intro e; subst e; omega
          dsimp only
          rw [fup_other this]; exact hax
      · exact Or.inr fun x y hx hy h4 h5 => h3 x y hx hy ((hw d x (fun e => hd e.2)).1 h4) ((hw d y (fun e => hd e.2)).1 h5)
/-- It passes: another one wrote behind it, or all that wrote are gone. -/
theorem FOk.pass {n : Nat} {s : FS} (h : FOk n s) {p : Nat} (hp : p < n) (ha : s.a p = 3 ∨ s.a p = 4) (hv0 : s.v (s.j p) = p + 1 → ∀ x, x < n → FW s (s.j p) x → x = p) : FOk n (fpass n s p) := by
  have hj := h.jr p hp
  have hlp := h.lr p hp
  rw [if_pos (by omega)] at hlp
  have hw : ∀ d i, FW (fpass n s p) d i ↔ FW s d i := fun d i => by
    unfold FW fpass fup
    dsimp only
    by_cases e : i = p
    · subst e; rw [if_pos rfl, if_pos rfl]
      split <;> omega
    · rw [if_neg e, if_neg e]
  have ho : ∀ q, q ≠ p → (fpass n s p).a q = s.a q ∧ (fpass n s p).j q = s.j q ∧ (fpass n s p).k q = s.k q := fun q hq => ⟨fup_other hq, fup_other hq, fup_other hq⟩
  have hap : (fpass n s p).a p = if n ≤ s.j p + 1 then 5 else 1 := fup_same _ _ _
  have hjp : (fpass n s p).j p = s.j p + 1 := fup_same _ _ _
  have hkp : (fpass n s p).k p = 0 := fup_same _ _ _
  refine ⟨fun q hq => ?_, fun q hq => ?_, fun q hq => ?_, fun q hq => ?_, h.vr, fun q hq h4 hv i hi hne => ?_, fun d h1 h2 => ?_⟩
  · by_cases e : q = p
    · subst e; rw [hap]; split <;> omega
    · rw [(ho q e).1]; exact h.ar q hq
  · by_cases e : q = p
    · subst e; rw [hap, hjp]
      have := hj.2.1 (by omega)
      split
      · exact ⟨by omega, fun h => absurd h (by omega), fun _ => by omega, by omega⟩
      · exact ⟨by omega, fun _ => by omega, fun h => absurd h (by omega), by omega⟩
    · rw [(ho q e).1, (ho q e).2.1]; exact h.jr q hq
  · by_cases e : q = p
    · subst e; rw [hkp]; exact ⟨by omega, fun _ => rfl⟩
    · rw [(ho q e).1, (ho q e).2.2]; exact h.kr q hq
  · show s.l q = _
    by_cases e : q = p
    · subst e; rw [hap, hjp, hlp]
      split <;> rw [if_neg (by omega)] <;> omega
    · rw [(ho q e).1, (ho q e).2.1]; exact h.lr q hq
  · have hqp : q ≠ p := by
      intro e; subst e
      rw [hap] at h4; split at h4 <;> omega
    rw [(ho q hqp).1] at h4
    rw [(ho q hqp).2.2] at hi
    rw [(ho q hqp).2.1] at hv ⊢
    rw [hw]
    exact h.sc q hq h4 hv i hi hne
  · rcases h.wt d h1 h2 with ⟨x, hx, hv, hjx, hax⟩ | h3
    · by_cases e : x = p
      · subst e
        rw [← hjx] at hv
        have h3 := hv0 hv
        right
        intro y z hy hz h4 h5
        rw [hw, ← hjx] at h4 h5
        rw [h3 y hy h4, h3 z hz h5]
      · exact Or.inl ⟨x, hx, hv, by rw [(ho x e).2.1]; exact hjx, by rw [(ho x e).1]; exact hax⟩
    · exact Or.inr fun x y hx hy h4 h5 => h3 x y hx hy ((hw d x).1 h4) ((hw d y).1 h5)
/-- It goes on between lines 3 and 4, or scans on. -/
theorem FOk.scan {n : Nat} {s : FS} (h : FOk n s) {p : Nat} (hp : p < n) (ha : s.a p = 3 ∨ s.a p = 4) {a' k' : Nat} (ha' : a' = 3 ∨ a' = 4) (hk : k' < n) (hk3 : a' = 3 → k' = 0) (hsc : a' = 4 → s.v (s.j p) = p + 1 → ∀ i, i < k' → i ≠ p → ¬ FW s (s.j p) i) : FOk n { s with k := fup s.k p k', a := fup s.a p a' } := by
  have hw : ∀ d i, FW { s with k := fup s.k p k', a := fup s.a p a' } d i ↔ FW s d i := fun d i => by
    unfold FW fup
    dsimp only
    by_cases e : i = p
    · subst e; rw [if_pos rfl]; omega
    · rw [if_neg e]
  have hj := h.jr p hp
  refine ⟨fun q hq => ?_, fun q hq => ?_, fun q hq => ?_, fun q hq => ?_, h.vr, fun q hq h4 hv i hi hne => ?_, fun d h1 h2 => ?_⟩
  · have := h.ar q hq
    dsimp only; unfold fup
    split <;> omega
  · have := h.jr q hq
    dsimp only; unfold fup
    split
    · rename_i e; subst e
      exact ⟨this.1, fun _ => this.2.1 (by omega), fun h => absurd h (by omega), this.2.2.2⟩
    · exact this
  · have := h.kr q hq
    dsimp only; unfold fup
    split
    · exact ⟨hk, fun h => hk3 (by omega)⟩
    · exact this
  · have := h.lr q hq
    dsimp only; unfold fup
    split
    · rename_i e; subst e; rw [if_pos (by omega)] at this; rw [if_pos (by omega)]; exact this
    · exact this
  · rw [hw]
    dsimp only at h4 hv hi ⊢
    by_cases e : q = p
    · subst e
      rw [fup_same] at h4 hi
      exact hsc h4 hv i hi hne
    · rw [fup_other e] at h4 hi
      exact h.sc q hq h4 hv i hi hne
  · rcases h.wt d h1 h2 with ⟨x, hx, hv, hjx, hax⟩ | h3
    · refine Or.inl ⟨x, hx, hv, hjx, ?_⟩
      dsimp only
      by_cases e : x = p
      · subst e; rw [fup_same]; exact ha'
      · rw [fup_other e]; exact hax
    · exact Or.inr fun x y hx hy h4 h5 => h3 x y hx hy ((hw d x).1 h4) ((hw d y).1 h5)
theorem FOk.line5 {n : Nat} {s : FS} (h : FOk n s) {p : Nat} (hp : p < n) (ha : s.a p = 5) : FOk n { s with a := fup s.a p 6 } := by
  have hw : ∀ d i, FW { s with a := fup s.a p 6 } d i ↔ FW s d i := fun d i => by
    unfold FW fup
    dsimp only
    by_cases e : i = p
    · subst e; rw [if_pos rfl]; omega
    · rw [if_neg e]
  refine ⟨fun q hq => ?_, fun q hq => ?_, fun q hq => ?_, fun q hq => ?_, h.vr, fun q hq h4 hv i hi hne => ?_, fun d h1 h2 => ?_⟩
  · have := h.ar q hq
    dsimp only; unfold fup
    split <;> omega
  · have := h.jr q hq
    dsimp only; unfold fup
    split
    · rename_i e; subst e
      exact ⟨this.1, fun h => absurd h (by omega), fun _ => this.2.2.1 (by omega), this.2.2.2⟩
    · exact this
  · have := h.kr q hq
    dsimp only; unfold fup
    split
    · rename_i e; subst e
      exact ⟨this.1, fun _ => this.2 (by omega)⟩
    · exact this
  · have := h.lr q hq
    dsimp only; unfold fup
    split
    · rename_i e; subst e; rw [if_neg (by omega)] at this; rw [if_neg (by omega)]; exact this
    · exact this
  · rw [hw]
    have hqp : q ≠ p := by
      intro e; subst e
      dsimp only at h4
      rw [fup_same] at h4; omega
    dsimp only at h4 hv hi ⊢
    rw [fup_other hqp] at h4
    exact h.sc q hq h4 hv i hi hne
  · rcases h.wt d h1 h2 with ⟨x, hx, hv, hjx, hax⟩ | h3
    · refine Or.inl ⟨x, hx, hv, hjx, ?_⟩
      have : x ≠ p := by intro e; subst e; omega
      dsimp only
      rw [fup_other this]; exact hax
    · exact Or.inr fun x y hx hy h4 h5 => h3 x y hx hy ((hw d x).1 h4) ((hw d y).1 h5)
theorem FOk.line6 {n : Nat} {s : FS} (h : FOk n s) {p : Nat} (hp : p < n) (ha : s.a p = 6) : FOk n { s with l := fup s.l p 0, j := fup s.j p 1, k := fup s.k p 0, a := fup s.a p 1 } := by
  have hw : ∀ d i, 1 ≤ d → FW { s with l := fup s.l p 0, j := fup s.j p 1, k := fup s.k p 0, a := fup s.a p 1 } d i → FW s d i := fun d i h1 => by
    unfold FW fup
    dsimp only
    by_cases e : i = p
    · subst e; rw [if_pos rfl, if_pos rfl]; omega
    · rw [if_neg e, if_neg e]; exact id
  refine ⟨fun q hq => ?_, fun q hq => ?_, fun q hq => ?_, fun q hq => ?_, h.vr, fun q hq h4 hv i hi hne => ?_, fun d h1 h2 => ?_⟩
  · have := h.ar q hq
    dsimp only; unfold fup
    split <;> omega
  · have := h.jr q hq
    dsimp only; unfold fup
    split
    · exact ⟨Nat.le_refl _, fun _ => Or.inl rfl, fun h => absurd h (by omega), Or.inl rfl⟩
    · exact this
  · have := h.kr q hq
    dsimp only; unfold fup
    split
    · exact ⟨by omega, fun _ => rfl⟩
    · exact this
  · have := h.lr q hq
    dsimp only; unfold fup
    split
    · rfl
    · exact this
  · have hqp : q ≠ p := by
      intro e; subst e
      dsimp only at h4
      rw [fup_same] at h4; omega
    dsimp only at h4 hv hi ⊢
    rw [fup_other hqp] at h4 hi hv ⊢
    exact fun h5 => h.sc q hq h4 hv i hi hne (hw _ _ (h.jr q hq).1 h5)
  · rcases h.wt d h1 h2 with ⟨x, hx, hv, hjx, hax⟩ | h3
    · have : x ≠ p := by intro e; subst e; omega
      refine Or.inl ⟨x, hx, hv, ?_, ?_⟩
      · dsimp only; rw [fup_other this]; exact hjx
      · dsimp only; rw [fup_other this]; exact hax
    · exact Or.inr fun x y hx hy h4 h5 => h3 x y hx hy (hw d x h1 h4) (hw d y h1 h5)
theorem FOk.step {n : Nat} {s : FS} (h : FOk n s) {p : Nat} (hp : p < n) : FOk n (fstep n s p) := by
  have har := h.ar p hp
  have hkr := h.kr p hp
  unfold fstep
  by_cases a1 : s.a p = 1
  · rw [if_pos a1]; exact h.line1 hp a1
  rw [if_neg a1]
  by_cases a2 : s.a p = 2
  · rw [if_pos a2]; exact h.line2 hp a2
  rw [if_neg a2]
  by_cases a3 : s.a p = 3
  · rw [if_pos a3]
    split
    · rename_i hv; exact h.pass hp (Or.inl a3) fun e => absurd e hv
    · have := h.scan hp (Or.inl a3) (a' := 4) (k' := s.k p) (Or.inr rfl) hkr.1 (fun e => by omega) fun _ _ i hi => by
        rw [hkr.2 (by omega)] at hi; omega
      have e : fup s.k p (s.k p) = s.k := by
        funext i; unfold fup; split
        · rename_i e; rw [e]
        · rfl
      rw [e] at this
      exact this
  rw [if_neg a3]
  by_cases a4 : s.a p = 4
  · rw [if_pos a4]
    split
    · exact h.scan hp (Or.inr a4) (a' := 3) (k' := 0) (Or.inl rfl) (by omega) (fun _ => rfl) fun e => by omega
    · rename_i hb
      have hlow : s.k p ≠ p → ¬ FW s (s.j p) (s.k p) := fun hne => h.low hkr.1 (by
        rcases Nat.lt_or_ge (s.l (s.k p)) (s.j p) with h1 | h1
        · exact h1
        · exact absurd ⟨hne, h1⟩ hb)
      split
      · rename_i hk
        refine h.pass hp (Or.inr a4) fun e x hx hw => ?_
        by_cases hxp : x = p
        · exact hxp
        · rcases Nat.lt_or_ge x (s.k p) with h1 | h1
          · exact absurd hw (h.sc p hp a4 e x h1 hxp)
          · obtain rfl : x = s.k p := by omega
            exact absurd hw (hlow hxp)
      · rename_i hk
        have := h.scan hp (Or.inr a4) (a' := 4) (k' := s.k p + 1) (Or.inr rfl) (by omega) (fun e => by omega) fun _ e i hi hne => by
          rcases Nat.lt_or_ge i (s.k p) with h1 | h1
          · exact h.sc p hp a4 e i h1 hne
          · obtain rfl : i = s.k p := by omega
            exact hlow hne
        have e : fup s.a p 4 = s.a := by
          funext i; unfold fup; split
          · rename_i e; rw [e, a4]
          · rfl
        rw [e] at this
        exact this
  rw [if_neg a4]
  by_cases a5 : s.a p = 5
  · rw [if_pos a5]; exact h.line5 hp a5
  rw [if_neg a5]
  exact h.line6 hp (by omega)
end Go.Proofs.Ytobfaohcadmopaa
