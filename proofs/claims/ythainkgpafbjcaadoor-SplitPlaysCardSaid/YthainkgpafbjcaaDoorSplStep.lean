/-
  Chapter 12 as plain mathematics: a step keeps what is always so. It imports nothing of the translation.
-/
import Derived.Test.YthainkgpafbjcaaDoorSplMath
namespace Go.Proofs.YthainkgpafbjcaaDoor

/-- What a step of the hand does. -/
structure SpW (g g' : SG) (p a r c a' r' c' : Nat) : Prop where
  hs : g.v.s p = ⟨a, r, c⟩
  hs' : g'.v.s p = ⟨a', r', c'⟩
  s : ∀ q, q ≠ p → g'.v.s q = g.v.s q
  ro : ∀ q t, q ≠ p → g'.ro q t = g.ro q t
  d : ∀ q, q ≠ p → g'.d q = g.d q
  dp : g'.d p = g.d p + 1
  rk : ∀ t, t ≤ r + c → g'.ro p t = g.ro p t
  way : (a = 1 ∧ a' = 2 ∨ a = 2 ∧ g.v.Y r c ≠ 1 ∧ a' = 3 ∨ a = 3 ∧ a' = 4 ∨ a = 4 ∧ g.v.X r c = p + 1 ∧ a' = 5 ∨ a = 5 ∧ a' = 5) ∧ r' = r ∧ c' = c ∨
    a' = 1 ∧ g'.ro p (r + c + 1) = r' ∧ (a = 2 ∧ g.v.Y r c = 1 ∧ r' = r ∧ c' = c + 1 ∨ a = 4 ∧ g.v.X r c ≠ p + 1 ∧ r' = r + 1 ∧ c' = c)
  X : ∀ i j, g'.v.X i j = g.v.X i j ∨ a = 1 ∧ r = i ∧ c = j ∧ g'.v.X i j = p + 1
  X1 : a = 1 → g'.v.X r c = p + 1
  Y : ∀ i j, g'.v.Y i j = g.v.Y i j ∨ a = 3 ∧ r = i ∧ c = j ∧ g'.v.Y i j = 1
  Y3 : a = 3 → g'.v.Y r c = 1
theorem sg_w {n : Nat} {g : SG} {p : Nat} (k : SOk n g) (hp : p < n) :
    SpW g (sgstep g p) p (g.v.s p).a (g.v.s p).r (g.v.s p).c (spone g.v p).a (spone g.v p).r (spone g.v p).c := by
  have hr := k.rng p hp
  refine ⟨rfl, sup_same _ _ _, fun q h => sup_other h, fun q t h => ?_, fun q h => sup_other h, sup_same _ _ _, fun t h => ?_, ?_, fun i j => ?_, fun h => ?_, fun i j => ?_, fun h => ?_⟩
  · show sgro g p q t = _
    unfold sgro; rw [if_neg fun e => h e.1]
  · show sgro g p p t = _
    unfold sgro; rw [if_neg fun e => ?_]
    have := e.2.1
    unfold dep at this
    omega
  · have hro : (spone g.v p).r + (spone g.v p).c = dep g p + 1 → (sgstep g p).ro p ((g.v.s p).r + (g.v.s p).c + 1) = (spone g.v p).r := fun e => by
      show sgro g p p _ = _
      unfold sgro; rw [if_pos ⟨rfl, rfl, e⟩]
    by_cases h1 : (g.v.s p).a = 1
    · have e : spone g.v p = ⟨2, (g.v.s p).r, (g.v.s p).c⟩ := by unfold spone; rw [if_pos h1]
      rw [e]; exact .inl ⟨.inl ⟨h1, rfl⟩, rfl, rfl⟩
    by_cases h2 : (g.v.s p).a = 2
    · by_cases hy : g.v.Y (g.v.s p).r (g.v.s p).c = 1
      · have e : spone g.v p = ⟨1, (g.v.s p).r, (g.v.s p).c + 1⟩ := by unfold spone; rw [if_neg h1, if_pos h2, if_pos hy]
        rw [e] at hro ⊢; exact .inr ⟨rfl, hro rfl, .inl ⟨h2, hy, rfl, rfl⟩⟩
      · have e : spone g.v p = ⟨3, (g.v.s p).r, (g.v.s p).c⟩ := by unfold spone; rw [if_neg h1, if_pos h2, if_neg hy]
        rw [e]; exact .inl ⟨.inr (.inl ⟨h2, hy, rfl⟩), rfl, rfl⟩
    by_cases h3 : (g.v.s p).a = 3
    · have e : spone g.v p = ⟨4, (g.v.s p).r, (g.v.s p).c⟩ := by unfold spone; rw [if_neg h1, if_neg h2, if_pos h3]
      rw [e]; exact .inl ⟨.inr (.inr (.inl ⟨h3, rfl⟩)), rfl, rfl⟩
    by_cases h4 : (g.v.s p).a = 4
    · by_cases hx : g.v.X (g.v.s p).r (g.v.s p).c = p + 1
      · have e : spone g.v p = ⟨5, (g.v.s p).r, (g.v.s p).c⟩ := by unfold spone; rw [if_neg h1, if_neg h2, if_neg h3, if_pos h4, if_pos hx]
        rw [e]; exact .inl ⟨.inr (.inr (.inr (.inl ⟨h4, hx, rfl⟩))), rfl, rfl⟩
      · have e : spone g.v p = ⟨1, (g.v.s p).r + 1, (g.v.s p).c⟩ := by unfold spone; rw [if_neg h1, if_neg h2, if_neg h3, if_pos h4, if_neg hx]
        rw [e] at hro ⊢
        exact .inr ⟨rfl, hro (by show (g.v.s p).r + 1 + (g.v.s p).c = (g.v.s p).r + (g.v.s p).c + 1; omega), .inr ⟨h4, hx, rfl, rfl⟩⟩
    · have h5 : (g.v.s p).a = 5 := by omega
      have e : spone g.v p = g.v.s p := by unfold spone; rw [if_neg h1, if_neg h2, if_neg h3, if_neg h4]
      rw [e]; exact .inl ⟨.inr (.inr (.inr (.inr ⟨h5, h5⟩))), rfl, rfl⟩
  · show spX g.v p i j = _ ∨ _ ∧ _ ∧ _ ∧ spX g.v p i j = _
    unfold spX
    by_cases h1 : (g.v.s p).a = 1
    · rw [if_pos h1]
      by_cases h2 : i = (g.v.s p).r ∧ j = (g.v.s p).c
      · rw [h2.1, h2.2, pup_same]; exact .inr ⟨h1, rfl, rfl, rfl⟩
      · rw [pup_other h2]; exact .inl rfl
    · rw [if_neg h1]; exact .inl rfl
  · show spX g.v p _ _ = _
    unfold spX; rw [if_pos h, pup_same]
  · show spY g.v p i j = _ ∨ _ ∧ _ ∧ _ ∧ spY g.v p i j = _
    unfold spY
    by_cases h1 : (g.v.s p).a = 3
    · rw [if_pos h1]
      by_cases h2 : i = (g.v.s p).r ∧ j = (g.v.s p).c
      · rw [h2.1, h2.2, pup_same]; exact .inr ⟨h1, rfl, rfl, rfl⟩
      · rw [pup_other h2]; exact .inl rfl
    · rw [if_neg h1]; exact .inl rfl
  · show spY g.v p _ _ = _
    unfold spY; rw [if_pos h, pup_same]

section
variable {n : Nat} {g g' : SG} {p a r c a' r' c' : Nat} (k : SOk n g) (hp : p < n) (w : SpW g g' p a r c a' r' c')
include w
theorem SpW.dep : dep g p = r + c := by unfold Proofs.YthainkgpafbjcaaDoor.dep; rw [w.hs]
theorem SpW.dep' : Proofs.YthainkgpafbjcaaDoor.dep g' p = r' + c' := by unfold Proofs.YthainkgpafbjcaaDoor.dep; rw [w.hs']
theorem SpW.depo {q : Nat} (h : q ≠ p) : Proofs.YthainkgpafbjcaaDoor.dep g' q = Proofs.YthainkgpafbjcaaDoor.dep g q := by unfold Proofs.YthainkgpafbjcaaDoor.dep; rw [w.s q h]
theorem SpW.far : r + c ≤ r' + c' := by rcases w.way with ⟨_, h⟩ | ⟨_, _, h | h⟩ <;> omega
theorem SpW.down {q i j : Nat} (h : spDown g q i j) : spDown g' q i j := by
  by_cases e : q = p
  · subst e
    obtain ⟨h1, h2, h3⟩ := h
    rw [w.dep] at h1
    have := w.far
    refine ⟨by rw [w.dep']; omega, ?_, ?_⟩
    · rw [w.rk _ (by omega)]; exact h2
    · rw [w.rk _ (by omega)]; exact h3
  · unfold spDown at h ⊢
    rw [w.depo e, w.ro q _ e, w.ro q _ e]; exact h
theorem SpW.right {q i j : Nat} (h : spRight g q i j) : spRight g' q i j := by
  by_cases e : q = p
  · subst e
    obtain ⟨h1, h2, h3⟩ := h
    rw [w.dep] at h1
    have := w.far
    refine ⟨by rw [w.dep']; omega, ?_, ?_⟩
    · rw [w.rk _ (by omega)]; exact h2
    · rw [w.rk _ (by omega)]; exact h3
  · unfold spRight at h ⊢
    rw [w.depo e, w.ro q _ e, w.ro q _ e]; exact h
theorem SpW.at' {q i j : Nat} (e : q ≠ p) : spAt g' q i j ↔ spAt g q i j := by unfold spAt; rw [w.s q e]
theorem SpW.atp {i j : Nat} : spAt g p i j ↔ r = i ∧ c = j := by unfold spAt; rw [w.hs]
theorem SpW.atp' {i j : Nat} : spAt g' p i j ↔ r' = i ∧ c' = j := by unfold spAt; rw [w.hs']
include k hp
theorem SpW.rlast : g.ro p (r + c) = r := by have := k.rol p hp; rw [w.dep, w.hs] at this; exact this
/-- Where it has gone on, thereafter: before, or just now. -/
theorem SpW.rightOf {q i j : Nat} (h : spRight g' q i j) : spRight g q i j ∨ q = p ∧ i = r ∧ j = c ∧ a = 2 ∧ g.v.Y r c = 1 ∧ a' = 1 := by
  by_cases e : q = p
  · subst e
    obtain ⟨h1, h2, h3⟩ := h
    rw [w.dep'] at h1
    by_cases h4 : i + j < r + c
    · left
      refine ⟨by rw [w.dep]; exact h4, ?_, ?_⟩
      · rw [← w.rk _ (by omega)]; exact h2
      · rw [← w.rk _ (by omega)]; exact h3
    · right
      have h5 := w.rlast k hp
      rcases w.way with ⟨_, h⟩ | ⟨h6, h7, h | h⟩
      · omega
      · have e : i + j = r + c := by omega
        rw [e, w.rk _ (Nat.le_refl _)] at h2
        exact ⟨rfl, by omega, by omega, h.1, h.2.1, h6⟩
      · have e : i + j = r + c := by omega
        rw [e, w.rk _ (Nat.le_refl _)] at h2
        rw [e, h7] at h3
        omega
  · left
    unfold spRight at h ⊢
    rw [w.depo e, w.ro q _ e, w.ro q _ e] at h; exact h
theorem SpW.downOf {q i j : Nat} (h : spDown g' q i j) : spDown g q i j ∨ q = p ∧ i = r ∧ j = c ∧ a = 4 ∧ a' = 1 := by
  by_cases e : q = p
  · subst e
    obtain ⟨h1, h2, h3⟩ := h
    rw [w.dep'] at h1
    by_cases h4 : i + j < r + c
    · left
      refine ⟨by rw [w.dep]; exact h4, ?_, ?_⟩
      · rw [← w.rk _ (by omega)]; exact h2
      · rw [← w.rk _ (by omega)]; exact h3
    · right
      have h5 := w.rlast k hp
      rcases w.way with ⟨_, h⟩ | ⟨h6, h7, h | h⟩
      · omega
      · have e : i + j = r + c := by omega
        rw [e, w.rk _ (Nat.le_refl _)] at h2
        rw [e, h7] at h3
        omega
      · have e : i + j = r + c := by omega
        rw [e, w.rk _ (Nat.le_refl _)] at h2
        exact ⟨rfl, by omega, by omega, h.1, h6⟩
  · left
    unfold spDown at h ⊢
    rw [w.depo e, w.ro q _ e, w.ro q _ e] at h; exact h
omit k hp in
theorem SpW.Ymono {i j : Nat} (h : g.v.Y i j = 1) : g'.v.Y i j = 1 := by
  rcases w.Y i j with e | e
  · rw [e]; exact h
  · exact e.2.2.2
omit k hp in
theorem SpW.Xmono {i j : Nat} (h : g.v.X i j ≠ 0) : g'.v.X i j ≠ 0 := by
  rcases w.X i j with e | e
  · rw [e]; exact h
  · rw [e.2.2.2]; omega

theorem SpW.x1 (i j q : Nat) (h : g'.v.X i j = q + 1) : q < n ∧ (spAt g' q i j ∧ 2 ≤ (g'.v.s q).a ∨ spRight g' q i j) := by
  rcases w.X i j with e | ⟨h1, h2, h3, h4⟩
  · rw [e] at h
    obtain ⟨h1, h2⟩ := k.x1 i j q h
    refine ⟨h1, ?_⟩
    rcases h2 with ⟨h2, h3⟩ | h2
    · by_cases hq : q = p
      · subst hq
        have h4 := w.atp.1 h2
        rw [w.hs] at h3
        have h3 : 2 ≤ a := h3
        have h5 := w.rlast k hp
        rw [w.atp', w.hs']
        show (_ ∧ 2 ≤ a') ∨ _
        rcases w.way with ⟨x, y⟩ | ⟨x, y, z⟩
        · left; exact ⟨by omega, by omega⟩
        · rcases z with z | z
          · right
            refine ⟨by rw [w.dep']; omega, ?_, ?_⟩
            · rw [w.rk _ (by omega), show i + j = r + c by omega]; omega
            · rw [show i + j + 1 = r + c + 1 by omega]; omega
          · have := z.2.1
            rw [h4.1, h4.2] at this
            exact absurd h this
      · exact .inl ⟨(w.at' hq).2 h2, by rw [w.s q hq]; exact h3⟩
    · exact .inr (w.right h2)
  · have e : q = p := by omega
    subst e
    refine ⟨hp, .inl ?_⟩
    rw [w.atp', w.hs']
    show _ ∧ 2 ≤ a'
    rcases w.way with ⟨x, y⟩ | ⟨x, y, z⟩
    · exact ⟨by omega, by omega⟩
    · omega
theorem SpW.x2 (q i j : Nat) (hq : q < n) (h : spDown g' q i j ∨ spAt g' q i j ∧ 2 ≤ (g'.v.s q).a) : g'.v.X i j ≠ 0 := by
  rcases h with h | ⟨h, h2⟩
  · rcases w.downOf k hp h with h | ⟨h1, h2, h3, h4, h5⟩
    · exact w.Xmono (k.x2 q i j hq (.inl h))
    · refine w.Xmono (k.x2 p i j hp (.inr ⟨w.atp.2 ⟨h2.symm, h3.symm⟩, ?_⟩))
      rw [w.hs]; show 2 ≤ a; omega
  · by_cases e : q = p
    · subst e
      rw [w.atp'] at h
      rw [w.hs'] at h2
      have h2 : 2 ≤ a' := h2
      rcases w.way with ⟨x, y⟩ | ⟨x, y, z⟩
      · by_cases h1 : a = 1
        · have := w.X1 h1
          rw [← h.1, ← h.2, y.1, y.2, this]; omega
        · refine w.Xmono (k.x2 q i j hp (.inr ⟨w.atp.2 (by omega), ?_⟩))
          rw [w.hs]; show 2 ≤ a; omega
      · omega
    · refine w.Xmono (k.x2 q i j hq (.inr ⟨(w.at' e).1 h, ?_⟩))
      rw [← w.s q e]; exact h2
theorem SpW.y1 (q i j : Nat) (hq : q < n) (h : spRight g' q i j) : g'.v.Y i j = 1 := by
  rcases w.rightOf k hp h with h | ⟨h1, h2, h3, h4, h5, h6⟩
  · exact w.Ymono (k.y1 q i j hq h)
  · rw [h2, h3]; exact w.Ymono h5
theorem SpW.y2 (i j : Nat) (h : g'.v.Y i j = 1) : ∃ q, q < n ∧ (spAt g' q i j ∧ 4 ≤ (g'.v.s q).a ∨ spDown g' q i j) := by
  rcases w.Y i j with e | ⟨h1, h2, h3, h4⟩
  · rw [e] at h
    obtain ⟨q, h1, h2⟩ := k.y2 i j h
    refine ⟨q, h1, ?_⟩
    rcases h2 with ⟨h2, h3⟩ | h2
    · by_cases hq : q = p
      · subst hq
        have h4 := w.atp.1 h2
        rw [w.hs] at h3
        have h3 : 4 ≤ a := h3
        have h5 := w.rlast k hp
        rw [w.atp', w.hs']
        show (_ ∧ 4 ≤ a') ∨ _
        rcases w.way with ⟨x, y⟩ | ⟨x, y, z⟩
        · left; exact ⟨by omega, by omega⟩
        · rcases z with z | z
          · omega
          · right
            refine ⟨by rw [w.dep']; omega, ?_, ?_⟩
            · rw [w.rk _ (by omega), show i + j = r + c by omega]; omega
            · rw [show i + j + 1 = r + c + 1 by omega]; omega
      · exact .inl ⟨(w.at' hq).2 h2, by rw [w.s q hq]; exact h3⟩
    · exact .inr (w.down h2)
  · refine ⟨p, hp, .inl ?_⟩
    rw [w.atp', w.hs']
    show _ ∧ 4 ≤ a'
    rcases w.way with ⟨x, y⟩ | ⟨x, y, z⟩
    · exact ⟨by omega, by omega⟩
    · omega
theorem SpW.five (q : Nat) (hq : q < n) (h : (g'.v.s q).a = 5) : g'.v.Y (g'.v.s q).r (g'.v.s q).c = 1 ∧ ∀ u, u < n → u ≠ q → spAt g' u (g'.v.s q).r (g'.v.s q).c → (g'.v.s u).a ≠ 5 ∧ ((g'.v.s u).a = 3 ∨ (g'.v.s u).a = 4 → g'.v.X (g'.v.s q).r (g'.v.s q).c ≠ u + 1) := by
  by_cases e : q = p
  · subst e
    rw [w.hs'] at h ⊢
    have h : a' = 5 := h
    show g'.v.Y r' c' = 1 ∧ ∀ u, u < n → u ≠ q → spAt g' u r' c' → (g'.v.s u).a ≠ 5 ∧ ((g'.v.s u).a = 3 ∨ (g'.v.s u).a = 4 → g'.v.X r' c' ≠ u + 1)
    rcases w.way with ⟨x, y1, y2⟩ | ⟨x, y, z⟩
    · rw [y1, y2]
      have x : a = 4 ∧ g.v.X r c = q + 1 ∨ a = 5 := by omega
      have hX : g'.v.X r c = g.v.X r c := by rcases w.X r c with e | e <;> omega
      rcases x with ⟨x1, x2⟩ | x
      · refine ⟨w.Ymono ?_, fun u hu hne hat => ?_⟩
        · have := k.four q hq (by rw [w.hs]; exact x1)
          rw [w.hs] at this; exact this
        · rw [w.s u hne, hX, x2]
          refine ⟨fun e5 => ?_, fun _ => by omega⟩
          have hat := (w.at' hne).1 hat
          obtain ⟨z1, z2⟩ := hat
          have := ((k.five u hu e5).2 q hq (fun e => hne e.symm) (w.atp.2 ⟨z1.symm, z2.symm⟩)).2 (.inr (by rw [w.hs]; exact x1))
          rw [z1, z2] at this
          exact this x2
      · have h5 := k.five q hq (by rw [w.hs]; exact x)
        rw [w.hs] at h5
        refine ⟨w.Ymono h5.1, fun u hu hne hat => ?_⟩
        rw [w.s u hne, hX]
        exact h5.2 u hu hne ((w.at' hne).1 hat)
    · omega
  · rw [w.s q e] at h ⊢
    have h5 := k.five q hq h
    refine ⟨w.Ymono h5.1, fun u hu hne hat => ?_⟩
    by_cases eu : u = p
    · subst eu
      have h6 := h5.2 u hu hne
      rw [w.hs']
      show a' ≠ 5 ∧ (a' = 3 ∨ a' = 4 → g'.v.X (g.v.s q).r (g.v.s q).c ≠ u + 1)
      rcases w.way with ⟨x, y1, y2⟩ | ⟨x, y, z⟩
      · have hat := w.atp'.1 hat
        rw [y1, y2] at hat
        have h7 := h6 (w.atp.2 hat)
        rw [w.hs] at h7
        obtain ⟨h8, h9⟩ := h7
        have h8 : a ≠ 5 := h8
        have h9 : a = 3 ∨ a = 4 → g.v.X (g.v.s q).r (g.v.s q).c ≠ u + 1 := h9
        have h10 := h5.1
        rw [← hat.1, ← hat.2] at h9 h10 ⊢
        have hX := w.X r c
        refine ⟨fun e5 => ?_, fun e34 => ?_⟩
        · rcases x with x | x | x | x | x
          · omega
          · omega
          · omega
          · exact h9 (.inr x.1) x.2.1
          · omega
        · rcases x with x | x | x | x | x
          · omega
          · exact absurd h10 x.2.1
          · rcases hX with hX | hX
            · rw [hX]; exact h9 (.inl x.1)
            · omega
          · omega
          · omega
      · exact ⟨by omega, fun h => by omega⟩
    · rw [w.s u eu]
      have h6 := h5.2 u hu hne ((w.at' eu).1 hat)
      refine ⟨h6.1, fun e34 => ?_⟩
      rcases w.X (g.v.s q).r (g.v.s q).c with hX | hX
      · rw [hX]; exact h6.2 e34
      · rw [hX.2.2.2]; omega
theorem SpW.rom (q t : Nat) (hq : q < n) (h : t < Proofs.YthainkgpafbjcaaDoor.dep g' q) : g'.ro q (t + 1) = g'.ro q t ∨ g'.ro q (t + 1) = g'.ro q t + 1 := by
  by_cases e : q = p
  · subst e
    rw [w.dep'] at h
    by_cases h1 : t < r + c
    · rw [w.rk _ (by omega), w.rk _ (by omega)]
      exact k.rom q t hq (by rw [w.dep]; exact h1)
    · have h5 := w.rlast k hp
      rcases w.way with ⟨x, y1, y2⟩ | ⟨x, y, z⟩
      · omega
      · have e : t = r + c := by omega
        rw [e, w.rk _ (Nat.le_refl _), y, h5]
        omega
  · rw [w.ro q _ e, w.ro q _ e]
    rw [w.depo e] at h
    exact k.rom q t hq h
theorem SpW.ok : SOk n g' := by
  refine ⟨fun q hq => ?_, fun q hq => ?_, fun q hq => ?_, fun q t hq h => w.rom k hp q t hq h, w.x1 k hp, w.x2 k hp, fun i j => ?_, w.y1 k hp, w.y2 k hp, w.five k hp, fun q hq h => ?_, fun q hq h => ?_, fun q hq h => ?_⟩
  · by_cases e : q = p
    · subst e
      rw [w.hs']
      show 1 ≤ a' ∧ a' ≤ 5
      rcases w.way with ⟨x, _⟩ | x <;> omega
    · rw [w.s q e]; exact k.rng q hq
  · by_cases e : q = p
    · subst e
      rw [w.rk 0 (by omega)]; exact k.ro0 q hq
    · rw [w.ro q _ e]; exact k.ro0 q hq
  · by_cases e : q = p
    · subst e
      rw [w.dep', w.hs']
      show _ = r'
      have h5 := w.rlast k hp
      rcases w.way with ⟨_, y1, y2⟩ | ⟨x, y, z⟩
      · rw [y1, y2, w.rk _ (Nat.le_refl _)]; exact h5
      · rw [show r' + c' = r + c + 1 by omega]; exact y
    · rw [w.depo e, w.ro q _ e, w.s q e]; exact k.rol q hq
  · rcases w.Y i j with e | e
    · rw [e]; exact k.y0 i j
    · rw [e.2.2.2]; omega
  · by_cases e : q = p
    · subst e
      rw [w.hs'] at h ⊢
      have h : a' = 4 := h
      show g'.v.Y r' c' = 1
      rcases w.way with ⟨x, y1, y2⟩ | ⟨x, y, z⟩
      · rw [y1, y2]; exact w.Y3 (by omega)
      · omega
    · rw [w.s q e] at h ⊢
      exact w.Ymono (k.four q hq h)
  · by_cases e : q = p
    · subst e
      have h1 := k.did q hq
      rw [w.hs, w.dep] at h1
      rw [w.hs', w.dep', w.dp]
      rw [w.hs'] at h
      have h : a' ≠ 5 := h
      have h1 : a ≠ 5 → g.d q ≤ 4 * (r + c) + (a - 1) := h1
      show _ ≤ _ + (a' - 1)
      rcases w.way with ⟨x, y1, y2⟩ | ⟨x, y, z⟩
      · have := h1 (by omega)
        omega
      · have := h1 (by omega)
        omega
    · rw [w.s q e, w.depo e, w.d q e]
      rw [w.s q e] at h
      exact k.did q hq h
  · by_cases e : q = p
    · subst e
      rw [w.dp]; omega
    · rw [w.d q e]
      rw [w.s q e, w.depo e] at h
      exact k.act q hq h
end
theorem SOk.step {n : Nat} {g : SG} {p : Nat} (k : SOk n g) (hp : p < n) : SOk n (sgstep g p) := (sg_w k hp).ok k hp
end Go.Proofs.YthainkgpafbjcaaDoor
