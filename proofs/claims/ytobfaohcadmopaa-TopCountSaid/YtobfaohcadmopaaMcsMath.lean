/-
  Chapter 9 as plain mathematics: each is known to the one ahead. It imports nothing of the translation.
-/
namespace Go.Proofs.Ytobfaohcadmopaa

def qup {α : Type} (f : Nat → α) (i : Nat) (x : α) : Nat → α := fun j => if j = i then x else f j
theorem qup_same {α : Type} (f : Nat → α) (i : Nat) (x : α) : qup f i x i = x := by simp [qup]
theorem qup_other {α : Type} {f : Nat → α} {i j : Nat} {x : α} (h : j ≠ i) : qup f i x j = f j := by simp [qup, h]

/-- Of each hand its line, its s, its W and its S; T. -/
structure QS where
  a : Nat → Nat
  o : Nat → Nat
  w : Nat → Nat
  f : Nat → Nat
  T : Nat
def qnew : QS := ⟨fun _ => 1, fun _ => 0, fun _ => 0, fun _ => 0, 0⟩
def qstep (s : QS) (p : Nat) : QS :=
  if s.a p = 1 then { s with f := qup s.f p 0, a := qup s.a p 2 }
  else if s.a p = 2 then { s with o := qup s.o p s.T, T := p + 1, a := qup s.a p (if s.T = 0 then 6 else 3) }
  else if s.a p = 3 then { s with w := qup s.w p 1, a := qup s.a p 4 }
  else if s.a p = 4 then { s with f := qup s.f (s.o p - 1) (p + 1), a := qup s.a p 5 }
  else if s.a p = 5 then (if s.w p = 0 then { s with a := qup s.a p 6 } else s)
  else if s.a p = 6 then { s with a := qup s.a p 7 }
  else if s.a p = 7 then { s with o := qup s.o p (s.f p), a := qup s.a p (if s.f p = 0 then 8 else 10) }
  else if s.a p = 8 then (if s.T = p + 1 then { s with T := 0, a := qup s.a p 1 } else { s with a := qup s.a p 9 })
  else if s.a p = 9 then { s with o := qup s.o p (s.f p), a := qup s.a p (if s.f p = 0 then 9 else 10) }
  else { s with w := qup s.w (s.o p - 1) 0, a := qup s.a p 1 }

/-- Those at lines 3 to 10 stand at the places h to e - 1 of a row. -/
structure MOk (n : Nat) (s : QS) (q : Nat → Nat) (h e : Nat) : Prop where
  he : h ≤ e
  low : ∀ i, h ≤ i → i < e → q i < n
  inj : ∀ i j, h ≤ i → i < e → h ≤ j → j < e → q i = q j → i = j
  mem : ∀ p, p < n → 3 ≤ s.a p → ∃ i, h ≤ i ∧ i < e ∧ q i = p
  ins : ∀ i, h ≤ i → i < e → 3 ≤ s.a (q i)
  tl : h = e ∧ s.T = 0 ∨ h < e ∧ s.T = q (e - 1) + 1
  rng : ∀ p, p < n → 1 ≤ s.a p ∧ s.a p ≤ 10
  two : ∀ p, p < n → s.a p = 2 → s.f p = 0
  head : h < e → s.a (q h) = 5 ∧ s.w (q h) = 0 ∨ 6 ≤ s.a (q h)
  rest : ∀ i, h < i → i < e → s.a (q i) ≤ 5 ∧ (s.a (q i) = 3 ∨ s.w (q i) = 1) ∧ (s.a (q i) ≤ 4 → s.o (q i) = q (i - 1) + 1)
  nxt : ∀ i, h < i → i < e → (s.a (q i) = 5 → s.f (q (i - 1)) = q i + 1) ∧ (s.a (q i) ≤ 4 → s.f (q (i - 1)) = 0)
  last : h < e → s.f (q (e - 1)) = 0
  nine : h < e → s.a (q h) = 9 → h + 1 < e
  ten : h < e → s.a (q h) = 10 → h + 1 < e ∧ s.a (q (h + 1)) = 5 ∧ s.o (q h) = q (h + 1) + 1
theorem qnew_ok (n : Nat) : MOk n qnew (fun _ => 0) 0 0 :=
  ⟨Nat.le_refl _, fun i _ h => by omega, fun i j _ h => by omega, fun p _ h => by simp [qnew] at h, fun i _ h => by omega, Or.inl ⟨rfl, rfl⟩, fun p _ => by simp [qnew], fun p _ h => rfl, fun h => by omega, fun i _ h => by omega, fun i _ h => by omega, fun h => by omega, fun h => by omega, fun h => by omega⟩
section
variable {n : Nat} {s : QS} {q : Nat → Nat} {h e : Nat}
/-- One at a place has another line, another s, another W. -/
theorem MOk.local_ (k : MOk n s q h e) {i : Nat} (h1 : h ≤ i) (h2 : i < e) (x z y : Nat) (hx : 3 ≤ x ∧ x ≤ 10)
    (hh : i = h → (x = 5 ∧ y = 0 ∨ 6 ≤ x) ∧ (x = 9 → h + 1 < e) ∧ (x = 10 → h + 1 < e ∧ s.a (q (h + 1)) = 5 ∧ z = q (h + 1) + 1))
    (hr : h < i → x ≤ 5 ∧ (x = 3 ∨ y = 1) ∧ (x ≤ 4 → z = q (i - 1) + 1) ∧ (x = 5 → s.f (q (i - 1)) = q i + 1) ∧ (x ≤ 4 → s.f (q (i - 1)) = 0)) :
    MOk n { s with a := qup s.a (q i) x, o := qup s.o (q i) z, w := qup s.w (q i) y } q h e := by
  have ne : ∀ j, h ≤ j → j < e → j ≠ i → q j ≠ q i := fun j g1 g2 g3 g4 => g3 (k.inj j i g1 g2 h1 h2 g4)
  refine ⟨k.he, k.low, k.inj, fun p hp ha => ?_, fun j g1 g2 => ?_, k.tl, fun p hp => ?_, fun p hp ha => ?_, fun g => ?_, fun j g1 g2 => ?_, fun j g1 g2 => ?_, k.last, fun g ha => ?_, fun g ha => ?_⟩
  all_goals (try dsimp only at *)
  · by_cases e2 : p = q i
    · exact ⟨i, h1, h2, e2.symm⟩
    · rw [qup_other e2] at ha; exact k.mem p hp ha
  · by_cases e2 : j = i
    · rw [e2, qup_same]; omega
    · rw [qup_other (ne j g1 g2 e2)]; exact k.ins j g1 g2
  · by_cases e2 : p = q i
    · rw [e2, qup_same]; omega
    · rw [qup_other e2]; exact k.rng p hp
  · by_cases e2 : p = q i
    · rw [e2, qup_same] at ha; omega
    · rw [qup_other e2] at ha; exact k.two p hp ha
  · by_cases e2 : h = i
    · subst e2; rw [qup_same, qup_same]; exact (hh rfl).1
    · rw [qup_other (ne h (Nat.le_refl _) g e2), qup_other (ne h (Nat.le_refl _) g e2)]; exact k.head g
  · by_cases e2 : j = i
    · subst e2; rw [qup_same, qup_same, qup_same]
      have := hr g1
      exact ⟨this.1, this.2.1, this.2.2.1⟩
    · rw [qup_other (ne j (by omega) g2 e2), qup_other (ne j (by omega) g2 e2), qup_other (ne j (by omega) g2 e2)]; exact k.rest j g1 g2
  · by_cases e2 : j = i
    · subst e2; rw [qup_same]; exact (hr g1).2.2.2
    · rw [qup_other (ne j (by omega) g2 e2)]; exact k.nxt j g1 g2
  · by_cases e2 : h = i
    · subst e2; rw [qup_same] at ha; exact (hh rfl).2.1 ha
    · rw [qup_other (ne h (Nat.le_refl _) g e2)] at ha; exact k.nine g ha
  · by_cases e2 : h = i
    · subst e2; rw [qup_same] at ha ⊢
      have h3 := (hh rfl).2.2 ha
      rw [qup_other (ne (h + 1) (by omega) h3.1 (by omega))]
      exact h3
    · rw [qup_other (ne h (Nat.le_refl _) g e2)] at ha ⊢
      have h3 := k.ten g ha
      by_cases e3 : h + 1 = i
      · have h4 := hr (by omega)
        have h5 := k.nxt i (by omega) h2
        have h6 := k.head g
        subst e3
        rw [qup_same]
        refine ⟨h3.1, ?_, h3.2.2⟩
        have h7 := (h5.1 h3.2.1)
        have h8 : x = 5 ∨ x ≤ 4 := by omega
        rcases h8 with h8 | h8
        · exact h8
        · have := h4.2.2.2.2 h8; omega
      · rw [qup_other (ne (h + 1) (by omega) h3.1 e3)]; exact h3
/-- One that is no longer there has left a place: the next one is the head. -/
theorem MOk.leave (k : MOk n s q h e) (hlt : h < e) (w' : Nat → Nat) (T' : Nat) (hT : h + 1 = e ∧ T' = 0 ∨ h + 1 < e ∧ T' = s.T)
    (hw : h + 1 < e → s.a (q (h + 1)) = 5 ∧ w' (q (h + 1)) = 0) (hw2 : ∀ i, h + 1 < i → i < e → w' (q i) = s.w (q i)) :
    MOk n { s with a := qup s.a (q h) 1, w := w', T := T' } q (h + 1) e := by
  have ne : ∀ j, h < j → j < e → q j ≠ q h := fun j g1 g2 g4 => by
    have := k.inj j h (by omega) g2 (Nat.le_refl _) hlt g4
    omega
  have htl := k.tl
  refine ⟨hlt, fun i g1 g2 => k.low i (by omega) g2, fun i j g1 g2 g3 g4 g5 => k.inj i j (by omega) g2 (by omega) g4 g5, fun p hp ha => ?_, fun j g1 g2 => ?_, ?_, fun p hp => ?_, fun p hp ha => ?_, fun g => ?_, fun j g1 g2 => ?_, fun j g1 g2 => ?_, fun g => k.last hlt, fun g ha => ?_, fun g ha => ?_⟩
  all_goals (try dsimp only at *)
  · by_cases e2 : p = q h
    · rw [e2, qup_same] at ha; omega
    · rw [qup_other e2] at ha
      obtain ⟨i, g1, g2, g3⟩ := k.mem p hp ha
      refine ⟨i, ?_, g2, g3⟩
      rcases Nat.lt_or_ge h i with h4 | h4
      · exact h4
      · have : i = h := by omega
        subst this; exact absurd g3.symm e2
  · rw [qup_other (ne j g1 g2)]; exact k.ins j (by omega) g2
  · rcases hT with ⟨g1, g2⟩ | ⟨g1, g2⟩
    · exact Or.inl ⟨g1, g2⟩
    · exact Or.inr ⟨g1, by omega⟩
  · by_cases e2 : p = q h
    · rw [e2, qup_same]; omega
    · rw [qup_other e2]; exact k.rng p hp
  · by_cases e2 : p = q h
    · rw [e2, qup_same] at ha; omega
    · rw [qup_other e2] at ha; exact k.two p hp ha
  · rw [qup_other (ne (h + 1) (by omega) g)]; exact Or.inl (hw g)
  · rw [qup_other (ne j (by omega) g2), hw2 j g1 g2]; exact k.rest j (by omega) g2
  · rw [qup_other (ne j (by omega) g2)]; exact k.nxt j (by omega) g2
  · rw [qup_other (ne (h + 1) (by omega) g)] at ha; have := hw g; omega
  · rw [qup_other (ne (h + 1) (by omega) g)] at ha; have := hw g; omega
/-- One that was not there stands in line. -/
theorem MOk.join (k : MOk n s q h e) {p : Nat} (hp : p < n) (ha : s.a p = 2) :
    MOk n { s with o := qup s.o p s.T, T := p + 1, a := qup s.a p (if s.T = 0 then 6 else 3) } (qup q e p) h (e + 1) := by
  have hno : ∀ i, h ≤ i → i < e → q i ≠ p := fun i g1 g2 g3 => by have := k.ins i g1 g2; rw [g3] at this; omega
  have hq : ∀ i, i < e → qup q e p i = q i := fun i g => qup_other (by omega)
  have hqe : qup q e p e = p := qup_same _ _ _
  have htl := k.tl
  have hf := k.two p hp ha
  refine ⟨by have := k.he; omega, fun i g1 g2 => ?_, fun i j g1 g2 g3 g4 g5 => ?_, fun r hr h3 => ?_, fun i g1 g2 => ?_, Or.inr ⟨by have := k.he; omega, ?_⟩, fun r hr => ?_, fun r hr h3 => ?_, fun g => ?_, fun i g1 g2 => ?_, fun i g1 g2 => ?_, fun g => ?_, fun g h3 => ?_, fun g h3 => ?_⟩
  all_goals (try dsimp only at *)
  · by_cases e2 : i = e
    · rw [e2, hqe]; exact hp
    · rw [hq i (by omega)]; exact k.low i g1 (by omega)
  · by_cases e2 : i = e
    · by_cases e3 : j = e
      · omega
      · rw [e2, hqe, hq j (by omega)] at g5; exact absurd g5.symm (hno j g3 (by omega))
    · by_cases e3 : j = e
      · rw [e3, hqe, hq i (by omega)] at g5; exact absurd g5 (hno i g1 (by omega))
      · rw [hq i (by omega), hq j (by omega)] at g5; exact k.inj i j g1 (by omega) g3 (by omega) g5
  · by_cases e2 : r = p
    · exact ⟨e, k.he, by omega, by rw [hqe, e2]⟩
    · rw [qup_other e2] at h3
      obtain ⟨i, g1, g2, g3⟩ := k.mem r hr h3
      exact ⟨i, g1, by omega, by rw [hq i g2]; exact g3⟩
  · by_cases e2 : i = e
    · rw [e2, hqe, qup_same]; split <;> omega
    · rw [hq i (by omega), qup_other (hno i g1 (by omega))]; exact k.ins i g1 (by omega)
  · rw [show e + 1 - 1 = e by omega, hqe]
  · by_cases e2 : r = p
    · rw [e2, qup_same]; split <;> omega
    · rw [qup_other e2]; exact k.rng r hr
  · by_cases e2 : r = p
    · rw [e2, qup_same] at h3; split at h3 <;> omega
    · rw [qup_other e2] at h3; exact k.two r hr h3
  · by_cases e2 : h = e
    · rw [e2, hqe, qup_same, if_pos (by omega)]; exact Or.inr (Nat.le_refl _)
    · rw [hq h (by omega), qup_other (hno h (Nat.le_refl _) (by omega))]; exact k.head (by omega)
  · by_cases e2 : i = e
    · rw [e2, hqe, qup_same, qup_same, hq (e - 1) (by omega), if_neg (by omega)]
      exact ⟨by omega, Or.inl rfl, fun _ => by omega⟩
    · rw [hq i (by omega), hq (i - 1) (by omega), qup_other (hno i (by omega) (by omega)), qup_other (hno i (by omega) (by omega))]
      exact k.rest i g1 (by omega)
  · by_cases e2 : i = e
    · rw [e2, hqe, qup_same, hq (e - 1) (by omega), if_neg (by omega)]
      exact ⟨fun h => by omega, fun _ => k.last (by omega)⟩
    · rw [hq i (by omega), hq (i - 1) (by omega), qup_other (hno i (by omega) (by omega))]
      exact k.nxt i g1 (by omega)
  · rw [show e + 1 - 1 = e by omega, hqe]; exact hf
  · by_cases e2 : h = e
    · rw [e2, hqe, qup_same, if_pos (by omega)] at h3; omega
    · rw [hq h (by omega), qup_other (hno h (Nat.le_refl _) (by omega))] at h3
      have := k.nine (by omega) h3; omega
  · by_cases e2 : h = e
    · rw [e2, hqe, qup_same, if_pos (by omega)] at h3; omega
    · rw [hq h (by omega), qup_other (hno h (Nat.le_refl _) (by omega))] at h3
      have h4 := k.ten (by omega) h3
      rw [hq (h + 1) (by omega), hq h (by omega), qup_other (hno (h + 1) (by omega) (by omega)), qup_other (hno h (Nat.le_refl _) (by omega))]
      exact ⟨by omega, h4.2⟩
theorem qs_ext {s t : QS} (h1 : s.a = t.a) (h2 : s.o = t.o) (h3 : s.w = t.w) (h4 : s.f = t.f) (h5 : s.T = t.T) : s = t := by
  cases s; cases t; simp at *; exact ⟨h1, h2, h3, h4, h5⟩
theorem qup_id {α : Type} (f : Nat → α) (p : Nat) : qup f p (f p) = f := by
  funext q; unfold qup; split
  · rename_i e; rw [e]
  · rfl
/-- What stands in line, when hand p has done its line. -/
def gq (s : QS) (p : Nat) (q : Nat → Nat) (e : Nat) : Nat → Nat := if s.a p = 2 then qup q e p else q
def ge (s : QS) (p e : Nat) : Nat := if s.a p = 2 then e + 1 else e
def gh (s : QS) (p h : Nat) : Nat := if s.a p = 10 ∨ s.a p = 8 ∧ s.T = p + 1 then h + 1 else h
theorem MOk.place (k : MOk n s q h e) {p : Nat} (hp : p < n) (ha : 6 ≤ s.a p) : h < e ∧ q h = p := by
  obtain ⟨i, g1, g2, g3⟩ := k.mem p hp (by omega)
  rcases Nat.lt_or_ge h i with h4 | h4
  · have := (k.rest i h4 g2).1; rw [g3] at this; omega
  · have : i = h := by omega
    subst this; exact ⟨g2, g3⟩
theorem MOk.step (k : MOk n s q h e) {p : Nat} (hp : p < n) : MOk n (qstep s p) (gq s p q e) (gh s p h) (ge s p e) := by
  have hr := k.rng p hp
  unfold qstep gq ge gh
  by_cases a1 : s.a p = 1
  · rw [if_pos a1, if_neg (by omega), if_neg (by omega), if_neg (by omega)]
    have hno : ∀ i, h ≤ i → i < e → q i ≠ p := fun i g1 g2 g3 => by have := k.ins i g1 g2; rw [g3] at this; omega
    refine ⟨k.he, k.low, k.inj, fun r hr h3 => ?_, fun i g1 g2 => ?_, k.tl, fun r hr => ?_, fun r hr h3 => ?_, fun g => ?_, fun i g1 g2 => ?_, fun i g1 g2 => ?_, fun g => ?_, fun g h3 => ?_, fun g h3 => ?_⟩
    all_goals (try dsimp only at *)
    · by_cases e2 : r = p
      · rw [e2, qup_same] at h3; omega
      · rw [qup_other e2] at h3; exact k.mem r hr h3
    · rw [qup_other (hno i g1 g2)]; exact k.ins i g1 g2
    · by_cases e2 : r = p
      · rw [e2, qup_same]; omega
      · rw [qup_other e2]; exact k.rng r hr
    · by_cases e2 : r = p
      · rw [e2, qup_same]
      · rw [qup_other e2] at h3 ⊢; exact k.two r hr h3
    · rw [qup_other (hno h (Nat.le_refl _) g)]; exact k.head g
    · rw [qup_other (hno i (by omega) g2)]; exact k.rest i g1 g2
    · rw [qup_other (hno i (by omega) g2), qup_other (hno (i - 1) (by omega) (by omega))]; exact k.nxt i g1 g2
    · rw [qup_other (hno (e - 1) (by omega) (by omega))]; exact k.last g
    · rw [qup_other (hno h (Nat.le_refl _) g)] at h3; exact k.nine g h3
    · rw [qup_other (hno h (Nat.le_refl _) g)] at h3
      have h4 := k.ten g h3
      rw [qup_other (hno (h + 1) (by omega) h4.1)]; exact h4
  rw [if_neg a1]
  by_cases a2 : s.a p = 2
  · rw [if_pos a2, if_pos a2, if_neg (show ¬ (s.a p = 10 ∨ s.a p = 8 ∧ s.T = p + 1) by omega), if_pos a2]
    exact k.join hp a2
  rw [if_neg a2, if_neg a2, if_neg a2]
  obtain ⟨i, g1, g2, g3⟩ := k.mem p hp (by omega)
  have hl := fun x z y hx hh hr => k.local_ g1 g2 x z y hx hh hr
  rw [g3] at hl
  have hres := fun hi => k.rest i hi g2
  have hnx := fun hi => k.nxt i hi g2
  rw [g3] at hres hnx
  have hhd : i = h → s.a p = 5 ∧ s.w p = 0 ∨ 6 ≤ s.a p := fun e2 => by have := k.head (by omega); rw [← e2, g3] at this; exact this
  have hcase : i = h ∨ h < i := by omega
  by_cases a3 : s.a p = 3
  · rw [if_pos a3, if_neg (show ¬ (s.a p = 10 ∨ s.a p = 8 ∧ s.T = p + 1) by omega)]
    have := hl 4 (s.o p) 1 (by omega) (fun e2 => by have := hhd e2; omega) (fun hi => ⟨by omega, Or.inr rfl, fun _ => (hres hi).2.2 (by omega), fun h5 => by omega, fun _ => (hnx hi).2 (by omega)⟩)
    rwa [qup_id] at this
  rw [if_neg a3]
  by_cases a4 : s.a p = 4
  · rw [if_pos a4, if_neg (show ¬ (s.a p = 10 ∨ s.a p = 8 ∧ s.T = p + 1) by omega)]
    have hi : h < i := by
      rcases hcase with e2 | hi
      · have := hhd e2; omega
      · exact hi
    have h5 := (hres hi).2.2 (by omega)
    have h6 := (hnx hi).2 (by omega)
    have hne : ∀ j, h ≤ j → j < e → j ≠ i → q j ≠ p := fun j f1 f2 f3 f4 => f3 (k.inj j i f1 f2 g1 g2 (f4.trans g3.symm))
    have hpr : ∀ j, h ≤ j → j < e → j ≠ i - 1 → q j ≠ q (i - 1) := fun j f1 f2 f3 f4 => f3 (k.inj j (i - 1) f1 f2 (by omega) (by omega) f4)
    rw [show s.o p - 1 = q (i - 1) by omega]
    refine ⟨k.he, k.low, k.inj, fun r hr h3 => ?_, fun j f1 f2 => ?_, k.tl, fun r hr => ?_, fun r hr h3 => ?_, fun g => ?_, fun j f1 f2 => ?_, fun j f1 f2 => ?_, fun g => ?_, fun g h3 => ?_, fun g h3 => ?_⟩
    all_goals (try dsimp only at *)
    · by_cases e2 : r = p
      · exact ⟨i, g1, g2, by rw [g3, e2]⟩
      · rw [qup_other e2] at h3; exact k.mem r hr h3
    · by_cases e2 : j = i
      · rw [e2, g3, qup_same]; omega
      · rw [qup_other (hne j f1 f2 e2)]; exact k.ins j f1 f2
    · by_cases e2 : r = p
      · rw [e2, qup_same]; omega
      · rw [qup_other e2]; exact k.rng r hr
    · by_cases e2 : r = p
      · rw [e2, qup_same] at h3; omega
      · rw [qup_other e2] at h3
        have h7 := k.two r hr h3
        rw [qup_other (fun e3 => by have := k.ins (i - 1) (by omega) (by omega); rw [← e3] at this; omega)]; exact h7
    · rw [qup_other (hne h (Nat.le_refl _) g (by omega))]; exact k.head g
    · by_cases e2 : j = i
      · rw [e2, g3, qup_same]; exact ⟨by omega, by have := (hres hi).2.1; omega, fun h7 => by omega⟩
      · rw [qup_other (hne j (by omega) f2 e2)]; exact k.rest j f1 f2
    · by_cases e2 : j = i
      · rw [e2, g3, qup_same, qup_same]; exact ⟨fun _ => rfl, fun h7 => by omega⟩
      · rw [qup_other (hne j (by omega) f2 e2), qup_other (hpr (j - 1) (by omega) (by omega) (by omega))]; exact k.nxt j f1 f2
    · rw [qup_other (hpr (e - 1) (by omega) (by omega) (by omega))]; exact k.last g
    · rw [qup_other (hne h (Nat.le_refl _) g (by omega))] at h3; exact k.nine g h3
    · rw [qup_other (hne h (Nat.le_refl _) g (by omega))] at h3
      have h7 := k.ten g h3
      refine ⟨h7.1, ?_, h7.2.2⟩
      by_cases e2 : h + 1 = i
      · rw [e2, g3, qup_same]
      · rw [qup_other (hne (h + 1) (by omega) h7.1 e2)]; exact h7.2.1
  rw [if_neg a4]
  by_cases a5 : s.a p = 5
  · rw [if_pos a5, if_neg (show ¬ (s.a p = 10 ∨ s.a p = 8 ∧ s.T = p + 1) by omega)]
    split
    · rename_i hw
      have hi : i = h := by
        rcases hcase with e2 | hi
        · exact e2
        · have := (hres hi).2.1; omega
      have := hl 6 (s.o p) (s.w p) (by omega) (fun _ => ⟨Or.inr (by omega), fun h => by omega, fun h => by omega⟩) (fun h6 => by omega)
      rwa [qup_id, qup_id] at this
    · exact k
  rw [if_neg a5]
  have hp6 := k.place hp (by omega)
  have hi : i = h := k.inj i h g1 g2 (Nat.le_refl _) hp6.1 (g3.trans hp6.2.symm)
  subst hi
  by_cases a6 : s.a p = 6
  · rw [if_pos a6, if_neg (show ¬ (s.a p = 10 ∨ s.a p = 8 ∧ s.T = p + 1) by omega)]
    have := hl 7 (s.o p) (s.w p) (by omega) (fun _ => ⟨Or.inr (by omega), fun h => by omega, fun h => by omega⟩) (fun h6 => by omega)
    rwa [qup_id, qup_id] at this
  rw [if_neg a6]
  have hsucc : s.f p ≠ 0 → i + 1 < e ∧ s.a (q (i + 1)) = 5 ∧ s.f p = q (i + 1) + 1 := fun hf => by
    have h7 : i + 1 < e := by
      rcases Nat.lt_or_ge (i + 1) e with h8 | h8
      · exact h8
      · have := k.last (by omega); rw [show e - 1 = i by omega, g3] at this; omega
    have h8 := k.nxt (i + 1) (by omega) h7
    have h9 := (k.rest (i + 1) (by omega) h7).1
    rw [show i + 1 - 1 = i by omega, g3] at h8
    have h10 : s.a (q (i + 1)) = 5 := by
      have : s.a (q (i + 1)) = 5 ∨ s.a (q (i + 1)) ≤ 4 := by omega
      rcases this with h11 | h11
      · exact h11
      · exact absurd (h8.2 h11) hf
    exact ⟨h7, h10, h8.1 h10⟩
  by_cases a7 : s.a p = 7
  · rw [if_pos a7, if_neg (show ¬ (s.a p = 10 ∨ s.a p = 8 ∧ s.T = p + 1) by omega)]
    have := hl (if s.f p = 0 then 8 else 10) (s.f p) (s.w p) (by split <;> omega) (fun _ => ⟨Or.inr (by split <;> omega), fun h => by split at h <;> omega, fun h => by
      split at h
      · omega
      · rename_i hf; exact hsucc hf⟩) (fun h6 => by omega)
    rwa [qup_id] at this
  rw [if_neg a7]
  by_cases a8 : s.a p = 8
  · rw [if_pos a8]
    split
    · rename_i hT
      rw [if_pos (Or.inr ⟨a8, hT⟩)]
      have h7 : i + 1 = e := by
        rcases k.tl with h8 | h8
        · omega
        · have := k.inj i (e - 1) g1 g2 (by omega) (by omega) (by omega)
          omega
      have := k.leave g2 s.w 0 (Or.inl ⟨h7, rfl⟩) (fun h => by omega) (fun j h8 h9 => by omega)
      rwa [g3] at this
    · rename_i hT
      rw [if_neg (show ¬ (s.a p = 10 ∨ s.a p = 8 ∧ s.T = p + 1) by omega)]
      have h7 : i + 1 < e := by
        rcases Nat.lt_or_ge (i + 1) e with h8 | h8
        · exact h8
        · rcases k.tl with h9 | h9
          · omega
          · rw [show e - 1 = i by omega, g3] at h9; omega
      have := hl 9 (s.o p) (s.w p) (by omega) (fun _ => ⟨Or.inr (by omega), fun _ => h7, fun h => by omega⟩) (fun h6 => by omega)
      rwa [qup_id, qup_id] at this
  rw [if_neg a8]
  by_cases a9 : s.a p = 9
  · rw [if_pos a9, if_neg (show ¬ (s.a p = 10 ∨ s.a p = 8 ∧ s.T = p + 1) by omega)]
    have h9 : i + 1 < e := k.nine g2 (by rw [g3]; exact a9)
    have := hl (if s.f p = 0 then 9 else 10) (s.f p) (s.w p) (by split <;> omega) (fun _ => ⟨Or.inr (by split <;> omega), fun _ => h9, fun h => by
      split at h
      · omega
      · rename_i hf; exact hsucc hf⟩) (fun h6 => by omega)
    rwa [qup_id] at this
  rw [if_neg a9, if_pos (Or.inl (by omega))]
  have h10 := k.ten g2 (by rw [g3]; omega)
  rw [g3] at h10
  have hne : ∀ j, i + 1 < j → j < e → q j ≠ q (i + 1) := fun j f1 f2 f4 => by have := k.inj j (i + 1) (by omega) f2 (by omega) h10.1 f4; omega
  have := k.leave g2 (qup s.w (s.o p - 1) 0) s.T (Or.inr ⟨h10.1, rfl⟩) (fun _ => ⟨h10.2.1, by rw [show s.o p - 1 = q (i + 1) by omega, qup_same]⟩) (fun j h8 h9 => by rw [show s.o p - 1 = q (i + 1) by omega, qup_other (hne j h8 h9)])
  rwa [g3] at this
/-- One hand is in. -/
theorem MOk.alone (k : MOk n s q h e) {p r : Nat} (hp : p < n) (hr : r < n) (ap : 6 ≤ s.a p) (ar : 6 ≤ s.a r) : p = r := (k.place hp ap).2.symm.trans (k.place hr ar).2
/-- The tail is that of one who stands there; it is 0 just if nobody does. -/
theorem MOk.tail (k : MOk n s q h e) : s.T ≤ n ∧ (0 < s.T → s.T - 1 < n ∧ 3 ≤ s.a (s.T - 1) ∧ s.a (s.T - 1) ≤ 10) ∧ (s.T = 0 → ∀ p, p < n → s.a p ≤ 2) := by
  rcases k.tl with ⟨h1, h2⟩ | ⟨h1, h2⟩
  · refine ⟨by omega, fun h => by omega, fun _ p hp => ?_⟩
    rcases Nat.lt_or_ge 2 (s.a p) with h3 | h3
    · obtain ⟨i, g1, g2, _⟩ := k.mem p hp h3; omega
    · exact h3
  · have h3 := k.low (e - 1) (by omega) (by omega)
    have h4 := k.ins (e - 1) (by omega) (by omega)
    have h5 := k.rng _ h3
    exact ⟨by omega, fun _ => by rw [show s.T - 1 = q (e - 1) by omega]; omega, fun h => by omega⟩
end
end Go.Proofs.Ytobfaohcadmopaa
