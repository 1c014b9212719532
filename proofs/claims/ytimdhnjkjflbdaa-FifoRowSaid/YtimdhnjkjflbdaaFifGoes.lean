import Derived.Test.YtimdhnjkjflbdaaFifStep
import Derived.Test.YtimdhnjkjflbdaaElcMath
/-
  Chapter 16 as plain mathematics: if all who do something step in turn, each is done behind 28 rounds (of four hands).
-/
namespace Go.Proofs.Ytimdhnjkjflbdaa
section
variable {n p q : Nat} {g : FG}
/-- What a step does to the words: a node more, Tail further on, Head further on. -/
def fL (g : FG) (q : Nat) : Prop := (g.v.h q).a = 3 ∧ g.v.nx (g.v.h q).t = 0
def fW (g : FG) (q : Nat) : Prop := ((g.v.h q).a = 4 ∨ (g.v.h q).a = 9 ∨ (g.v.h q).a = 5) ∧ g.v.tl = (g.v.h q).t
def fH (g : FG) (q : Nat) : Prop := (g.v.h q).a = 10 ∧ g.v.hd = (g.v.h q).h
instance (g : FG) (q : Nat) : Decidable (fL g q) := by unfold fL; infer_instance
instance (g : FG) (q : Nat) : Decidable (fW g q) := by unfold fW; infer_instance
instance (g : FG) (q : Nat) : Decidable (fH g q) := by unfold fH; infer_instance
/-- Tail is one node behind, at most. -/
def FLag (g : FG) : Prop := g.m ≤ g.j + 1
theorem FOk.link_jm (k : FOk n g) (hq : q < n) (hL : fL g q) : g.j = g.m := by
  obtain ⟨y, hy, e⟩ := (k.hk q hq).tt ⟨by rw [hL.1]; omega, by rw [hL.1]; omega⟩
  have hjm := k.jm
  rcases Nat.lt_or_ge y g.m with h1 | h1
  · have h2 := k.nx y h1
    rw [← e, hL.2] at h2; omega
  · omega
theorem FOk.tail_lt (k : FOk n g) (hq : q < n) (hW : fW g q) : g.j < g.m := by
  have key : ∀ y, y < g.m → (g.v.h q).t = g.o y → g.j < g.m := fun y hy e => by
    have := k.oi g.j y k.jm (by omega) (by rw [← k.tl, hW.2, e])
    omega
  rcases hW.1 with h1 | h1 | h1
  · obtain ⟨y, hy, e, _⟩ := (k.hk q hq).four h1; exact key y hy e
  · obtain ⟨y, hy, e, _⟩ := (k.hk q hq).nine h1; exact key y hy e
  · obtain ⟨y, hy, e, _⟩ := (k.hk q hq).five h1; exact key y hy e
theorem FOk.lag (k : FOk n g) (l : FLag g) (hq : q < n) : FLag (fgstp g q) := by
  have hm : (fgstp g q).m = if fL g q then g.m + 1 else g.m := rfl
  have hj : (fgstp g q).j = if fW g q then g.j + 1 else g.j := rfl
  unfold FLag at l ⊢
  rw [hm, hj]
  by_cases e : fL g q
  · have := k.link_jm hq e
    rw [if_pos e]; split <;> omega
  · rw [if_neg e]; split <;> omega
/-- How far Tail is behind. -/
def flam (g : FG) : Nat := g.m - g.j
def fuu (a : Nat) : Nat := if 1 ≤ a ∧ a ≤ 4 then 1 else 0
def fgg (a : Nat) : Nat := if 6 ≤ a then 1 else 0
/-- How many others are to put a node in, or to get one. -/
def fU (n : Nat) (g : FG) (p : Nat) : Nat := esum (fun q => if q = p then 0 else fuu (g.v.h q).a) n
def fG (n : Nat) (g : FG) (p : Nat) : Nat := esum (fun q => if q = p then 0 else fgg (g.v.h q).a) n
/-- How many steps it needs still if nothing comes between. -/
def fput_ (lam : Nat) (a t tl : Nat) : Nat :=
  if a = 1 then 4 + 3 * lam
  else if a = 2 then (if t = tl then 3 + 3 * lam else 6 + 3 * lam)
  else if a = 3 then (if t = tl then 2 + 6 * lam else 5 + 3 * lam)
  else if a = 4 then (if t = tl then 5 else 5 + 3 * lam)
  else 1
def fget_ (a t h tl hd : Nat) : Nat :=
  if a = 6 then 4
  else if a = 7 then (if h = hd then 3 else 7)
  else if a = 8 then (if h = t then (if t = tl then 2 else 6) else (if h = hd then 2 else 6))
  else if a = 9 then (if t = tl then 1 else 5)
  else (if h = hd then 1 else 5)
def fPsi (n : Nat) (g : FG) (p : Nat) : Nat :=
  if (g.v.h p).a = 0 then 0
  else if (g.v.h p).a ≤ 5 then fput_ (flam g) (g.v.h p).a (g.v.h p).t g.v.tl + 6 * fU n g p
  else fget_ (g.v.h p).a (g.v.h p).t (g.v.h p).h g.v.tl g.v.hd + 4 * (fU n g p + flam g + fG n g p)
theorem fone_a : (fone g.v q).a = if (g.v.h q).a = 1 then 2 else if (g.v.h q).a = 2 then (if g.v.nx (g.v.h q).t = 0 then 3 else 4) else if (g.v.h q).a = 3 then (if g.v.nx (g.v.h q).t = 0 then 5 else 1) else if (g.v.h q).a = 4 then 1 else if (g.v.h q).a = 5 then 0 else if (g.v.h q).a = 6 then 7 else if (g.v.h q).a = 7 then 8 else if (g.v.h q).a = 8 then (if (g.v.h q).h = (g.v.h q).t then (if g.v.nx (g.v.h q).h = 0 then 0 else 9) else 10) else if (g.v.h q).a = 9 then 6 else if g.v.hd = (g.v.h q).h then 0 else 6 := by
  unfold fone fto
  by_cases e1 : (g.v.h q).a = 1
  · rw [if_pos e1, if_pos e1]
  rw [if_neg e1, if_neg e1]
  by_cases e2 : (g.v.h q).a = 2
  · rw [if_pos e2, if_pos e2]
  rw [if_neg e2, if_neg e2]
  by_cases e3 : (g.v.h q).a = 3
  · rw [if_pos e3, if_pos e3]
  rw [if_neg e3, if_neg e3]
  by_cases e4 : (g.v.h q).a = 4
  · rw [if_pos e4, if_pos e4]
  rw [if_neg e4, if_neg e4]
  by_cases e5 : (g.v.h q).a = 5
  · rw [if_pos e5, if_pos e5]
  rw [if_neg e5, if_neg e5]
  by_cases e6 : (g.v.h q).a = 6
  · rw [if_pos e6, if_pos e6]
  rw [if_neg e6, if_neg e6]
  by_cases e7 : (g.v.h q).a = 7
  · rw [if_pos e7, if_pos e7]
  rw [if_neg e7, if_neg e7]
  by_cases e8 : (g.v.h q).a = 8
  · rw [if_pos e8, if_pos e8]
  rw [if_neg e8, if_neg e8]
  by_cases e9 : (g.v.h q).a = 9
  · rw [if_pos e9, if_pos e9]
  rw [if_neg e9, if_neg e9]
theorem fuu_step (h0 : (g.v.h q).a ≠ 0) (h10 : (g.v.h q).a ≤ 10) : fuu (fone g.v q).a + (if fL g q then 1 else 0) = fuu (g.v.h q).a := by
  rw [fone_a]
  unfold fuu fL
  obtain h | h | h | h | h | h | h | h | h | h : (g.v.h q).a = 1 ∨ (g.v.h q).a = 2 ∨ (g.v.h q).a = 3 ∨ (g.v.h q).a = 4 ∨ (g.v.h q).a = 5 ∨ (g.v.h q).a = 6 ∨ (g.v.h q).a = 7 ∨ (g.v.h q).a = 8 ∨ (g.v.h q).a = 9 ∨ (g.v.h q).a = 10 := by omega
  · simp [h]
  · simp only [h]; by_cases e : g.v.nx (g.v.h q).t = 0 <;> simp [e]
  · simp only [h]; by_cases e : g.v.nx (g.v.h q).t = 0 <;> simp [e]
  · simp [h]
  · simp [h]
  · simp [h]
  · simp [h]
  · have hy : (if (g.v.h q).h = (g.v.h q).t then (if g.v.nx (g.v.h q).h = 0 then 0 else 9) else 10) = 0 ∨ (if (g.v.h q).h = (g.v.h q).t then (if g.v.nx (g.v.h q).h = 0 then 0 else 9) else 10) = 9 ∨ (if (g.v.h q).h = (g.v.h q).t then (if g.v.nx (g.v.h q).h = 0 then 0 else 9) else 10) = 10 := by
      split
      · split <;> simp
      · simp
    simp only [h]
    rcases hy with hy | hy | hy <;> simp [hy]
  · simp [h]
  · simp only [h]; by_cases e : g.v.hd = (g.v.h q).h <;> simp [e]
theorem fgg_step (h0 : (g.v.h q).a ≠ 0) (h10 : (g.v.h q).a ≤ 10) : fgg (fone g.v q).a + (if fH g q then 1 else 0) ≤ fgg (g.v.h q).a := by
  rw [fone_a]
  unfold fgg fH
  obtain h | h | h | h | h | h | h | h | h | h : (g.v.h q).a = 1 ∨ (g.v.h q).a = 2 ∨ (g.v.h q).a = 3 ∨ (g.v.h q).a = 4 ∨ (g.v.h q).a = 5 ∨ (g.v.h q).a = 6 ∨ (g.v.h q).a = 7 ∨ (g.v.h q).a = 8 ∨ (g.v.h q).a = 9 ∨ (g.v.h q).a = 10 := by omega
  · simp [h]
  · simp only [h]; by_cases e : g.v.nx (g.v.h q).t = 0 <;> simp [e]
  · simp only [h]; by_cases e : g.v.nx (g.v.h q).t = 0 <;> simp [e]
  · simp [h]
  · simp [h]
  · simp [h]
  · simp [h]
  · have hy : (if (g.v.h q).h = (g.v.h q).t then (if g.v.nx (g.v.h q).h = 0 then 0 else 9) else 10) = 0 ∨ (if (g.v.h q).h = (g.v.h q).t then (if g.v.nx (g.v.h q).h = 0 then 0 else 9) else 10) = 9 ∨ (if (g.v.h q).h = (g.v.h q).t then (if g.v.nx (g.v.h q).h = 0 then 0 else 9) else 10) = 10 := by
      split
      · split <;> simp
      · simp
    simp only [h]
    rcases hy with hy | hy | hy <;> simp [hy]
  · simp [h]
  · simp only [h]; by_cases e : g.v.hd = (g.v.h q).h <;> simp [e]
theorem fsum_one {f f' : Nat → Nat} {n q : Nat} (hq : q < n) (h : ∀ b, b < n → b ≠ q → f' b = f b) : esum f' n + f q = esum f n + f' q := by
  have h1 := esum_up f (f' q) hq
  rw [esum_same (f := eup f q (f' q)) (g := f') fun b hb => by
    by_cases e : b = q
    · subst e; rw [eup_same]
    · rw [eup_other e, h b hb e]] at h1
  exact h1
theorem fh_other {r : Nat} (h : r ≠ q) : (fgstp g q).v.h r = g.v.h r := fput_other h
theorem fh_same : (fgstp g q).v.h q = fone g.v q := fput_same _ _ _
theorem fU_step (hq : q < n) (hne : q ≠ p) (h0 : (g.v.h q).a ≠ 0) (h10 : (g.v.h q).a ≤ 10) : fU n (fgstp g q) p + (if fL g q then 1 else 0) = fU n g p := by
  have h1 := fsum_one (f := fun r => if r = p then 0 else fuu (g.v.h r).a) (f' := fun r => if r = p then 0 else fuu ((fgstp g q).v.h r).a) hq (fun b _ e => by rw [fh_other e])
  rw [if_neg hne, if_neg hne, fh_same] at h1
  have h2 := fuu_step h0 h10
  unfold fU
  omega
theorem fG_step (hq : q < n) (hne : q ≠ p) (h0 : (g.v.h q).a ≠ 0) (h10 : (g.v.h q).a ≤ 10) : fG n (fgstp g q) p + (if fH g q then 1 else 0) ≤ fG n g p := by
  have h1 := fsum_one (f := fun r => if r = p then 0 else fgg (g.v.h r).a) (f' := fun r => if r = p then 0 else fgg ((fgstp g q).v.h r).a) hq (fun b _ e => by rw [fh_other e])
  rw [if_neg hne, if_neg hne, fh_same] at h1
  have h2 := fgg_step h0 h10
  unfold fG
  omega
theorem fU_own : fU n (fgstp g p) p = fU n g p := esum_same fun r _ => by
  by_cases e : r = p
  · rw [if_pos e, if_pos e]
  · rw [if_neg e, if_neg e, fh_other e]
theorem fG_own : fG n (fgstp g p) p = fG n g p := esum_same fun r _ => by
  by_cases e : r = p
  · rw [if_pos e, if_pos e]
  · rw [if_neg e, if_neg e, fh_other e]
/-- What a step makes of the words. -/
theorem FOk.words (k : FOk n g) (l : FLag g) (hq : q < n) (h0 : (g.v.h q).a ≠ 0) :
    (fL g q ∧ flam g = 0 ∧ flam (fgstp g q) = 1 ∧ (fgstp g q).v.tl = g.v.tl ∧ (fgstp g q).v.hd = g.v.hd ∧ ¬ fH g q) ∨
    (fW g q ∧ ¬ fL g q ∧ ¬ fH g q ∧ flam g = 1 ∧ flam (fgstp g q) = 0 ∧ (fgstp g q).v.hd = g.v.hd ∧ (∀ y, y ≤ g.j → (fgstp g q).v.tl ≠ g.o y)) ∨
    (fH g q ∧ ¬ fL g q ∧ flam (fgstp g q) = flam g ∧ (fgstp g q).v.tl = g.v.tl ∧ (∀ y, y ≤ g.i → (fgstp g q).v.hd ≠ g.o y)) ∨
    (¬ fH g q ∧ ¬ fL g q ∧ flam (fgstp g q) = flam g ∧ (fgstp g q).v.tl = g.v.tl ∧ (fgstp g q).v.hd = g.v.hd) := by
  have k' := k.step hq h0
  have hm : (fgstp g q).m = if fL g q then g.m + 1 else g.m := rfl
  have hj : (fgstp g q).j = if fW g q then g.j + 1 else g.j := rfl
  have hi : (fgstp g q).i = if fH g q then g.i + 1 else g.i := rfl
  have ho : (fgstp g q).o = if fL g q then fput g.o (g.m + 1) (g.v.h q).e else g.o := rfl
  have hjm := k.jm
  have hij := k.ij
  unfold FLag at l
  unfold flam
  by_cases cL : fL g q
  · left
    have e1 := k.link_jm hq cL
    have cW : ¬ fW g q := fun c => by have := c.1; have := cL.1; omega
    have cH : ¬ fH g q := fun c => by have := c.1; have := cL.1; omega
    rw [hm, hj, if_pos cL, if_neg cW]
    refine ⟨cL, by omega, by omega, ?_, ?_, cH⟩
    · rw [k'.tl, hj, if_neg cW, ho, if_pos cL, fput_other (by omega), ← k.tl]
    · rw [k'.hd, hi, if_neg cH, ho, if_pos cL, fput_other (by omega), ← k.hd]
  right
  rw [if_neg cL] at hm ho
  by_cases cW : fW g q
  · left
    have e1 := k.tail_lt hq cW
    have cH : ¬ fH g q := fun c => by have := c.1; have := cW.1; omega
    rw [hm, hj, if_pos cW]
    refine ⟨cW, cL, cH, by omega, by omega, ?_, fun y hy e => ?_⟩
    · rw [k'.hd, hi, if_neg cH, ho, ← k.hd]
    · rw [k'.tl, hj, if_pos cW, ho] at e
      have := k.oi (g.j + 1) y (by omega) (by omega) e
      omega
  right
  rw [if_neg cW] at hj
  have etl : (fgstp g q).v.tl = g.v.tl := by rw [k'.tl, hj, ho, ← k.tl]
  by_cases cH : fH g q
  · left
    rw [hm, hj]
    refine ⟨cH, cL, rfl, etl, fun y hy e => ?_⟩
    rw [k'.hd, hi, if_pos cH, ho] at e
    have h2 := k'.ij
    rw [hi, hj, if_pos cH] at h2
    have := k.oi (g.i + 1) y (by omega) (by omega) e
    omega
  · right
    rw [hm, hj]
    exact ⟨cH, cL, rfl, etl, by rw [k'.hd, hi, if_neg cH, ho, ← k.hd]⟩
/-- Another one's step does not make it longer. -/
theorem FOk.psi_other (k : FOk n g) (l : FLag g) (hp : p < n) (hq : q < n) (hne : q ≠ p) (h0 : (g.v.h q).a ≠ 0) : fPsi n (fgstp g q) p ≤ fPsi n g p := by
  have hk := k.hk p hp
  have hU := fU_step hq hne h0 (k.hk q hq).ln
  have hG := fG_step hq hne h0 (k.hk q hq).ln
  have hhp : (fgstp g q).v.h p = g.v.h p := fh_other (fun e => hne e.symm)
  have hlam : flam g ≤ 1 := by unfold FLag at l; unfold flam; omega
  unfold fPsi
  rw [hhp]
  by_cases a0 : (g.v.h p).a = 0
  · rw [if_pos a0, if_pos a0]; exact Nat.le_refl _
  rw [if_neg a0, if_neg a0]
  have hL10 := hk.ln
  by_cases a5 : (g.v.h p).a ≤ 5
  · rw [if_pos a5, if_pos a5]
    have a12 : (g.v.h p).a ≠ 1 → 2 ≤ (g.v.h p).a := fun _ => by omega
    have ht : 2 ≤ (g.v.h p).a → ∃ y, y ≤ g.j ∧ (g.v.h p).t = g.o y := fun h => hk.tt ⟨h, a5⟩
    rcases k.words l hq h0 with ⟨c1, c2, c3, c4, c5, c6⟩ | ⟨c1, c2, c3, c4, c5, c6, c7⟩ | ⟨c1, c2, c3, c4, c5⟩ | ⟨c1, c2, c3, c4, c5⟩
    · rw [if_pos c1] at hU
      rw [c2, c3, c4]
      have : fput_ 1 (g.v.h p).a (g.v.h p).t g.v.tl ≤ fput_ 0 (g.v.h p).a (g.v.h p).t g.v.tl + 6 := by unfold fput_; (repeat' split) <;> omega
      omega
    · rw [if_neg c2] at hU
      rw [c4, c5]
      have hne2 : 2 ≤ (g.v.h p).a → (g.v.h p).t ≠ (fgstp g q).v.tl := fun h e => by
        obtain ⟨y, hy, e2⟩ := ht h
        exact c7 y hy (by rw [← e, e2])
      clear ht
      have : fput_ 0 (g.v.h p).a (g.v.h p).t (fgstp g q).v.tl ≤ fput_ 1 (g.v.h p).a (g.v.h p).t g.v.tl := by
        unfold fput_
        by_cases a1 : (g.v.h p).a = 1
        · rw [if_pos a1, if_pos a1]; omega
        · have := hne2 (a12 a1)
          rw [if_neg a1, if_neg a1, if_neg this, if_neg this, if_neg this]
          repeat' split
          all_goals omega
      omega
    · rw [if_neg c2] at hU
      rw [c3, c4]; omega
    · rw [if_neg c2] at hU
      rw [c3, c4]; omega
  · rw [if_neg a5, if_neg a5]
    have hh : 7 ≤ (g.v.h p).a → ∃ y, y ≤ g.i ∧ (g.v.h p).h = g.o y ∧ (8 ≤ (g.v.h p).a → ∃ z, y ≤ z ∧ z ≤ g.j ∧ (g.v.h p).t = g.o z) := hk.hh
    rcases k.words l hq h0 with ⟨c1, c2, c3, c4, c5, c6⟩ | ⟨c1, c2, c3, c4, c5, c6, c7⟩ | ⟨c1, c2, c3, c4, c5⟩ | ⟨c1, c2, c3, c4, c5⟩
    · rw [if_pos c1] at hU
      rw [if_neg c6] at hG
      rw [c2, c3, c4, c5]; omega
    · rw [if_neg c2] at hU
      rw [if_neg c3] at hG
      rw [c4, c5, c6]
      have : fget_ (g.v.h p).a (g.v.h p).t (g.v.h p).h (fgstp g q).v.tl g.v.hd ≤ fget_ (g.v.h p).a (g.v.h p).t (g.v.h p).h g.v.tl g.v.hd + 4 := by unfold fget_; (repeat' split) <;> omega
      omega
    · rw [if_neg c2] at hU
      rw [if_pos c1] at hG
      rw [c3, c4]
      have : fget_ (g.v.h p).a (g.v.h p).t (g.v.h p).h g.v.tl (fgstp g q).v.hd ≤ fget_ (g.v.h p).a (g.v.h p).t (g.v.h p).h g.v.tl g.v.hd + 4 := by unfold fget_; (repeat' split) <;> omega
      omega
    · rw [if_neg c2] at hU
      rw [if_neg c1] at hG
      rw [c3, c4, c5]; omega
theorem fget7 (t h tl hd : Nat) : fget_ 7 t h tl hd = if h = hd then 3 else 7 := rfl
theorem fget8 (t h tl hd : Nat) : fget_ 8 t h tl hd = if h = t then (if t = tl then 2 else 6) else (if h = hd then 2 else 6) := rfl
theorem fget9 (t h tl hd : Nat) : fget_ 9 t h tl hd = if t = tl then 1 else 5 := rfl
theorem fget10 (t h tl hd : Nat) : fget_ 10 t h tl hd = if h = hd then 1 else 5 := rfl
theorem fPsi_put (h0 : (g.v.h p).a ≠ 0) (h5 : (g.v.h p).a ≤ 5) : fPsi n g p = fput_ (flam g) (g.v.h p).a (g.v.h p).t g.v.tl + 6 * fU n g p := by unfold fPsi; rw [if_neg h0, if_pos h5]
theorem fPsi_get (h6 : 6 ≤ (g.v.h p).a) : fPsi n g p = fget_ (g.v.h p).a (g.v.h p).t (g.v.h p).h g.v.tl g.v.hd + 4 * (fU n g p + flam g + fG n g p) := by unfold fPsi; rw [if_neg (by omega), if_neg (by omega)]
theorem fPsi_zero (h0 : (g.v.h p).a = 0) : fPsi n g p = 0 := by unfold fPsi; rw [if_pos h0]
/-- Its own step makes it shorter. -/
theorem FOk.psi_own (k : FOk n g) (l : FLag g) (hp : p < n) (h0 : (g.v.h p).a ≠ 0) : fPsi n (fgstp g p) p < fPsi n g p := by
  have hk := k.hk p hp
  have h10 := hk.ln
  have hs : (fgstp g p).v.h p = fone g.v p := fh_same
  have hU : fU n (fgstp g p) p = fU n g p := fU_own
  have hG : fG n (fgstp g p) p = fG n g p := fG_own
  have hlam : flam g ≤ 1 := by unfold FLag at l; unfold flam; omega
  have hw := k.words l hp h0
  have hjm := k.jm
  -- whether Tail's node has a next one
  have hnl : flam g = 0 → g.v.nx g.v.tl = 0 := fun e => by
    have e2 : g.j = g.m := by unfold flam at e; omega
    rw [k.tl, e2]; exact k.nl
  have hnn : flam g ≠ 0 → g.v.nx g.v.tl ≠ 0 := fun e => by
    have e2 : g.j < g.m := by unfold flam at e; omega
    rw [k.tl, k.nx _ e2]; exact Nat.succ_ne_zero _
  have hold : 2 ≤ (g.v.h p).a → (g.v.h p).a ≤ 5 → (g.v.h p).t ≠ g.v.tl → g.v.nx (g.v.h p).t ≠ 0 := fun h2 h5 hne => by
    obtain ⟨y, hy, e⟩ := hk.tt ⟨h2, h5⟩
    have h3 : y ≠ g.j := fun e2 => hne (by rw [e, e2, ← k.tl])
    rw [e, k.nx y (by omega)]; exact Nat.succ_ne_zero _
  clear hjm
  -- the words stay
  have stay : ¬ fL g p → ¬ fW g p → ¬ fH g p → flam (fgstp g p) = flam g ∧ (fgstp g p).v.tl = g.v.tl ∧ (fgstp g p).v.hd = g.v.hd := fun n1 n2 n3 => by
    rcases hw with c | c | c | c
    · exact absurd c.1 n1
    · exact absurd c.1 n2
    · exact absurd c.1 n3
    · exact ⟨c.2.2.1, c.2.2.2.1, c.2.2.2.2⟩
  have moved : fW g p → flam g = 1 ∧ flam (fgstp g p) = 0 ∧ (fgstp g p).v.hd = g.v.hd := fun n2 => by
    rcases hw with c | c | c | c
    · exact absurd n2 (fun c2 => by have := c.1.1; have := c2.1; omega)
    · exact ⟨c.2.2.2.1, c.2.2.2.2.1, c.2.2.2.2.2.1⟩
    · exact absurd n2 (fun c2 => by have := c.1.1; have := c2.1; omega)
    · have hj : (fgstp g p).j = if fW g p then g.j + 1 else g.j := rfl
      have hm : (fgstp g p).m = if fL g p then g.m + 1 else g.m := rfl
      have h1 := k.tail_lt hp n2
      have h2 := c.2.2.1
      unfold flam at h2
      rw [hj, hm, if_pos n2, if_neg c.2.1] at h2
      omega
  obtain h | h | h | h | h | h | h | h | h | h : (g.v.h p).a = 1 ∨ (g.v.h p).a = 2 ∨ (g.v.h p).a = 3 ∨ (g.v.h p).a = 4 ∨ (g.v.h p).a = 5 ∨ (g.v.h p).a = 6 ∨ (g.v.h p).a = 7 ∨ (g.v.h p).a = 8 ∨ (g.v.h p).a = 9 ∨ (g.v.h p).a = 10 := by omega
  · have e : fone g.v p = ⟨2, (g.v.h p).e, g.v.tl, (g.v.h p).h, (g.v.h p).x⟩ := by unfold fone; rw [if_pos h]
    obtain ⟨s1, s2, s3⟩ := stay (fun c => by have := c.1; omega) (fun c => by have := c.1; omega) (fun c => by have := c.1; omega)
    rw [fPsi_put h0 (by omega), fPsi_put (by rw [hs, e]; exact (by decide : (2 : Nat) ≠ 0)) (by rw [hs, e]; exact (by decide : (2 : Nat) ≤ 5)), hs, e, hU, s1, s2, h]
    unfold fput_
    simp
  · have e : fone g.v p = ⟨if g.v.nx (g.v.h p).t = 0 then 3 else 4, (g.v.h p).e, (g.v.h p).t, (g.v.h p).h, g.v.nx (g.v.h p).t⟩ := by unfold fone; rw [if_neg (by omega), if_pos h]
    obtain ⟨s1, s2, s3⟩ := stay (fun c => by have := c.1; omega) (fun c => by have := c.1; omega) (fun c => by have := c.1; omega)
    have hz : (fone g.v p).a ≠ 0 ∧ (fone g.v p).a ≤ 5 := by rw [e]; dsimp only; split <;> omega
    rw [fPsi_put h0 (by omega), fPsi_put (by rw [hs]; exact hz.1) (by rw [hs]; exact hz.2), hs, hU, s1, s2, h, e]
    by_cases ef : (g.v.h p).t = g.v.tl
    · by_cases el : flam g = 0
      · rw [ef, if_pos (hnl el), el]; unfold fput_; simp
      · rw [ef, if_neg (hnn el), show flam g = 1 by omega]; unfold fput_; simp
    · rw [if_neg (hold (by omega) (by omega) ef)]; unfold fput_; simp [ef]
  · have e : fone g.v p = fto (g.v.h p) (if g.v.nx (g.v.h p).t = 0 then 5 else 1) := by unfold fone; rw [if_neg (by omega), if_neg (by omega), if_pos h]
    by_cases ez : g.v.nx (g.v.h p).t = 0
    · rw [if_pos ez] at e
      rw [fPsi_put h0 (by omega), fPsi_put (by rw [hs, e]; exact (by decide : (5 : Nat) ≠ 0)) (by rw [hs, e]; exact (by decide : (5 : Nat) ≤ 5)), hs, hU, h, e]
      unfold fput_ fto
      simp
      split <;> omega
    · rw [if_neg ez] at e
      obtain ⟨s1, s2, s3⟩ := stay (fun c => ez c.2) (fun c => by have := c.1; omega) (fun c => by have := c.1; omega)
      rw [fPsi_put h0 (by omega), fPsi_put (by rw [hs, e]; exact (by decide : (1 : Nat) ≠ 0)) (by rw [hs, e]; exact (by decide : (1 : Nat) ≤ 5)), hs, hU, s1, s2, h, e]
      unfold fput_ fto
      by_cases ef : (g.v.h p).t = g.v.tl
      · have el : flam g ≠ 0 := fun el => ez (by rw [ef]; exact hnl el)
        simp [ef]
        omega
      · simp [ef]
  · have e : fone g.v p = fto (g.v.h p) 1 := by unfold fone; rw [if_neg (by omega), if_neg (by omega), if_neg (by omega), if_pos h]
    by_cases cW : fW g p
    · obtain ⟨s1, s2, s3⟩ := moved cW
      have ef : (g.v.h p).t = g.v.tl := cW.2.symm
      rw [fPsi_put h0 (by omega), fPsi_put (by rw [hs, e]; exact (by decide : (1 : Nat) ≠ 0)) (by rw [hs, e]; exact (by decide : (1 : Nat) ≤ 5)), hs, hU, s1, s2, h, e]
      unfold fput_ fto
      simp [ef]
    · have ef : ¬ (g.v.h p).t = g.v.tl := fun ef => cW ⟨Or.inl h, ef.symm⟩
      obtain ⟨s1, s2, s3⟩ := stay (fun c => by have := c.1; omega) cW (fun c => by have := c.1; omega)
      rw [fPsi_put h0 (by omega), fPsi_put (by rw [hs, e]; exact (by decide : (1 : Nat) ≠ 0)) (by rw [hs, e]; exact (by decide : (1 : Nat) ≤ 5)), hs, hU, s1, s2, h, e]
      unfold fput_ fto
      simp [ef]
  · have e : fone g.v p = fto (g.v.h p) 0 := by unfold fone; rw [if_neg (by omega), if_neg (by omega), if_neg (by omega), if_neg (by omega), if_pos h]
    rw [fPsi_zero (by rw [hs, e]; rfl), fPsi_put h0 (by omega), h]
    unfold fput_
    simp
    omega
  · have e : fone g.v p = ⟨7, (g.v.h p).e, (g.v.h p).t, g.v.hd, (g.v.h p).x⟩ := by unfold fone; rw [if_neg (by omega), if_neg (by omega), if_neg (by omega), if_neg (by omega), if_neg (by omega), if_pos h]
    obtain ⟨s1, s2, s3⟩ := stay (fun c => by have := c.1; omega) (fun c => by have := c.1; omega) (fun c => by have := c.1; omega)
    rw [fPsi_get (g := g) (by omega), fPsi_get (g := fgstp g p) (by rw [hs, e]; exact (by decide : 6 ≤ 7)), hs, hU, hG, s1, s2, s3, h, e]
    unfold fget_
    simp
  · have e : fone g.v p = ⟨8, (g.v.h p).e, g.v.tl, (g.v.h p).h, (g.v.h p).x⟩ := by unfold fone; rw [if_neg (by omega), if_neg (by omega), if_neg (by omega), if_neg (by omega), if_neg (by omega), if_neg (by omega), if_pos h]
    obtain ⟨s1, s2, s3⟩ := stay (fun c => by have := c.1; omega) (fun c => by have := c.1; omega) (fun c => by have := c.1; omega)
    rw [fPsi_get (g := g) (by omega), fPsi_get (g := fgstp g p) (by rw [hs, e]; exact (by decide : 6 ≤ 8)), hs, hU, hG, s1, s2, s3, h, e]
    dsimp only
    rw [fget7, fget8]
    (repeat' split) <;> omega
  · have e : fone g.v p = ⟨if (g.v.h p).h = (g.v.h p).t then (if g.v.nx (g.v.h p).h = 0 then 0 else 9) else 10, (g.v.h p).e, (g.v.h p).t, (g.v.h p).h, g.v.nx (g.v.h p).h⟩ := by unfold fone; rw [if_neg (by omega), if_neg (by omega), if_neg (by omega), if_neg (by omega), if_neg (by omega), if_neg (by omega), if_neg (by omega), if_pos h]
    obtain ⟨s1, s2, s3⟩ := stay (fun c => by have := c.1; omega) (fun c => by have := c.1; omega) (fun c => by have := c.1; omega)
    by_cases e1 : (g.v.h p).h = (g.v.h p).t
    · rw [if_pos e1] at e
      by_cases e2 : g.v.nx (g.v.h p).h = 0
      · rw [if_pos e2] at e
        rw [fPsi_zero (by rw [hs, e]), fPsi_get (g := g) (by omega), h]
        rw [fget8]
        (repeat' split) <;> omega
      · rw [if_neg e2] at e
        rw [fPsi_get (g := g) (by omega), fPsi_get (g := fgstp g p) (by rw [hs, e]; exact (by decide : 6 ≤ 9)), hs, hU, hG, s1, s2, s3, h, e]
        dsimp only
        rw [fget8, fget9, if_pos e1]
        (repeat' split) <;> omega
    · rw [if_neg e1] at e
      rw [fPsi_get (g := g) (by omega), fPsi_get (g := fgstp g p) (by rw [hs, e]; exact (by decide : 6 ≤ 10)), hs, hU, hG, s1, s2, s3, h, e]
      dsimp only
      rw [fget8, fget10, if_neg e1]
      (repeat' split) <;> omega
  · have e : fone g.v p = fto (g.v.h p) 6 := by unfold fone; rw [if_neg (by omega), if_neg (by omega), if_neg (by omega), if_neg (by omega), if_neg (by omega), if_neg (by omega), if_neg (by omega), if_neg (by omega), if_pos h]
    by_cases cW : fW g p
    · obtain ⟨s1, s2, s3⟩ := moved cW
      have ef : (g.v.h p).t = g.v.tl := cW.2.symm
      rw [fPsi_get (g := g) (by omega), fPsi_get (g := fgstp g p) (by rw [hs, e]; exact (by decide : 6 ≤ 6)), hs, hU, hG, s1, s2, s3, h, e]
      unfold fget_ fto
      simp [ef]
      omega
    · have ef : ¬ (g.v.h p).t = g.v.tl := fun ef => cW ⟨Or.inr (Or.inl h), ef.symm⟩
      obtain ⟨s1, s2, s3⟩ := stay (fun c => by have := c.1; omega) cW (fun c => by have := c.1; omega)
      rw [fPsi_get (g := g) (by omega), fPsi_get (g := fgstp g p) (by rw [hs, e]; exact (by decide : 6 ≤ 6)), hs, hU, hG, s1, s2, s3, h, e]
      unfold fget_ fto
      simp [ef]
  · have e : fone g.v p = fto (g.v.h p) (if g.v.hd = (g.v.h p).h then 0 else 6) := by unfold fone; rw [if_neg (by omega), if_neg (by omega), if_neg (by omega), if_neg (by omega), if_neg (by omega), if_neg (by omega), if_neg (by omega), if_neg (by omega), if_neg (by omega)]
    by_cases ef : g.v.hd = (g.v.h p).h
    · rw [if_pos ef] at e
      rw [fPsi_zero (by rw [hs, e]; rfl), fPsi_get (g := g) (by omega), h]
      unfold fget_
      simp [ef]
      omega
    · rw [if_neg ef] at e
      have ef' : ¬ (g.v.h p).h = g.v.hd := fun e2 => ef e2.symm
      obtain ⟨s1, s2, s3⟩ := stay (fun c => by have := c.1; omega) (fun c => by have := c.1; omega) (fun c => ef c.2)
      rw [fPsi_get (g := g) (by omega), fPsi_get (g := fgstp g p) (by rw [hs, e]; exact (by decide : 6 ≤ 6)), hs, hU, hG, s1, s2, s3, h, e]
      unfold fget_ fto
      simp [ef']
/-- A hand's turn: who does nothing does nothing. -/
def fturn (g : FG) (q : Nat) : FG := if (g.v.h q).a = 0 then g else fgstp g q
theorem fPsi_le (k : FOk n g) (l : FLag g) (hp : p < n) : fPsi n g p ≤ 6 * n + 5 := by
  have hlam : flam g ≤ 1 := by unfold FLag at l; unfold flam; omega
  have hn1 : ∀ f : Nat → Nat, (∀ q, f q ≤ 1) → esum (fun q => if q = p then 0 else f q) n + 1 ≤ n := fun f hf => by
    have h1 := esum_up (fun _ => 1) 0 hp
    rw [esum_const] at h1
    have h2 : esum (fun q => if q = p then 0 else f q) n ≤ esum (eup (fun _ => 1) p 0) n := esum_le fun q _ => by
      by_cases e : q = p
      · rw [if_pos e]; exact Nat.zero_le _
      · rw [if_neg e, eup_other e]; exact hf q
    omega
  have hU := hn1 (fun q => fuu (g.v.h q).a) (fun q => by unfold fuu; split <;> omega)
  have hUG : fU n g p + fG n g p + 1 ≤ n := by
    have := hn1 (fun q => fuu (g.v.h q).a + fgg (g.v.h q).a) (fun q => by unfold fuu fgg; split <;> split <;> omega)
    unfold fU fG
    rw [← esum_add]
    rw [esum_same (g := fun q => if q = p then 0 else fuu (g.v.h q).a + fgg (g.v.h q).a) fun q _ => by
      by_cases e : q = p
      · rw [if_pos e, if_pos e, if_pos e]
      · rw [if_neg e, if_neg e, if_neg e]]
    exact this
  have hU' : fU n g p + 1 ≤ n := hU
  unfold fPsi
  split
  · omega
  · split
    · have : fput_ (flam g) (g.v.h p).a (g.v.h p).t g.v.tl ≤ 9 := by unfold fput_; (repeat' split) <;> omega
      omega
    · have : fget_ (g.v.h p).a (g.v.h p).t (g.v.h p).h g.v.tl g.v.hd ≤ 7 := by unfold fget_; (repeat' split) <;> omega
      have _ := k.ij
      omega
/-- All are done behind 6 n + 6 rounds. -/
theorem FOk.ends {S : Nat → FG} (hn : 1 ≤ n) (h0 : FOk n (S 0)) (l0 : FLag (S 0)) (hS : ∀ t, S (t + 1) = fturn (S t) (t % n)) (hp : p < n) {T : Nat} (hT : (6 * n + 6) * n ≤ T) : ((S T).v.h p).a = 0 := by
  have hinv : ∀ t, FOk n (S t) ∧ FLag (S t) := rounds_inv (Inv := fun g => FOk n g ∧ FLag g) hn hS ⟨h0, l0⟩ (fun g q h hq => by
    unfold fturn; split
    · exact h
    · rename_i e; exact ⟨h.1.step hq e, h.1.lag h.2 hq⟩)
  obtain ⟨u, _, hu, hdn⟩ := rounds_done (n := n) (step := fturn) (S := S) (Inv := fun g => FOk n g ∧ FLag g) (Done := fun g => (g.v.h p).a = 0) (V := fun g => fPsi n g p) (M := fun _ => p) hn hS hinv
    (fun g h hnd => by
      refine ⟨hp, Or.inr ?_, fun y hy hyp => ?_⟩
      · unfold fturn; rw [if_neg hnd]; exact h.1.psi_own h.2 hp hnd
      · unfold fturn
        split
        · exact Or.inr (Or.inr ⟨rfl, rfl⟩)
        · rename_i e
          have h1 := h.1.psi_other h.2 hp hy hyp e
          rcases Nat.lt_or_ge (fPsi n (fgstp g y) p) (fPsi n g p) with h2 | h2
          · exact Or.inr (Or.inl h2)
          · exact Or.inr (Or.inr ⟨Nat.le_antisymm h1 h2, rfl⟩))
    (6 * n + 5) 0 (fPsi_le h0 l0 hp)
  have stay : ∀ i, ((S (u + i)).v.h p).a = 0 := fun i => by
    induction i with
    | zero => exact hdn
    | succ i ih =>
      rw [show u + (i + 1) = u + i + 1 from rfl, hS]
      unfold fturn
      split
      · exact ih
      · rename_i e
        rw [fh_other (fun (e2 : p = (u + i) % n) => e (by rw [← e2]; exact ih))]; exact ih
  have := stay (T - u)
  have h9 : (6 * n + 5 + 1) * n = (6 * n + 6) * n := rfl
  rwa [show u + (T - u) = T by omega] at this
/-- Who finds nothing is right: nothing is in. -/
theorem FOk.empty (k : FOk n g) (hp : p < n) (h8 : (g.v.h p).a = 8) (hx : g.v.nx (g.v.h p).h = 0) : g.i = g.m := by
  obtain ⟨y, hy, e, _⟩ := (k.hk p hp).hh (by omega)
  have hij := k.ij
  have hjm := k.jm
  rcases Nat.lt_or_ge y g.m with h1 | h1
  · have h2 := k.nx y h1
    rw [← e, hx] at h2; omega
  · omega
end
end Go.Proofs.Ytimdhnjkjflbdaa
