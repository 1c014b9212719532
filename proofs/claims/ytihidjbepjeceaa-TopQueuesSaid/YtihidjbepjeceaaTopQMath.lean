/-
  A queue that one hand uses alone: what a whole put, and a whole get, come to, step by step.
-/
import Derived.Test.YtihidjbepjeceaaFifoLkN
import Derived.Test.YtihidjbepjeceaaRingLkN
namespace Go.Proofs.Ytihidjbepjeceaa.TopQ
open Go.RowKit Fif

/-- Nothing is under way: m were put, i got; nodes stand in order. -/
structure FI (v : FS) (m i : Nat) : Prop where
  a : (v.h 0).a = 0
  tl : v.tl = m
  hd : v.hd = i
  k : v.k = m + 1
  nx : ∀ y, y < m → v.nx y = y + 2
  last : v.nx m = 0
  le : i ≤ m
theorem FI.new : FI ffnew 0 0 := ⟨rfl, rfl, rfl, rfl, fun _ h => absurd h (Nat.not_lt_zero _), rfl, Nat.le_refl _⟩
/-- N steps, of which the last one ends it, and tells X. -/
structure FR (S : Nat → FG) (N : Nat) (X : Int) (vl : Nat → Int) : Prop where
  next : ∀ j, j < N → S (j + 1) = fgstp (S j) 0
  line : ∀ j, j < N → ((S j).v.h 0).a ≠ 0
  fin : ∀ j, j < N → sfin (S j).v 0 = decide (j + 1 = N)
  told : ∀ j, j < N → stold (S j).v vl 0 = if j + 1 = N then X else 0
def fit (s : FG) : Nat → FG
  | 0 => s
  | j + 1 => fgstp (fit s j) 0
theorem told_of {v : FS} {vl : Nat → Int} (h : sfin v 0 = false) : stold v vl 0 = 0 := by unfold stold; rw [h]; rfl
section
variable {v : FS} {vl : Nat → Int}
theorem nofin {a : Nat} (h : (v.h 0).a = a) (h5 : a ≠ 5) (h8 : a ≠ 8) (h10 : a ≠ 10) : sfin v 0 = false := by
  unfold sfin; rw [if_neg (by omega), if_neg (by omega), if_neg (by omega)]
/-- The steps of a put. -/
theorem put_seq {s : FG} {m i : Nat} (h : FI s.v m i) : ∃ S : Nat → FG, S 0 = fgput s 0 ∧ FR S 4 (-1) vl ∧ FI (S 4).v (m + 1) i := by
  have b0 : (fbput s.v 0).h 0 = ⟨1, m + 1, (s.v.h 0).t, (s.v.h 0).h, (s.v.h 0).x⟩ := (show fput s.v.h 0 (⟨1, s.v.k, (s.v.h 0).t, (s.v.h 0).h, (s.v.h 0).x⟩ : FH) 0 = _ from fput_same _ _ _).trans (by rw [h.k])
  obtain ⟨v0, e0⟩ : ∃ v0, v0 = fbput s.v 0 := ⟨_, rfl⟩
  have n0 : ∀ y, y < m → v0.nx y = y + 2 := fun y hy => by rw [e0]; show fput s.v.nx s.v.k 0 y = _; rw [fput_other (by rw [h.k]; omega)]; exact h.nx y hy
  have l0 : v0.nx m = 0 := by rw [e0]; show fput s.v.nx s.v.k 0 m = _; rw [fput_other (by rw [h.k]; omega)]; exact h.last
  have z0 : v0.nx (m + 1) = 0 := by rw [e0]; show fput s.v.nx s.v.k 0 (m + 1) = _; rw [h.k, fput_same]
  have k0 : v0.k = m + 2 := by rw [e0]; show s.v.k + 1 = _; rw [h.k]
  have t0 : v0.tl = m := by rw [e0]; exact h.tl
  have d0 : v0.hd = i := by rw [e0]; exact h.hd
  rw [← e0] at b0
  have e1 : fstp v0 0 = ⟨fput v0.h 0 ⟨2, m + 1, m, (s.v.h 0).h, (s.v.h 0).x⟩, v0.nx, v0.k, v0.hd, v0.tl⟩ :=
    fstp_eq (by unfold fone; rw [b0, if_pos rfl, t0]) (by unfold fnx; rw [b0, if_neg (fun h => by cases h.1)]) (by unfold fhd; rw [b0, if_neg (fun h => by cases h.1)]) (by unfold ftl; rw [b0, if_neg (fun h => by rcases h.1 with h | h <;> cases h), if_neg (fun h => by cases h.1)])
  obtain ⟨v1, f1⟩ : ∃ x, x = fstp v0 0 := ⟨_, rfl⟩
  have b1 : v1.h 0 = ⟨2, m + 1, m, (s.v.h 0).h, (s.v.h 0).x⟩ := by rw [f1, e1]; exact fput_same v0.h 0 _
  have x1 : v1.nx = v0.nx ∧ v1.k = v0.k ∧ v1.hd = v0.hd ∧ v1.tl = v0.tl := by rw [f1, e1]; exact ⟨rfl, rfl, rfl, rfl⟩
  have e2 : fstp v1 0 = ⟨fput v1.h 0 ⟨3, m + 1, m, (s.v.h 0).h, 0⟩, v1.nx, v1.k, v1.hd, v1.tl⟩ :=
    fstp_eq (by unfold fone; rw [b1, if_neg (fun e => by cases e), if_pos rfl]; show FH.mk (if v1.nx m = 0 then 3 else 4) _ _ _ (v1.nx m) = _; rw [x1.1, l0, if_pos rfl]) (by unfold fnx; rw [b1, if_neg (fun h => by cases h.1)]) (by unfold fhd; rw [b1, if_neg (fun h => by cases h.1)]) (by unfold ftl; rw [b1, if_neg (fun h => by rcases h.1 with h | h <;> cases h), if_neg (fun h => by cases h.1)])
  obtain ⟨v2, f2⟩ : ∃ x, x = fstp v1 0 := ⟨_, rfl⟩
  have b2 : v2.h 0 = ⟨3, m + 1, m, (s.v.h 0).h, 0⟩ := by rw [f2, e2]; exact fput_same v1.h 0 _
  have x2 : v2.nx = v0.nx ∧ v2.k = v0.k ∧ v2.hd = v0.hd ∧ v2.tl = v0.tl := by rw [f2, e2]; exact x1
  have e3 : fstp v2 0 = ⟨fput v2.h 0 ⟨5, m + 1, m, (s.v.h 0).h, 0⟩, fput v2.nx m (m + 2), v2.k, v2.hd, v2.tl⟩ :=
    fstp_eq (by unfold fone; rw [b2, if_neg (fun e => by cases e), if_neg (fun e => by cases e), if_pos rfl]; show fto _ (if v2.nx m = 0 then 5 else 1) = _; rw [x2.1, l0, if_pos rfl]; rfl) (by unfold fnx; rw [b2, if_pos ⟨rfl, by show v2.nx m = 0; rw [x2.1, l0]⟩]) (by unfold fhd; rw [b2, if_neg (fun h => by cases h.1)]) (by unfold ftl; rw [b2, if_neg (fun h => by rcases h.1 with h | h <;> cases h), if_neg (fun h => by cases h.1)])
  obtain ⟨v3, f3⟩ : ∃ x, x = fstp v2 0 := ⟨_, rfl⟩
  have b3 : v3.h 0 = ⟨5, m + 1, m, (s.v.h 0).h, 0⟩ := by rw [f3, e3]; exact fput_same v2.h 0 _
  have x3 : v3.nx = fput v0.nx m (m + 2) ∧ v3.k = v0.k ∧ v3.hd = v0.hd ∧ v3.tl = v0.tl := by rw [f3, e3, ← x2.1]; exact ⟨rfl, x2.2⟩
  have e4 : fstp v3 0 = ⟨fput v3.h 0 ⟨0, m + 1, m, (s.v.h 0).h, 0⟩, v3.nx, v3.k, v3.hd, m + 1⟩ :=
    fstp_eq (by unfold fone; rw [b3, if_neg (fun e => by cases e), if_neg (fun e => by cases e), if_neg (fun e => by cases e), if_neg (fun e => by cases e), if_pos rfl]; rfl) (by unfold fnx; rw [b3, if_neg (fun h => by cases h.1)]) (by unfold fhd; rw [b3, if_neg (fun h => by cases h.1)]) (by unfold ftl; rw [b3, if_neg (fun h => by rcases h.1 with h | h <;> cases h), if_pos ⟨rfl, by rw [x3.2.2.2, t0]⟩])
  have S0 : (fit (fgput s 0) 0).v = v0 := e0.symm
  have S1 : (fit (fgput s 0) 1).v = v1 := by rw [f1, ← S0]; rfl
  have S2 : (fit (fgput s 0) 2).v = v2 := by rw [f2, ← S1]; rfl
  have S3 : (fit (fgput s 0) 3).v = v3 := by rw [f3, ← S2]; rfl
  have S4 : (fit (fgput s 0) 4).v = fstp v3 0 := by rw [← S3]; rfl
  have c : ∀ j, j < 4 → j = 0 ∨ j = 1 ∨ j = 2 ∨ j = 3 := fun j h => by omega
  have g0 : sfin v0 0 = false := nofin (a := 1) (by rw [b0]) (by decide) (by decide) (by decide)
  have g1 : sfin v1 0 = false := nofin (a := 2) (by rw [b1]) (by decide) (by decide) (by decide)
  have g2 : sfin v2 0 = false := nofin (a := 3) (by rw [b2]) (by decide) (by decide) (by decide)
  have g3 : sfin v3 0 = true := by unfold sfin; rw [b3, if_pos rfl]
  refine ⟨fit (fgput s 0), rfl, ⟨fun j _ => rfl, fun j hj => ?_, fun j hj => ?_, fun j hj => ?_⟩, ?_⟩
  · rcases c j hj with rfl | rfl | rfl | rfl
    · rw [S0, b0]; exact Nat.succ_ne_zero _
    · rw [S1, b1]; exact Nat.succ_ne_zero _
    · rw [S2, b2]; exact Nat.succ_ne_zero _
    · rw [S3, b3]; exact Nat.succ_ne_zero _
  · rcases c j hj with rfl | rfl | rfl | rfl
    · rw [S0, g0]; rfl
    · rw [S1, g1]; rfl
    · rw [S2, g2]; rfl
    · rw [S3, g3]; rfl
  · rcases c j hj with rfl | rfl | rfl | rfl
    · rw [S0, told_of g0]; rfl
    · rw [S1, told_of g1]; rfl
    · rw [S2, told_of g2]; rfl
    · rw [S3]; unfold stold; rw [g3, b3, if_pos rfl, if_neg (show ¬ (5 : Nat) = 10 by decide)]; rfl
  · rw [S4, e4]
    refine ⟨congrArg FH.a (fput_same v3.h 0 _), rfl, by show v3.hd = i; rw [x3.2.2.1, d0], by show v3.k = _; rw [x3.2.1, k0], fun y hy => ?_, ?_, by have := h.le; omega⟩
    · show v3.nx y = _
      rw [x3.1]
      by_cases e : y = m
      · subst e; rw [fput_same]
      · rw [fput_other e]; exact n0 y (by omega)
    · show v3.nx (m + 1) = 0
      rw [x3.1, fput_other (by omega)]; exact z0
/-- The steps of a get, where something is in. -/
theorem get_seq {s : FG} {m i : Nat} (h : FI s.v m i) (him : i < m) : ∃ S : Nat → FG, S 0 = fgget s 0 ∧ FR S 4 (vl (i + 1)) vl ∧ FI (S 4).v m (i + 1) := by
  have b0 : (fbget s.v 0).h 0 = ⟨6, (s.v.h 0).e, (s.v.h 0).t, (s.v.h 0).h, (s.v.h 0).x⟩ := (show fput s.v.h 0 (⟨6, (s.v.h 0).e, (s.v.h 0).t, (s.v.h 0).h, (s.v.h 0).x⟩ : FH) 0 = _ from fput_same _ _ _)
  obtain ⟨v0, e0⟩ : ∃ v0, v0 = fbget s.v 0 := ⟨_, rfl⟩
  have x0 : v0.nx = s.v.nx ∧ v0.k = s.v.k ∧ v0.hd = i ∧ v0.tl = m := by rw [e0]; exact ⟨rfl, rfl, h.hd, h.tl⟩
  rw [← e0] at b0
  have e1 : fstp v0 0 = ⟨fput v0.h 0 ⟨7, (s.v.h 0).e, (s.v.h 0).t, i, (s.v.h 0).x⟩, v0.nx, v0.k, v0.hd, v0.tl⟩ :=
    fstp_eq (by unfold fone; rw [b0, if_neg (fun e => by cases e), if_neg (fun e => by cases e), if_neg (fun e => by cases e), if_neg (fun e => by cases e), if_neg (fun e => by cases e), if_pos rfl, x0.2.2.1]) (by unfold fnx; rw [b0, if_neg (fun h => by cases h.1)]) (by unfold fhd; rw [b0, if_neg (fun h => by cases h.1)]) (by unfold ftl; rw [b0, if_neg (fun h => by rcases h.1 with h | h <;> cases h), if_neg (fun h => by cases h.1)])
  obtain ⟨v1, f1⟩ : ∃ x, x = fstp v0 0 := ⟨_, rfl⟩
  have b1 : v1.h 0 = ⟨7, (s.v.h 0).e, (s.v.h 0).t, i, (s.v.h 0).x⟩ := by rw [f1, e1]; exact fput_same v0.h 0 _
  have x1 : v1.nx = s.v.nx ∧ v1.k = s.v.k ∧ v1.hd = i ∧ v1.tl = m := by rw [f1, e1]; exact x0
  have e2 : fstp v1 0 = ⟨fput v1.h 0 ⟨8, (s.v.h 0).e, m, i, (s.v.h 0).x⟩, v1.nx, v1.k, v1.hd, v1.tl⟩ :=
    fstp_eq (by unfold fone; rw [b1, if_neg (fun e => by cases e), if_neg (fun e => by cases e), if_neg (fun e => by cases e), if_neg (fun e => by cases e), if_neg (fun e => by cases e), if_neg (fun e => by cases e), if_pos rfl, x1.2.2.2]) (by unfold fnx; rw [b1, if_neg (fun h => by cases h.1)]) (by unfold fhd; rw [b1, if_neg (fun h => by cases h.1)]) (by unfold ftl; rw [b1, if_neg (fun h => by rcases h.1 with h | h <;> cases h), if_neg (fun h => by cases h.1)])
  obtain ⟨v2, f2⟩ : ∃ x, x = fstp v1 0 := ⟨_, rfl⟩
  have b2 : v2.h 0 = ⟨8, (s.v.h 0).e, m, i, (s.v.h 0).x⟩ := by rw [f2, e2]; exact fput_same v1.h 0 _
  have x2 : v2.nx = s.v.nx ∧ v2.k = s.v.k ∧ v2.hd = i ∧ v2.tl = m := by rw [f2, e2]; exact x1
  have e3 : fstp v2 0 = ⟨fput v2.h 0 ⟨10, (s.v.h 0).e, m, i, i + 2⟩, v2.nx, v2.k, v2.hd, v2.tl⟩ :=
    fstp_eq (by unfold fone; rw [b2, if_neg (fun e => by cases e), if_neg (fun e => by cases e), if_neg (fun e => by cases e), if_neg (fun e => by cases e), if_neg (fun e => by cases e), if_neg (fun e => by cases e), if_neg (fun e => by cases e), if_pos rfl]; show FH.mk (if i = m then (if v2.nx i = 0 then 0 else 9) else 10) _ _ _ (v2.nx i) = _; rw [if_neg (by omega), x2.1, h.nx i him]) (by unfold fnx; rw [b2, if_neg (fun h => by cases h.1)]) (by unfold fhd; rw [b2, if_neg (fun h => by cases h.1)]) (by unfold ftl; rw [b2, if_neg (fun h => by rcases h.1 with h | h <;> cases h), if_neg (fun h => by cases h.1)])
  obtain ⟨v3, f3⟩ : ∃ x, x = fstp v2 0 := ⟨_, rfl⟩
  have b3 : v3.h 0 = ⟨10, (s.v.h 0).e, m, i, i + 2⟩ := by rw [f3, e3]; exact fput_same v2.h 0 _
  have x3 : v3.nx = s.v.nx ∧ v3.k = s.v.k ∧ v3.hd = i ∧ v3.tl = m := by rw [f3, e3]; exact x2
  have e4 : fstp v3 0 = ⟨fput v3.h 0 ⟨0, (s.v.h 0).e, m, i, i + 2⟩, v3.nx, v3.k, i + 1, v3.tl⟩ :=
    fstp_eq (by unfold fone; rw [b3, if_neg (fun e => by cases e), if_neg (fun e => by cases e), if_neg (fun e => by cases e), if_neg (fun e => by cases e), if_neg (fun e => by cases e), if_neg (fun e => by cases e), if_neg (fun e => by cases e), if_neg (fun e => by cases e), if_neg (fun e => by cases e)]; show fto _ (if v3.hd = i then 0 else 6) = _; rw [x3.2.2.1, if_pos rfl]; rfl) (by unfold fnx; rw [b3, if_neg (fun h => by cases h.1)]) (by unfold fhd; rw [b3, if_pos ⟨rfl, x3.2.2.1⟩]; rfl) (by unfold ftl; rw [b3, if_neg (fun h => by rcases h.1 with h | h <;> cases h), if_neg (fun h => by cases h.1)])
  have S0 : (fit (fgget s 0) 0).v = v0 := e0.symm
  have S1 : (fit (fgget s 0) 1).v = v1 := by rw [f1, ← S0]; rfl
  have S2 : (fit (fgget s 0) 2).v = v2 := by rw [f2, ← S1]; rfl
  have S3 : (fit (fgget s 0) 3).v = v3 := by rw [f3, ← S2]; rfl
  have S4 : (fit (fgget s 0) 4).v = fstp v3 0 := by rw [← S3]; rfl
  have c : ∀ j, j < 4 → j = 0 ∨ j = 1 ∨ j = 2 ∨ j = 3 := fun j h => by omega
  have g0 : sfin v0 0 = false := nofin (a := 6) (by rw [b0]) (by decide) (by decide) (by decide)
  have g1 : sfin v1 0 = false := nofin (a := 7) (by rw [b1]) (by decide) (by decide) (by decide)
  have g2 : sfin v2 0 = false := by
    unfold sfin; rw [b2, if_neg (fun e => by cases e), if_pos rfl]
    exact decide_eq_false (fun e => by have : i = m := e.1; omega)
  have g3 : sfin v3 0 = true := by
    unfold sfin; rw [b3, if_neg (fun e => by cases e), if_neg (fun e => by cases e), if_pos rfl]
    exact decide_eq_true x3.2.2.1
  refine ⟨fit (fgget s 0), rfl, ⟨fun j _ => rfl, fun j hj => ?_, fun j hj => ?_, fun j hj => ?_⟩, ?_⟩
  · rcases c j hj with rfl | rfl | rfl | rfl
    · rw [S0, b0]; exact Nat.succ_ne_zero _
    · rw [S1, b1]; exact Nat.succ_ne_zero _
    · rw [S2, b2]; exact Nat.succ_ne_zero _
    · rw [S3, b3]; exact Nat.succ_ne_zero _
  · rcases c j hj with rfl | rfl | rfl | rfl
    · rw [S0, g0]; rfl
    · rw [S1, g1]; rfl
    · rw [S2, g2]; rfl
    · rw [S3, g3]; rfl
  · rcases c j hj with rfl | rfl | rfl | rfl
    · rw [S0, told_of g0]; rfl
    · rw [S1, told_of g1]; rfl
    · rw [S2, told_of g2]; rfl
    · rw [S3]; unfold stold; rw [g3, b3, if_pos rfl, if_pos rfl]; rfl
  · rw [S4, e4]
    exact ⟨congrArg FH.a (fput_same v3.h 0 _), x3.2.2.2, rfl, by show v3.k = _; rw [x3.2.1, h.k], fun y hy => by show v3.nx y = _; rw [x3.1]; exact h.nx y hy, by show v3.nx m = 0; rw [x3.1]; exact h.last, him⟩
/-- The steps of a get, where nothing is in. -/
theorem get_none {s : FG} {m i : Nat} (h : FI s.v m i) (him : i = m) : ∃ S : Nat → FG, S 0 = fgget s 0 ∧ FR S 3 (-1) vl ∧ FI (S 3).v m i := by
  have b0 : (fbget s.v 0).h 0 = ⟨6, (s.v.h 0).e, (s.v.h 0).t, (s.v.h 0).h, (s.v.h 0).x⟩ := (show fput s.v.h 0 (⟨6, (s.v.h 0).e, (s.v.h 0).t, (s.v.h 0).h, (s.v.h 0).x⟩ : FH) 0 = _ from fput_same _ _ _)
  obtain ⟨v0, e0⟩ : ∃ v0, v0 = fbget s.v 0 := ⟨_, rfl⟩
  have x0 : v0.nx = s.v.nx ∧ v0.k = s.v.k ∧ v0.hd = i ∧ v0.tl = m := by rw [e0]; exact ⟨rfl, rfl, h.hd, h.tl⟩
  rw [← e0] at b0
  have e1 : fstp v0 0 = ⟨fput v0.h 0 ⟨7, (s.v.h 0).e, (s.v.h 0).t, i, (s.v.h 0).x⟩, v0.nx, v0.k, v0.hd, v0.tl⟩ :=
    fstp_eq (by unfold fone; rw [b0, if_neg (fun e => by cases e), if_neg (fun e => by cases e), if_neg (fun e => by cases e), if_neg (fun e => by cases e), if_neg (fun e => by cases e), if_pos rfl, x0.2.2.1]) (by unfold fnx; rw [b0, if_neg (fun h => by cases h.1)]) (by unfold fhd; rw [b0, if_neg (fun h => by cases h.1)]) (by unfold ftl; rw [b0, if_neg (fun h => by rcases h.1 with h | h <;> cases h), if_neg (fun h => by cases h.1)])
  obtain ⟨v1, f1⟩ : ∃ x, x = fstp v0 0 := ⟨_, rfl⟩
  have b1 : v1.h 0 = ⟨7, (s.v.h 0).e, (s.v.h 0).t, i, (s.v.h 0).x⟩ := by rw [f1, e1]; exact fput_same v0.h 0 _
  have x1 : v1.nx = s.v.nx ∧ v1.k = s.v.k ∧ v1.hd = i ∧ v1.tl = m := by rw [f1, e1]; exact x0
  have e2 : fstp v1 0 = ⟨fput v1.h 0 ⟨8, (s.v.h 0).e, m, i, (s.v.h 0).x⟩, v1.nx, v1.k, v1.hd, v1.tl⟩ :=
    fstp_eq (by unfold fone; rw [b1, if_neg (fun e => by cases e), if_neg (fun e => by cases e), if_neg (fun e => by cases e), if_neg (fun e => by cases e), if_neg (fun e => by cases e), if_neg (fun e => by cases e), if_pos rfl, x1.2.2.2]) (by unfold fnx; rw [b1, if_neg (fun h => by cases h.1)]) (by unfold fhd; rw [b1, if_neg (fun h => by cases h.1)]) (by unfold ftl; rw [b1, if_neg (fun h => by rcases h.1 with h | h <;> cases h), if_neg (fun h => by cases h.1)])
  obtain ⟨v2, f2⟩ : ∃ x, x = fstp v1 0 := ⟨_, rfl⟩
  have b2 : v2.h 0 = ⟨8, (s.v.h 0).e, m, i, (s.v.h 0).x⟩ := by rw [f2, e2]; exact fput_same v1.h 0 _
  have x2 : v2.nx = s.v.nx ∧ v2.k = s.v.k ∧ v2.hd = i ∧ v2.tl = m := by rw [f2, e2]; exact x1
  have nz : v2.nx i = 0 := by rw [x2.1, him]; exact h.last
  have e3 : fstp v2 0 = ⟨fput v2.h 0 ⟨0, (s.v.h 0).e, m, i, 0⟩, v2.nx, v2.k, v2.hd, v2.tl⟩ :=
    fstp_eq (by unfold fone; rw [b2, if_neg (fun e => by cases e), if_neg (fun e => by cases e), if_neg (fun e => by cases e), if_neg (fun e => by cases e), if_neg (fun e => by cases e), if_neg (fun e => by cases e), if_neg (fun e => by cases e), if_pos rfl]; show FH.mk (if i = m then (if v2.nx i = 0 then 0 else 9) else 10) _ _ _ (v2.nx i) = _; rw [if_pos him, nz, if_pos rfl]) (by unfold fnx; rw [b2, if_neg (fun h => by cases h.1)]) (by unfold fhd; rw [b2, if_neg (fun h => by cases h.1)]) (by unfold ftl; rw [b2, if_neg (fun h => by rcases h.1 with h | h <;> cases h), if_neg (fun h => by cases h.1)])
  have S0 : (fit (fgget s 0) 0).v = v0 := e0.symm
  have S1 : (fit (fgget s 0) 1).v = v1 := by rw [f1, ← S0]; rfl
  have S2 : (fit (fgget s 0) 2).v = v2 := by rw [f2, ← S1]; rfl
  have S3 : (fit (fgget s 0) 3).v = fstp v2 0 := by rw [← S2]; rfl
  have c : ∀ j, j < 3 → j = 0 ∨ j = 1 ∨ j = 2 := fun j h => by omega
  have g0 : sfin v0 0 = false := nofin (a := 6) (by rw [b0]) (by decide) (by decide) (by decide)
  have g1 : sfin v1 0 = false := nofin (a := 7) (by rw [b1]) (by decide) (by decide) (by decide)
  have g2 : sfin v2 0 = true := by
    unfold sfin; rw [b2, if_neg (fun e => by cases e), if_pos rfl]
    exact decide_eq_true ⟨him, nz⟩
  refine ⟨fit (fgget s 0), rfl, ⟨fun j _ => rfl, fun j hj => ?_, fun j hj => ?_, fun j hj => ?_⟩, ?_⟩
  · rcases c j hj with rfl | rfl | rfl
    · rw [S0, b0]; exact Nat.succ_ne_zero _
    · rw [S1, b1]; exact Nat.succ_ne_zero _
    · rw [S2, b2]; exact Nat.succ_ne_zero _
  · rcases c j hj with rfl | rfl | rfl
    · rw [S0, g0]; rfl
    · rw [S1, g1]; rfl
    · rw [S2, g2]; rfl
  · rcases c j hj with rfl | rfl | rfl
    · rw [S0, told_of g0]; rfl
    · rw [S1, told_of g1]; rfl
    · rw [S2]; unfold stold; rw [g2, b2, if_pos rfl, if_neg (show ¬ (8 : Nat) = 10 by decide)]; rfl
  · rw [S3, e3]
    exact ⟨congrArg FH.a (fput_same v2.h 0 _), x2.2.2.2, x2.2.2.1, by show v2.k = _; rw [x2.2.1, h.k], fun y hy => by show v2.nx y = _; rw [x2.1]; exact h.nx y hy, by show v2.nx m = 0; rw [x2.1]; exact h.last, h.le⟩
end
end Go.Proofs.Ytihidjbepjeceaa.TopQ
