/-
  Chapter 16 as plain mathematics: a queue with two ends. It imports nothing of the translation.
-/
namespace Go.Proofs.Ytimdhnjkjflbdaa
def fput {α : Type} (f : Nat → α) (i : Nat) (x : α) : Nat → α := fun j => if j = i then x else f j
theorem fput_same {α : Type} (f : Nat → α) (i : Nat) (x : α) : fput f i x i = x := by simp [fput]
theorem fput_other {α : Type} {f : Nat → α} {i j : Nat} {x : α} (h : j ≠ i) : fput f i x j = f j := by simp [fput, h]
/-- Of a hand: its line, its node, t, h, and the next one that it saw (one more; 0: none). -/
structure FH where
  a : Nat
  e : Nat
  t : Nat
  h : Nat
  x : Nat
/-- All hands; of nodes the next ones (one more; 0: none); how many nodes there are; the words. -/
structure FS where
  h : Nat → FH
  nx : Nat → Nat
  k : Nat
  hd : Nat
  tl : Nat
def ffnew : FS := ⟨fun _ => ⟨0, 0, 0, 0, 0⟩, fun _ => 0, 1, 0, 0⟩
def fbput (v : FS) (p : Nat) : FS := ⟨fput v.h p ⟨1, v.k, (v.h p).t, (v.h p).h, (v.h p).x⟩, fput v.nx v.k 0, v.k + 1, v.hd, v.tl⟩
def fbget (v : FS) (p : Nat) : FS := ⟨fput v.h p ⟨6, (v.h p).e, (v.h p).t, (v.h p).h, (v.h p).x⟩, v.nx, v.k, v.hd, v.tl⟩
def fto (b : FH) (a : Nat) : FH := ⟨a, b.e, b.t, b.h, b.x⟩
def fone (v : FS) (p : Nat) : FH :=
  if (v.h p).a = 1 then ⟨2, (v.h p).e, v.tl, (v.h p).h, (v.h p).x⟩
  else if (v.h p).a = 2 then ⟨if v.nx (v.h p).t = 0 then 3 else 4, (v.h p).e, (v.h p).t, (v.h p).h, v.nx (v.h p).t⟩
  else if (v.h p).a = 3 then fto (v.h p) (if v.nx (v.h p).t = 0 then 5 else 1)
  else if (v.h p).a = 4 then fto (v.h p) 1
  else if (v.h p).a = 5 then fto (v.h p) 0
  else if (v.h p).a = 6 then ⟨7, (v.h p).e, (v.h p).t, v.hd, (v.h p).x⟩
  else if (v.h p).a = 7 then ⟨8, (v.h p).e, v.tl, (v.h p).h, (v.h p).x⟩
  else if (v.h p).a = 8 then ⟨if (v.h p).h = (v.h p).t then (if v.nx (v.h p).h = 0 then 0 else 9) else 10, (v.h p).e, (v.h p).t, (v.h p).h, v.nx (v.h p).h⟩
  else if (v.h p).a = 9 then fto (v.h p) 6
  else fto (v.h p) (if v.hd = (v.h p).h then 0 else 6)
def fnx (v : FS) (p : Nat) : Nat → Nat := if (v.h p).a = 3 ∧ v.nx (v.h p).t = 0 then fput v.nx (v.h p).t ((v.h p).e + 1) else v.nx
def fhd (v : FS) (p : Nat) : Nat := if (v.h p).a = 10 ∧ v.hd = (v.h p).h then (v.h p).x - 1 else v.hd
def ftl (v : FS) (p : Nat) : Nat :=
  if ((v.h p).a = 4 ∨ (v.h p).a = 9) ∧ v.tl = (v.h p).t then (v.h p).x - 1
  else if (v.h p).a = 5 ∧ v.tl = (v.h p).t then (v.h p).e
  else v.tl
def fstp (v : FS) (p : Nat) : FS := ⟨fput v.h p (fone v p), fnx v p, v.k, fhd v p, ftl v p⟩

/-- The queue's nodes, one behind the other: which one at which place; the last place; the places of Head and Tail; who put a node. -/
structure FG where
  v : FS
  o : Nat → Nat
  m : Nat
  i : Nat
  j : Nat
  by' : Nat → Nat
/-- What is always so of a hand. -/
structure FHk (o : Nat → Nat) (m i j k : Nat) (x : FH) : Prop where
  ln : x.a ≤ 10
  own : 1 ≤ x.a ∧ x.a ≤ 4 → ∀ y, y ≤ m → o y ≠ x.e
  tt : 2 ≤ x.a ∧ x.a ≤ 5 → ∃ y, y ≤ j ∧ x.t = o y
  four : x.a = 4 → ∃ y, y < m ∧ x.t = o y ∧ x.x = o (y + 1) + 1
  five : x.a = 5 → ∃ y, y < m ∧ x.t = o y ∧ x.e = o (y + 1)
  hh : 7 ≤ x.a → ∃ y, y ≤ i ∧ x.h = o y ∧ (8 ≤ x.a → ∃ z, y ≤ z ∧ z ≤ j ∧ x.t = o z)
  nine : x.a = 9 → ∃ y, y < m ∧ x.t = o y ∧ x.x = o (y + 1) + 1
  ten : x.a = 10 → ∃ y, y < j ∧ x.h = o y ∧ x.x = o (y + 1) + 1
structure FOk (n : Nat) (g : FG) : Prop where
  o0 : g.o 0 = 0
  ok : ∀ y, y ≤ g.m → g.o y < g.v.k
  oi : ∀ y z, y ≤ g.m → z ≤ g.m → g.o y = g.o z → y = z
  nx : ∀ y, y < g.m → g.v.nx (g.o y) = g.o (y + 1) + 1
  nl : g.v.nx (g.o g.m) = 0
  nu : ∀ d, (∀ y, y ≤ g.m → g.o y ≠ d) → g.v.nx d = 0
  hd : g.v.hd = g.o g.i
  tl : g.v.tl = g.o g.j
  ij : g.i ≤ g.j
  jm : g.j ≤ g.m
  hk : ∀ p, p < n → FHk g.o g.m g.i g.j g.v.k (g.v.h p)
  ek : ∀ p, p < n → 1 ≤ (g.v.h p).a ∧ (g.v.h p).a ≤ 5 → (g.v.h p).e < g.v.k ∧ g.by' (g.v.h p).e = p ∧ ∀ d, d < g.v.k → 1 ≤ d → g.by' d = p → d ≤ (g.v.h p).e
  sb : ∀ y z, 1 ≤ y → y < z → z ≤ g.m → g.by' (g.o y) = g.by' (g.o z) → g.o y < g.o z
  k1 : 1 ≤ g.v.k
def fgnew : FG := ⟨ffnew, fun _ => 0, 0, 0, 0, fun _ => 0⟩
def fgput (g : FG) (p : Nat) : FG := ⟨fbput g.v p, g.o, g.m, g.i, g.j, fput g.by' g.v.k p⟩
def fgget (g : FG) (p : Nat) : FG := ⟨fbget g.v p, g.o, g.m, g.i, g.j, g.by'⟩
def fgstp (g : FG) (p : Nat) : FG :=
  ⟨fstp g.v p,
    if (g.v.h p).a = 3 ∧ g.v.nx (g.v.h p).t = 0 then fput g.o (g.m + 1) (g.v.h p).e else g.o,
    if (g.v.h p).a = 3 ∧ g.v.nx (g.v.h p).t = 0 then g.m + 1 else g.m,
    if (g.v.h p).a = 10 ∧ g.v.hd = (g.v.h p).h then g.i + 1 else g.i,
    if ((g.v.h p).a = 4 ∨ (g.v.h p).a = 9 ∨ (g.v.h p).a = 5) ∧ g.v.tl = (g.v.h p).t then g.j + 1 else g.j, g.by'⟩
theorem FHk.none {o : Nat → Nat} {m i j k : Nat} {x : FH} (h : x.a = 0) : FHk o m i j k x :=
  ⟨by omega, fun h1 => by omega, fun h1 => by omega, fun h1 => by omega, fun h1 => by omega, fun h1 => by omega, fun h1 => by omega, fun h1 => by omega⟩
theorem fgnew_ok (n : Nat) : FOk n fgnew :=
  ⟨rfl, fun y _ => Nat.lt_succ_self _, fun y z h1 h2 _ => by have h1 : y ≤ 0 := h1; have h2 : z ≤ 0 := h2; omega, fun y h => absurd h (Nat.not_lt_zero _), rfl, fun d _ => rfl, rfl, rfl, Nat.le_refl _, Nat.le_refl _,
    fun p _ => FHk.none rfl, fun p _ h => by have : 1 ≤ 0 := h.1; omega, fun y z h1 h2 h3 => by have h3 : z ≤ 0 := h3; omega, Nat.le_refl _⟩
/-- The queue is longer, the words are further on: what a hand knows stays so. -/
theorem FHk.more {o o' : Nat → Nat} {m m' i i' j j' k k' : Nat} {x : FH} (h : FHk o m i j k x) (hm : m ≤ m') (hi : i ≤ i') (hj : j ≤ j') (hjm : j ≤ m) (him : i ≤ m)
    (ho : ∀ y, y ≤ m → o' y = o y) (hn : 1 ≤ x.a ∧ x.a ≤ 4 → ∀ y, m < y → y ≤ m' → o' y ≠ x.e) : FHk o' m' i' j' k' x := by
  refine ⟨h.ln, fun h1 y hy => ?_, fun h1 => ?_, fun h1 => ?_, fun h1 => ?_, fun h1 => ?_, fun h1 => ?_, fun h1 => ?_⟩
  · by_cases e : y ≤ m
    · rw [ho y e]; exact h.own h1 y e
    · exact hn h1 y (by omega) hy
  · obtain ⟨y, h2, h3⟩ := h.tt h1
    exact ⟨y, by omega, by rw [ho y (by omega)]; exact h3⟩
  · obtain ⟨y, h2, h3, h4⟩ := h.four h1
    exact ⟨y, by omega, by rw [ho y (by omega)]; exact h3, by rw [ho (y + 1) (by omega)]; exact h4⟩
  · obtain ⟨y, h2, h3, h4⟩ := h.five h1
    exact ⟨y, by omega, by rw [ho y (by omega)]; exact h3, by rw [ho (y + 1) (by omega)]; exact h4⟩
  · obtain ⟨y, h2, h3, h4⟩ := h.hh h1
    refine ⟨y, by omega, by rw [ho y (by omega)]; exact h3, fun h5 => ?_⟩
    obtain ⟨z, h6, h7, h8⟩ := h4 h5
    exact ⟨z, h6, by omega, by rw [ho z (by omega)]; exact h8⟩
  · obtain ⟨y, h2, h3, h4⟩ := h.nine h1
    exact ⟨y, by omega, by rw [ho y (by omega)]; exact h3, by rw [ho (y + 1) (by omega)]; exact h4⟩
  · obtain ⟨y, h2, h3, h4⟩ := h.ten h1
    exact ⟨y, by omega, by rw [ho y (by omega)]; exact h3, by rw [ho (y + 1) (by omega)]; exact h4⟩
section
variable {n : Nat} {g : FG} (k : FOk n g)
include k
/-- A hand begins to put: it takes the next node. -/
theorem FOk.beginPut {p : Nat} : FOk n (fgput g p) := by
  have hnk : ∀ y, y ≤ g.m → g.o y ≠ g.v.k := fun y hy => by have := k.ok y hy; omega
  have hby : ∀ d, d < g.v.k → fput g.by' g.v.k p d = g.by' d := fun d h => fput_other (by omega)
  have hnx : ∀ d, fput g.v.nx g.v.k 0 d = g.v.nx d := fun d => by
    by_cases e : d = g.v.k
    · rw [e, fput_same]; exact (k.nu _ hnk).symm
    · exact fput_other e
  refine ⟨k.o0, fun y hy => Nat.lt_succ_of_lt (k.ok y hy), k.oi, fun y hy => ?_, ?_, fun d hd => ?_, k.hd, k.tl, k.ij, k.jm, fun q hq => ?_, fun q hq h => ?_, fun y z h1 h2 h3 h4 => ?_, Nat.le_succ_of_le k.k1⟩
  · show fput _ _ _ _ = _
    rw [hnx]; exact k.nx y hy
  · show fput _ _ _ _ = _
    rw [hnx]; exact k.nl
  · show fput _ _ _ _ = _
    rw [hnx]; exact k.nu d hd
  · show FHk g.o g.m g.i g.j (g.v.k + 1) (fput g.v.h p _ q)
    by_cases e : q = p
    · rw [e, fput_same]
      exact ⟨(by omega : 1 ≤ 10), fun _ => hnk, fun h => by have : 2 ≤ 1 := h.1; omega, fun h => by have : (1 : Nat) = 4 := h; omega, fun h => by have : (1 : Nat) = 5 := h; omega, fun h => by have : 7 ≤ 1 := h; omega, fun h => by have : (1 : Nat) = 9 := h; omega, fun h => by have : (1 : Nat) = 10 := h; omega⟩
    · rw [fput_other e]
      have jm := k.jm
      have ij := k.ij
      exact (k.hk q hq).more (Nat.le_refl _) (Nat.le_refl _) (Nat.le_refl _) jm (by omega) (fun y _ => rfl) fun _ y h1 h2 => by omega
  · show (fput g.v.h p _ q).e < g.v.k + 1 ∧ fput g.by' g.v.k p (fput g.v.h p _ q).e = q ∧ ∀ d, d < g.v.k + 1 → 1 ≤ d → fput g.by' g.v.k p d = q → d ≤ (fput g.v.h p _ q).e
    by_cases e : q = p
    · rw [e, fput_same]
      exact ⟨Nat.lt_succ_self _, fput_same _ _ _, fun d h1 _ _ => by show d ≤ g.v.k; omega⟩
    · have h : 1 ≤ (fput g.v.h p _ q).a ∧ (fput g.v.h p _ q).a ≤ 5 := h
      rw [fput_other e] at h ⊢
      obtain ⟨h1, h2, h3⟩ := k.ek q hq h
      rw [hby _ h1]
      refine ⟨by omega, h2, fun d h4 h5 h6 => ?_⟩
      by_cases e2 : d = g.v.k
      · rw [e2, fput_same] at h6; exact absurd h6.symm e
      · rw [fput_other e2] at h6; exact h3 d (by omega) h5 h6
  · have h4 : fput g.by' g.v.k p (g.o y) = fput g.by' g.v.k p (g.o z) := h4
    have h3 : z ≤ g.m := h3
    rw [hby _ (k.ok y (by omega)), hby _ (k.ok z h3)] at h4
    exact k.sb y z h1 h2 h3 h4
/-- A hand begins to get. -/
theorem FOk.beginGet {p : Nat} : FOk n (fgget g p) := by
  refine ⟨k.o0, k.ok, k.oi, k.nx, k.nl, k.nu, k.hd, k.tl, k.ij, k.jm, fun q hq => ?_, fun q hq h => ?_, k.sb, k.k1⟩
  · show FHk g.o g.m g.i g.j g.v.k (fput g.v.h p _ q)
    by_cases e : q = p
    · rw [e, fput_same]
      exact ⟨(by omega : 6 ≤ 10), fun h => by have : 6 ≤ 4 := h.2; omega, fun h => by have : 6 ≤ 5 := h.2; omega, fun h => by have : (6 : Nat) = 4 := h; omega, fun h => by have : (6 : Nat) = 5 := h; omega, fun h => by have : 7 ≤ 6 := h; omega, fun h => by have : (6 : Nat) = 9 := h; omega, fun h => by have : (6 : Nat) = 10 := h; omega⟩
    · rw [fput_other e]; exact k.hk q hq
  · show (fput g.v.h p _ q).e < g.v.k ∧ g.by' (fput g.v.h p _ q).e = q ∧ ∀ d, d < g.v.k → 1 ≤ d → g.by' d = q → d ≤ (fput g.v.h p _ q).e
    have h : 1 ≤ (fput g.v.h p _ q).a ∧ (fput g.v.h p _ q).a ≤ 5 := h
    by_cases e : q = p
    · rw [e, fput_same] at h
      have : 6 ≤ 5 := h.2
      omega
    · rw [fput_other e] at h ⊢; exact k.ek q hq h
end
end Go.Proofs.Ytimdhnjkjflbdaa
