/-
  Chapter 18 as plain mathematics: one works, others steal. It imports nothing of the translation.
-/
namespace Go.Proofs.Ytbicckeoidijpaa
def dput {α : Type} (f : Nat → α) (i : Nat) (x : α) : Nat → α := fun j => if j = i then x else f j
theorem dput_same {α : Type} (f : Nat → α) (i : Nat) (x : α) : dput f i x i = x := by simp [dput]
theorem dput_other {α : Type} {f : Nat → α} {i j : Nat} {x : α} (h : j ≠ i) : dput f i x j = f j := by simp [dput, h]
theorem dmod {i t : Nat} (h : i < t) (h2 : t < i + 8) : i % 8 ≠ t % 8 := by omega
/-- Of who steals: its line, t, v. -/
structure DH where
  a : Nat
  t : Nat
  v : Nat
/-- Hand 0's line (0 to 8), t, v (lines 1 to 3: what it pushes; line 8: what it has, one more; 0: nothing); the others; Top; Bottom, one more at lines 5 to 8; the places. Then: what stands at which number; how many were pushed; what was told to be had; how many these are; the last one that was stolen, one more. -/
structure DS where
  a : Nat
  t : Nat
  v : Nat
  th : Nat → DH
  T : Nat
  E : Nat
  pl : Nat → Nat
  val : Nat → Nat
  pd : Nat
  had : Nat → Bool
  c : Nat
  ls : Nat
def dnew : DS := ⟨0, 0, 0, fun _ => ⟨0, 0, 0⟩, 0, 0, fun _ => 0, fun _ => 0, 0, fun _ => false, 0, 0⟩
/-- Bottom is above t. -/
def dbot (g : DS) (t : Nat) : Prop := if 5 ≤ g.a then t + 1 < g.E else t < g.E
instance (g : DS) (t : Nat) : Decidable (dbot g t) := by unfold dbot; exact inferInstance
def dpush (g : DS) (x : Nat) : DS := { g with a := 1, v := x }
def dpop (g : DS) : DS := { g with a := 4 }
def dsteal (g : DS) (p : Nat) : DS := { g with th := dput g.th p ⟨9, (g.th p).t, (g.th p).v⟩ }
/-- Hand 0 does a line. -/
def dstep0 (g : DS) : DS :=
  if g.a = 1 then { g with a := if g.T + 8 ≤ g.E then 0 else 2 }
  else if g.a = 2 then { g with a := 3, pl := dput g.pl (g.E % 8) g.v }
  else if g.a = 3 then { g with a := 0, E := g.E + 1, val := dput g.val g.E g.v, pd := g.pd + 1 }
  else if g.a = 4 then { g with a := 5 }
  else if g.a = 5 then
    (if g.T + 1 < g.E then { g with a := 0, t := g.T, E := g.E - 1, had := dput g.had (g.pl ((g.E - 1) % 8)) true, c := g.c + 1 }
     else if g.E = g.T + 1 then { g with a := 7, t := g.T } else { g with a := 6, t := g.T })
  else if g.a = 6 then { g with a := 0 }
  else if g.a = 7 then (if g.T = g.t then { g with a := 8, T := g.t + 1, v := g.pl ((g.E - 1) % 8) + 1 } else { g with a := 8, v := 0 })
  else (if g.v = 0 then { g with a := 0 } else { g with a := 0, had := dput g.had (g.v - 1) true, c := g.c + 1 })
/-- Who steals does a line. -/
def dstepT (g : DS) (p : Nat) : DS :=
  if (g.th p).a = 9 then { g with th := dput g.th p ⟨10, g.T, (g.th p).v⟩ }
  else if (g.th p).a = 10 then { g with th := dput g.th p ⟨if dbot g (g.th p).t then 11 else 0, (g.th p).t, (g.th p).v⟩ }
  else if (g.th p).a = 11 then { g with th := dput g.th p ⟨12, (g.th p).t, g.pl ((g.th p).t % 8)⟩ }
  else if g.T = (g.th p).t then { g with th := dput g.th p ⟨0, (g.th p).t, (g.th p).v⟩, T := g.T + 1, had := dput g.had (g.th p).v true, c := g.c + 1, ls := (g.th p).v + 1 }
  else { g with th := dput g.th p ⟨0, (g.th p).t, (g.th p).v⟩ }
def dpend (g : DS) : Nat := if g.a = 8 ∧ g.v ≠ 0 then 1 else 0
/-- What is so of who steals. -/
structure DHk (T E : Nat) (val : Nat → Nat) (x : DH) : Prop where
  le : 10 ≤ x.a → x.t ≤ T
  lt : 11 ≤ x.a → x.t = T → x.t < E
  v : 12 ≤ x.a → x.t = T → x.v = val x.t
structure DOk (g : DS) : Prop where
  ln : g.a ≤ 8
  te : g.T ≤ g.E
  e8 : g.E ≤ g.T + 8
  v3 : 1 ≤ g.a ∧ g.a ≤ 3 → g.v = g.pd
  room : g.a = 2 ∨ g.a = 3 → g.E < g.T + 8
  p3 : g.a = 3 → g.pl (g.E % 8) = g.v
  six : g.a = 6 → g.t = g.E ∧ g.T = g.E
  seven : g.a = 7 → g.t + 1 = g.E ∧ g.t ≤ g.T
  eight : g.a = 8 → g.t + 1 = g.E ∧ g.T = g.E ∧ (g.v ≠ 0 → g.had (g.v - 1) = false ∧ g.v ≤ g.pd)
  pls : ∀ i, g.T ≤ i → i < g.E → g.pl (i % 8) = g.val i
  th : ∀ p, DHk g.T g.E g.val (g.th p)
  vi : ∀ i j, g.T ≤ i → i < j → j < g.E → g.val i < g.val j
  vn : ∀ i, g.T ≤ i → i < g.E → g.val i < g.pd ∧ g.had (g.val i) = false ∧ g.ls ≤ g.val i
  hp : ∀ d, g.had d = true → d < g.pd
  lp : g.ls ≤ g.pd
  cnt : g.pd = (g.E - g.T) + g.c + dpend g
theorem dnew_ok : DOk dnew := by
  refine ⟨Nat.zero_le _, Nat.le_refl _, Nat.zero_le _, fun h => ?_, fun h => ?_, fun h => ?_, fun h => ?_, fun h => ?_, fun h => ?_, fun i _ h => absurd h (Nat.not_lt_zero _), fun p => ⟨fun h => ?_, fun h => ?_, fun h => ?_⟩, fun i j _ _ h => absurd h (Nat.not_lt_zero _), fun i _ h => absurd h (Nat.not_lt_zero _), fun d h => ?_, Nat.le_refl _, rfl⟩
  · have : 1 ≤ 0 := h.1
    omega
  · have : (0 : Nat) = 2 ∨ (0 : Nat) = 3 := h
    omega
  · have : (0 : Nat) = 3 := h
    omega
  · have : (0 : Nat) = 6 := h
    omega
  · have : (0 : Nat) = 7 := h
    omega
  · have : (0 : Nat) = 8 := h
    omega
  · have : 10 ≤ 0 := h
    omega
  · have : 11 ≤ 0 := h
    omega
  · have : 12 ≤ 0 := h
    omega
  · cases h
section
variable {g : DS} (k : DOk g)
include k
theorem DOk.push (h0 : g.a = 0) : DOk (dpush g g.pd) := by
  have hc := k.cnt
  have e1 : dpend g = 0 := if_neg fun h => by omega
  refine ⟨(by omega : 1 ≤ 8), k.te, k.e8, fun _ => rfl, fun h => ?_, fun h => ?_, fun h => ?_, fun h => ?_, fun h => ?_, k.pls, k.th, k.vi, k.vn, k.hp, k.lp, ?_⟩
  · have : (1 : Nat) = 2 ∨ (1 : Nat) = 3 := h
    omega
  · have : (1 : Nat) = 3 := h
    omega
  · have : (1 : Nat) = 6 := h
    omega
  · have : (1 : Nat) = 7 := h
    omega
  · have : (1 : Nat) = 8 := h
    omega
  · rw [e1] at hc
    rw [show dpend (dpush g g.pd) = 0 from if_neg fun h => by have : (1 : Nat) = 8 := h.1; omega]
    exact hc
theorem DOk.pop (h0 : g.a = 0) : DOk (dpop g) := by
  have hc := k.cnt
  have e1 : dpend g = 0 := if_neg fun h => by omega
  refine ⟨(by omega : 4 ≤ 8), k.te, k.e8, fun h => ?_, fun h => ?_, fun h => ?_, fun h => ?_, fun h => ?_, fun h => ?_, k.pls, k.th, k.vi, k.vn, k.hp, k.lp, ?_⟩
  · have : 4 ≤ 3 := h.2
    omega
  · have : (4 : Nat) = 2 ∨ (4 : Nat) = 3 := h
    omega
  · have : (4 : Nat) = 3 := h
    omega
  · have : (4 : Nat) = 6 := h
    omega
  · have : (4 : Nat) = 7 := h
    omega
  · have : (4 : Nat) = 8 := h
    omega
  · rw [e1] at hc
    rw [show dpend (dpop g) = 0 from if_neg fun h => by have : (4 : Nat) = 8 := h.1; omega]
    exact hc
/-- A hand is another one: it knows what it must. -/
theorem DOk.hand {p : Nat} {x : DH} (h : DHk g.T g.E g.val x) : DOk { g with th := dput g.th p x } :=
  ⟨k.ln, k.te, k.e8, k.v3, k.room, k.p3, k.six, k.seven, k.eight, k.pls, fun q => by
    show DHk _ _ _ (dput g.th p x q)
    by_cases e : q = p
    · rw [e, dput_same]; exact h
    · rw [dput_other e]; exact k.th q, k.vi, k.vn, k.hp, k.lp, k.cnt⟩
theorem DOk.steal (p : Nat) : DOk (dsteal g p) :=
  k.hand ⟨fun h => by have : 10 ≤ 9 := h; omega, fun h => by have : 11 ≤ 9 := h; omega, fun h => by have : 12 ≤ 9 := h; omega⟩
/-- Who steals does a line. -/
theorem DOk.stepT {p : Nat} (h9 : 9 ≤ (g.th p).a ∧ (g.th p).a ≤ 12) : DOk (dstepT g p) := by
  have K := k.th p
  have hte := k.te
  have z : ∀ t v, DHk g.T g.E g.val ⟨0, t, v⟩ := fun t v => ⟨fun h => by have : 10 ≤ 0 := h; omega, fun h => by have : 11 ≤ 0 := h; omega, fun h => by have : 12 ≤ 0 := h; omega⟩
  unfold dstepT
  by_cases h1 : (g.th p).a = 9
  · rw [if_pos h1]
    exact k.hand ⟨fun _ => Nat.le_refl _, fun h => by have : 11 ≤ 10 := h; omega, fun h => by have : 12 ≤ 10 := h; omega⟩
  rw [if_neg h1]
  by_cases h2 : (g.th p).a = 10
  · rw [if_pos h2]
    by_cases hb : dbot g (g.th p).t
    · rw [if_pos hb]
      refine k.hand ⟨fun _ => K.le (by omega), fun _ _ => ?_, fun h => by have : 12 ≤ 11 := h; omega⟩
      show (g.th p).t < g.E
      unfold dbot at hb
      split at hb <;> omega
    · rw [if_neg hb]; exact k.hand (z _ _)
  rw [if_neg h2]
  by_cases h3 : (g.th p).a = 11
  · rw [if_pos h3]
    refine k.hand ⟨fun _ => K.le (by omega), fun _ => K.lt (by omega), fun _ e => ?_⟩
    have e : (g.th p).t = g.T := e
    have := K.lt (by omega) e
    exact k.pls _ (by omega) this
  rw [if_neg h3]
  by_cases h4 : g.T = (g.th p).t
  · rw [if_pos h4]
    have a1 := K.lt (by omega) h4.symm
    have a2 := K.v (by omega) h4.symm
    obtain ⟨b1, b2, b3⟩ := k.vn (g.th p).t (by omega) a1
    have he := k.e8
    have hc := k.cnt
    have h8 : g.a ≠ 8 := fun e => by have := (k.eight e).2.1; omega
    have e1 : dpend g = 0 := if_neg fun h => h8 h.1
    rw [e1] at hc
    refine ⟨k.ln, by show g.T + 1 ≤ g.E; omega, by show g.E ≤ g.T + 1 + 8; omega, k.v3, fun h => by show g.E < g.T + 1 + 8; have := k.room h; omega, k.p3, fun h => ?_, fun h => ?_, fun h => absurd h h8, fun i h1 h2 => k.pls i (by have : g.T + 1 ≤ i := h1; omega) h2, fun q => ?_, fun i j h1 h2 h3 => k.vi i j (by have : g.T + 1 ≤ i := h1; omega) h2 h3, fun i h1 h2 => ?_, fun d h => ?_, ?_, ?_⟩
    · have := (k.six h).2
      omega
    · have := k.seven h
      exact ⟨this.1, by show g.t ≤ g.T + 1; omega⟩
    · show DHk (g.T + 1) g.E g.val (dput g.th p _ q)
      by_cases e : q = p
      · rw [e, dput_same]
        exact ⟨fun h => by have : 10 ≤ 0 := h; omega, fun h => by have : 11 ≤ 0 := h; omega, fun h => by have : 12 ≤ 0 := h; omega⟩
      · rw [dput_other e]
        have Q := k.th q
        exact ⟨fun h => by have := Q.le h; omega, fun h e => by have := Q.le (by omega); omega, fun h e => by have := Q.le (by omega); omega⟩
    · have h1 : g.T + 1 ≤ i := h1
      have h2 : i < g.E := h2
      obtain ⟨c1, c2, c3⟩ := k.vn i (by omega) h2
      have c4 := k.vi (g.th p).t i (by omega) (by omega) h2
      refine ⟨c1, ?_, by show (g.th p).v + 1 ≤ g.val i; omega⟩
      show dput g.had _ true (g.val i) = false
      rw [dput_other (by omega)]; exact c2
    · have h : dput g.had (g.th p).v true d = true := h
      show d < g.pd
      by_cases e : d = (g.th p).v
      · omega
      · rw [dput_other e] at h; exact k.hp d h
    · show (g.th p).v + 1 ≤ g.pd
      omega
    · rw [show dpend { g with th := dput g.th p ⟨0, (g.th p).t, (g.th p).v⟩, T := g.T + 1, had := dput g.had (g.th p).v true, c := g.c + 1, ls := (g.th p).v + 1 } = 0 from if_neg fun h => h8 h.1]
      show g.pd = (g.E - (g.T + 1)) + (g.c + 1) + 0
      omega
  · rw [if_neg h4]; exact k.hand (z _ _)
/-- What is stolen was not had, was pushed, and is above what was stolen before. -/
theorem DOk.stolen {p : Nat} (h12 : (g.th p).a = 12) (h : g.T = (g.th p).t) : (g.th p).v < g.pd ∧ g.had (g.th p).v = false ∧ g.ls ≤ (g.th p).v := by
  have K := k.th p
  have a1 := K.lt (by omega) h.symm
  have a2 := K.v (by omega) h.symm
  rw [a2]
  exact k.vn (g.th p).t (by omega) a1
end
end Go.Proofs.Ytbicckeoidijpaa
