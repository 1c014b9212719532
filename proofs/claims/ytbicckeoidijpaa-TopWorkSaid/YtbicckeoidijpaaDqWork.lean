/-
  Chapter 18: how much was had; who pops again and again comes to an end; when it finds nothing all was had.
-/
import Derived.Test.YtbicckeoidijpaaDqRel
namespace Go.Proofs.Ytbicckeoidijpaa
/-- How many of the first ones are so. -/
def dcnt (f : Nat → Bool) : Nat → Nat
  | 0 => 0
  | n + 1 => dcnt f n + if f n = true then 1 else 0
theorem dcnt_same {f f' : Nat → Bool} {n : Nat} (h : ∀ i, i < n → f' i = f i) : dcnt f' n = dcnt f n := by
  induction n with
  | zero => rfl
  | succ n ih => unfold dcnt; rw [ih fun i hi => h i (by omega), h n (by omega)]
theorem dcnt_put {f : Nat → Bool} {n d : Nat} (h : d < n) (hf : f d = false) : dcnt (dput f d true) n = dcnt f n + 1 := by
  induction n with
  | zero => omega
  | succ n ih =>
    unfold dcnt
    by_cases e : n = d
    · subst e
      rw [dput_same, hf, dcnt_same fun i hi => dput_other (by omega)]
      simp
    · rw [dput_other e, ih (by omega)]; omega
theorem dcnt_le (f : Nat → Bool) (n : Nat) : dcnt f n ≤ n := by
  induction n with
  | zero => exact Nat.le_refl _
  | succ n ih => unfold dcnt; split <;> omega
theorem dcnt_all {f : Nat → Bool} {n : Nat} (h : dcnt f n = n) : ∀ d, d < n → f d = true := by
  induction n with
  | zero => exact fun d hd => absurd hd (Nat.not_lt_zero _)
  | succ n ih =>
    unfold dcnt at h
    have := dcnt_le f n
    by_cases e : f n = true
    · rw [if_pos e] at h
      intro d hd
      by_cases e2 : d = n
      · rw [e2]; exact e
      · exact ih (by omega) d (by omega)
    · rw [if_neg e] at h; omega
/-- What was told to be had is counted. -/
def DCk (g : DS) : Prop := g.c = dcnt g.had g.pd
theorem DCk.new : DCk dnew := rfl
section
variable {g : DS} (k : DOk g) (q : DCk g)
include k q
theorem DCk.step0 (h0 : g.a ≠ 0) : DCk (dstep0 g) := by
  have q' : g.c = dcnt g.had g.pd := q
  unfold dstep0
  split
  · exact q
  · split
    · exact q
    · split
      · show g.c = dcnt g.had (g.pd + 1)
        unfold dcnt
        have : ¬ g.had g.pd = true := fun e => by have := k.hp _ e; omega
        rw [if_neg this]; exact q'
      · split
        · exact q
        · split
          · rename_i h5
            split
            · rename_i hf
              obtain ⟨e1, e2, e3⟩ := k.popped h5 hf
              show g.c + 1 = dcnt (dput g.had _ true) g.pd
              rw [e1, dcnt_put e2 e3, q']
            · split
              · exact q
              · exact q
          · split
            · exact q
            · split
              · split
                · exact q
                · exact q
              · split
                · exact q
                · rename_i h1 h2 h3 h4 h5 h6 h7 hv
                  have h8 : g.a = 8 := by have := k.ln; omega
                  obtain ⟨e1, e2⟩ := (k.eight h8).2.2 hv
                  show g.c + 1 = dcnt (dput g.had (g.v - 1) true) g.pd
                  rw [dcnt_put (by omega) e1, q']
theorem DCk.stepT {p : Nat} (h9 : 9 ≤ (g.th p).a ∧ (g.th p).a ≤ 12) : DCk (dstepT g p) := by
  have q' : g.c = dcnt g.had g.pd := q
  unfold dstepT
  split
  · exact q
  · split
    · exact q
    · split
      · exact q
      · split
        · rename_i h1 h2 h3 hf
          have h12 : (g.th p).a = 12 := by omega
          have hk := k.th p
          have ht := hk.lt (by omega) hf.symm
          have hv := hk.v (by omega) hf.symm
          obtain ⟨n1, n2, _⟩ := k.vn g.T (Nat.le_refl _) (by omega)
          rw [← hf] at hv
          show g.c + 1 = dcnt (dput g.had (g.th p).v true) g.pd
          rw [hv, dcnt_put n1 n2, q']
        · exact q
end
/-- Hand 0 does nothing, or is within a pop. -/
def dpops (g : DS) : Prop := g.a = 0 ∨ 4 ≤ g.a
/-- How far hand 0 is from finding nothing: it falls with each of its steps. -/
def drank (g : DS) : Nat := 5 * (g.pd - g.c) + (if g.a = 5 then 3 else if g.a = 6 then 1 else if g.a = 7 then 2 else if g.a = 8 then 1 else 4)
section
variable {g : DS} (k : DOk g)
include k
theorem DOk.c_le : g.c ≤ g.pd := by have := k.cnt; omega
/-- A step of hand 0 within a pop (or behind its beginning): it is nearer, or it found nothing, and then all was had; what it told was pushed, and had never been had. -/
theorem DOk.pop0 (h4 : 4 ≤ g.a) :
    dpops (dstep0 g) ∧ (dstep0 g).pd = g.pd ∧ ((dfin0 g = true → (dstep0 g).a = 0) ∧ (dfin0 g = false → 5 ≤ (dstep0 g).a)) ∧
    ((dfin0 g = true ∧ dtold0 g = -1 ∧ g.c = g.pd ∧ (dstep0 g).had = g.had ∧ (dstep0 g).c = g.c ∧ (dstep0 g).E = (dstep0 g).T) ∨
     (dfin0 g = true ∧ ∃ d : Nat, dtold0 g = d ∧ d < g.pd ∧ g.had d = false ∧ (dstep0 g).had = dput g.had d true ∧ (dstep0 g).c = g.c + 1) ∨
     (dfin0 g = false ∧ (dstep0 g).had = g.had ∧ (dstep0 g).c = g.c)) ∧
    (¬ (dfin0 g = true ∧ dtold0 g = -1) → drank (dstep0 g) + 1 ≤ drank g) := by
  have hcp := k.c_le
  have hcnt := k.cnt
  have hte := k.te
  obtain h | h | h | h | h : g.a = 4 ∨ g.a = 5 ∨ g.a = 6 ∨ g.a = 7 ∨ g.a = 8 := by have := k.ln; omega
  · have e : dstep0 g = { g with a := 5 } := by unfold dstep0; rw [if_neg (by omega), if_neg (by omega), if_neg (by omega), if_pos h]
    have f : dfin0 g = false := by unfold dfin0; rw [if_neg (by omega), if_neg (by omega), if_neg (by omega), if_neg (by omega)]; exact decide_eq_false (by omega)
    rw [e, f]
    refine ⟨.inr (by show 4 ≤ 5; omega), rfl, ⟨fun h => (by cases h), fun _ => by show 5 ≤ 5; omega⟩, .inr (.inr ⟨rfl, rfl, rfl⟩), fun _ => ?_⟩
    show 5 * (g.pd - g.c) + 3 + 1 ≤ drank g
    unfold drank; rw [if_neg (by omega), if_neg (by omega), if_neg (by omega), if_neg (by omega)]; omega
  · by_cases hf : g.T + 1 < g.E
    · obtain ⟨p1, p2, p3⟩ := k.popped h hf
      have e : dstep0 g = { g with a := 0, t := g.T, E := g.E - 1, had := dput g.had (g.pl ((g.E - 1) % 8)) true, c := g.c + 1 } := by unfold dstep0; rw [if_neg (by omega), if_neg (by omega), if_neg (by omega), if_neg (by omega), if_pos h, if_pos hf]
      have f : dfin0 g = true := by unfold dfin0; rw [if_neg (by omega), if_neg (by omega), if_pos h]; exact decide_eq_true hf
      have t : dtold0 g = ((g.pl ((g.E - 1) % 8) : Nat) : Int) := by unfold dtold0; rw [if_neg (by omega), if_neg (by omega), if_pos h, if_pos hf]
      have hE : dpend g = 0 := if_neg fun e => by omega
      rw [e, f, t]
      refine ⟨.inl rfl, rfl, ⟨fun _ => rfl, fun h => (by cases h)⟩, .inr (.inl ⟨rfl, _, rfl, by rw [p1]; exact p2, by rw [p1]; exact p3, rfl, rfl⟩), fun _ => ?_⟩
      show 5 * (g.pd - (g.c + 1)) + 4 + 1 ≤ drank g
      unfold drank; rw [if_pos h]; omega
    · have f : dfin0 g = false := by unfold dfin0; rw [if_neg (by omega), if_neg (by omega), if_pos h]; exact decide_eq_false hf
      by_cases he : g.E = g.T + 1
      · have e : dstep0 g = { g with a := 7, t := g.T } := by unfold dstep0; rw [if_neg (by omega), if_neg (by omega), if_neg (by omega), if_neg (by omega), if_pos h, if_neg hf, if_pos he]
        rw [e, f]
        refine ⟨.inr (by show 4 ≤ 7; omega), rfl, ⟨fun h => (by cases h), fun _ => by show 5 ≤ 7; omega⟩, .inr (.inr ⟨rfl, rfl, rfl⟩), fun _ => ?_⟩
        show 5 * (g.pd - g.c) + 2 + 1 ≤ drank g
        unfold drank; rw [if_pos h]; omega
      · have e : dstep0 g = { g with a := 6, t := g.T } := by unfold dstep0; rw [if_neg (by omega), if_neg (by omega), if_neg (by omega), if_neg (by omega), if_pos h, if_neg hf, if_neg he]
        rw [e, f]
        refine ⟨.inr (by show 4 ≤ 6; omega), rfl, ⟨fun h => (by cases h), fun _ => by show 5 ≤ 6; omega⟩, .inr (.inr ⟨rfl, rfl, rfl⟩), fun _ => ?_⟩
        show 5 * (g.pd - g.c) + 1 + 1 ≤ drank g
        unfold drank; rw [if_pos h]; omega
  · have h6 := k.six h
    have hE : dpend g = 0 := if_neg fun e => by omega
    have e : dstep0 g = { g with a := 0 } := by unfold dstep0; rw [if_neg (by omega), if_neg (by omega), if_neg (by omega), if_neg (by omega), if_neg (by omega), if_pos h]
    have f : dfin0 g = true := by unfold dfin0; rw [if_neg (by omega), if_neg (by omega), if_neg (by omega), if_pos h]
    have t : dtold0 g = -1 := by unfold dtold0; rw [if_neg (by omega), if_neg (by omega), if_neg (by omega), if_pos h]
    rw [e, f, t]
    exact ⟨.inl rfl, rfl, ⟨fun _ => rfl, fun h => (by cases h)⟩, .inl ⟨rfl, rfl, by omega, rfl, rfl, by show g.E = g.T; omega⟩, fun h => absurd ⟨rfl, rfl⟩ h⟩
  · have f : dfin0 g = false := by unfold dfin0; rw [if_neg (by omega), if_neg (by omega), if_neg (by omega), if_neg (by omega)]; exact decide_eq_false (by omega)
    by_cases hf : g.T = g.t
    · have e : dstep0 g = { g with a := 8, T := g.t + 1, v := g.pl ((g.E - 1) % 8) + 1 } := by unfold dstep0; rw [if_neg (by omega), if_neg (by omega), if_neg (by omega), if_neg (by omega), if_neg (by omega), if_neg (by omega), if_pos h, if_pos hf]
      rw [e, f]
      refine ⟨.inr (by show 4 ≤ 8; omega), rfl, ⟨fun h => (by cases h), fun _ => by show 5 ≤ 8; omega⟩, .inr (.inr ⟨rfl, rfl, rfl⟩), fun _ => ?_⟩
      show 5 * (g.pd - g.c) + 1 + 1 ≤ drank g
      unfold drank; rw [if_neg (by omega), if_neg (by omega), if_pos h]; omega
    · have e : dstep0 g = { g with a := 8, v := 0 } := by unfold dstep0; rw [if_neg (by omega), if_neg (by omega), if_neg (by omega), if_neg (by omega), if_neg (by omega), if_neg (by omega), if_pos h, if_neg hf]
      rw [e, f]
      refine ⟨.inr (by show 4 ≤ 8; omega), rfl, ⟨fun h => (by cases h), fun _ => by show 5 ≤ 8; omega⟩, .inr (.inr ⟨rfl, rfl, rfl⟩), fun _ => ?_⟩
      show 5 * (g.pd - g.c) + 1 + 1 ≤ drank g
      unfold drank; rw [if_neg (by omega), if_neg (by omega), if_pos h]; omega
  · have h8 := k.eight h
    have f : dfin0 g = true := by unfold dfin0; rw [if_neg (by omega), if_neg (by omega), if_neg (by omega), if_neg (by omega)]; exact decide_eq_true h
    have t : dtold0 g = (g.v : Int) - 1 := by unfold dtold0; rw [if_neg (by omega), if_neg (by omega), if_neg (by omega), if_neg (by omega), if_pos h]
    by_cases hv : g.v = 0
    · have e : dstep0 g = { g with a := 0 } := by unfold dstep0; rw [if_neg (by omega), if_neg (by omega), if_neg (by omega), if_neg (by omega), if_neg (by omega), if_neg (by omega), if_neg (by omega), if_pos hv]
      have hE : dpend g = 0 := if_neg fun e => e.2 hv
      have t2 : dtold0 g = -1 := by rw [t, hv]; rfl
      rw [e, f, t2]
      exact ⟨.inl rfl, rfl, ⟨fun _ => rfl, fun h => (by cases h)⟩, .inl ⟨rfl, rfl, by omega, rfl, rfl, by show g.E = g.T; omega⟩, fun h => absurd ⟨rfl, rfl⟩ h⟩
    · have e : dstep0 g = { g with a := 0, had := dput g.had (g.v - 1) true, c := g.c + 1 } := by unfold dstep0; rw [if_neg (by omega), if_neg (by omega), if_neg (by omega), if_neg (by omega), if_neg (by omega), if_neg (by omega), if_neg (by omega), if_neg hv]
      obtain ⟨v1, v2⟩ := h8.2.2 hv
      have hE : dpend g = 1 := if_pos ⟨h, hv⟩
      have t2 : dtold0 g = ((g.v - 1 : Nat) : Int) := by rw [t]; omega
      rw [e, f, t2]
      refine ⟨.inl rfl, rfl, ⟨fun _ => rfl, fun h => (by cases h)⟩, .inr (.inl ⟨rfl, _, rfl, by omega, v1, rfl, rfl⟩), fun _ => ?_⟩
      show 5 * (g.pd - (g.c + 1)) + 4 + 1 ≤ drank g
      unfold drank; rw [if_neg (by omega), if_neg (by omega), if_neg (by omega), if_pos h]; omega
/-- A step of who steals: what it told, if it is no less than 0, was pushed, and had never been had. -/
theorem DOk.stealT {p : Nat} (h9 : 9 ≤ (g.th p).a ∧ (g.th p).a ≤ 12) :
    (dstepT g p).a = g.a ∧ (dstepT g p).pd = g.pd ∧ (dstepT g p).E = g.E ∧ ((dfinT g p = true ↔ ((dstepT g p).th p).a = 0)) ∧
    ((dtoldT g p < 0 ∨ dfinT g p = false) ∧ (dstepT g p).had = g.had ∧ (dstepT g p).c = g.c ∧ (dstepT g p).T = g.T ∨
     (dfinT g p = true ∧ g.T < g.E ∧ ∃ d : Nat, dtoldT g p = d ∧ d < g.pd ∧ g.had d = false ∧ (dstepT g p).had = dput g.had d true ∧ (dstepT g p).c = g.c + 1)) := by
  have same : ∀ x, (dput g.th p x p).a = x.a := fun x => by rw [dput_same]
  obtain h | h | h | h : (g.th p).a = 9 ∨ (g.th p).a = 10 ∨ (g.th p).a = 11 ∨ (g.th p).a = 12 := by omega
  · have f : dfinT g p = false := by unfold dfinT; rw [if_neg (by omega)]; exact decide_eq_false (by omega)
    have e : dstepT g p = { g with th := dput g.th p ⟨10, g.T, (g.th p).v⟩ } := by unfold dstepT; rw [if_pos h]
    rw [e, f]
    refine ⟨rfl, rfl, rfl, ⟨fun h => (by cases h), fun h => ?_⟩, .inl ⟨.inr rfl, rfl, rfl, rfl⟩⟩
    have h : (dput g.th p ⟨10, g.T, (g.th p).v⟩ p).a = 0 := h
    rw [same] at h
    cases h
  · by_cases hf : dbot g (g.th p).t
    · have f : dfinT g p = false := by unfold dfinT; rw [if_pos h]; exact decide_eq_false (fun e => e hf)
      have e : dstepT g p = { g with th := dput g.th p ⟨11, (g.th p).t, (g.th p).v⟩ } := by unfold dstepT; rw [if_neg (by omega), if_pos h, if_pos hf]
      rw [e, f]
      refine ⟨rfl, rfl, rfl, ⟨fun h => (by cases h), fun h => ?_⟩, .inl ⟨.inr rfl, rfl, rfl, rfl⟩⟩
      have h : (dput g.th p ⟨11, (g.th p).t, (g.th p).v⟩ p).a = 0 := h
      rw [same] at h
      cases h
    · have f : dfinT g p = true := by unfold dfinT; rw [if_pos h]; exact decide_eq_true hf
      have t : dtoldT g p = -1 := by unfold dtoldT; rw [if_pos h, if_neg hf]
      have e : dstepT g p = { g with th := dput g.th p ⟨0, (g.th p).t, (g.th p).v⟩ } := by unfold dstepT; rw [if_neg (by omega), if_pos h, if_neg hf]
      rw [e, f, t]
      exact ⟨rfl, rfl, rfl, ⟨fun _ => same _, fun _ => rfl⟩, .inl ⟨.inl (by omega), rfl, rfl, rfl⟩⟩
  · have f : dfinT g p = false := by unfold dfinT; rw [if_neg (by omega)]; exact decide_eq_false (by omega)
    have e : dstepT g p = { g with th := dput g.th p ⟨12, (g.th p).t, g.pl ((g.th p).t % 8)⟩ } := by unfold dstepT; rw [if_neg (by omega), if_neg (by omega), if_pos h]
    rw [e, f]
    refine ⟨rfl, rfl, rfl, ⟨fun h => (by cases h), fun h => ?_⟩, .inl ⟨.inr rfl, rfl, rfl, rfl⟩⟩
    have h : (dput g.th p ⟨12, (g.th p).t, g.pl ((g.th p).t % 8)⟩ p).a = 0 := h
    rw [same] at h
    cases h
  · have f : dfinT g p = true := by unfold dfinT; rw [if_neg (by omega)]; exact decide_eq_true h
    by_cases hf : g.T = (g.th p).t
    · have hk := k.th p
      have ht := hk.lt (by omega) hf.symm
      have hv := hk.v (by omega) hf.symm
      rw [← hf] at hv
      obtain ⟨n1, n2, _⟩ := k.vn g.T (Nat.le_refl _) (by omega)
      have t : dtoldT g p = (((g.th p).v : Nat) : Int) := by unfold dtoldT; rw [if_neg (by omega), if_pos h, if_pos hf]
      have e : dstepT g p = { g with th := dput g.th p ⟨0, (g.th p).t, (g.th p).v⟩, T := g.T + 1, had := dput g.had (g.th p).v true, c := g.c + 1, ls := (g.th p).v + 1 } := by unfold dstepT; rw [if_neg (by omega), if_neg (by omega), if_neg (by omega), if_pos hf]
      rw [e, f, t]
      exact ⟨rfl, rfl, rfl, ⟨fun _ => same _, fun _ => rfl⟩, .inr ⟨rfl, by omega, _, rfl, by rw [hv]; exact n1, by rw [hv]; exact n2, rfl, rfl⟩⟩
    · have t : dtoldT g p = -2 := by unfold dtoldT; rw [if_neg (by omega), if_pos h, if_neg hf]
      have e : dstepT g p = { g with th := dput g.th p ⟨0, (g.th p).t, (g.th p).v⟩ } := by unfold dstepT; rw [if_neg (by omega), if_neg (by omega), if_neg (by omega), if_neg hf]
      rw [e, f, t]
      exact ⟨rfl, rfl, rfl, ⟨fun _ => same _, fun _ => rfl⟩, .inl ⟨.inl (by omega), rfl, rfl, rfl⟩⟩
end
end Go.Proofs.Ytbicckeoidijpaa
