/-
  Package fifo: what the program has of chapter 16's state; a step of the one is a step of the other.
-/
import Derived.Test.YtimdhnjkjflbdaaFifoBeg
import Derived.Test.YtimdhnjkjflbdaaFifStep
namespace Go.Proofs.Ytimdhnjkjflbdaa.Fif
open Go.RowKit

/-- A next one as the program has it (-1: none). -/
def fi (x : Nat) : Int := (x : Int) - 1
theorem fi_none {x : Nat} : fi x = -1 ↔ x = 0 := by unfold fi; omega
/-- What a hand has of its own is as the document says, where it counts. -/
def HR (a e h t : Nat) (x : Int) (b : FH) : Prop :=
  a = b.a ∧ (1 ≤ b.a ∧ b.a ≤ 5 → e = b.e) ∧ (2 ≤ b.a ∧ b.a ≤ 5 ∨ 8 ≤ b.a → t = b.t) ∧ (7 ≤ b.a → h = b.h) ∧ (b.a = 4 ∨ b.a = 9 ∨ b.a = 10 → x = fi b.x)
structure PR (n : Nat) (v : QF) (s : FS) (vl : Nat → Int) : Prop where
  ct : v.ct = s.k
  hd : v.hd = s.hd
  tl : v.tl = s.tl
  nd : ∀ i, i < s.k → v.nx i = fi (s.nx i) ∧ v.vl i = vl i
  hand : ∀ p, p < n → HR (v.a p) (v.e p) (v.h p) (v.t p) (v.x p) (s.h p)
theorem PR.turn {n : Nat} {v v' : QF} {s s' : FS} {vl vl' : Nat → Int} (h : PR n v s vl) {p : Nat} (ct : v'.ct = s'.k) (hd : v'.hd = s'.hd) (tl : v'.tl = s'.tl) (nd : ∀ i, i < s'.k → v'.nx i = fi (s'.nx i) ∧ v'.vl i = vl' i)
    (oh : ∀ q, q ≠ p → v'.a q = v.a q ∧ v'.e q = v.e q ∧ v'.h q = v.h q ∧ v'.t q = v.t q ∧ v'.x q = v.x q ∧ s'.h q = s.h q) (hp : HR (v'.a p) (v'.e p) (v'.h p) (v'.t p) (v'.x p) (s'.h p)) : PR n v' s' vl' := by
  refine ⟨ct, hd, tl, nd, fun q hq => ?_⟩
  by_cases e : q = p
  · subst e; exact hp
  · obtain ⟨e1, e2, e3, e4, e5, e6⟩ := oh q e
    rw [e1, e2, e3, e4, e5, e6]
    exact h.hand q hq
theorem fstp_eq {v : FS} {p : Nat} {b : FH} {nx' : Nat → Nat} {hd' tl' : Nat} (e1 : fone v p = b) (e2 : fnx v p = nx') (e3 : fhd v p = hd') (e4 : ftl v p = tl') : fstp v p = ⟨fput v.h p b, nx', v.k, hd', tl'⟩ := by
  unfold fstp; rw [e1, e2, e3, e4]
theorem kchT_tl (v : QF) (s z : Nat) : (kchT v s z).tl = if v.tl = s then z else v.tl := by unfold kchT; split <;> rfl
theorem kchT_rest (v : QF) (s z : Nat) : (kchT v s z).a = v.a ∧ (kchT v s z).e = v.e ∧ (kchT v s z).h = v.h ∧ (kchT v s z).t = v.t ∧ (kchT v s z).x = v.x ∧ (kchT v s z).nx = v.nx ∧ (kchT v s z).vl = v.vl ∧ (kchT v s z).ct = v.ct ∧ (kchT v s z).hd = v.hd := by
  unfold kchT; split <;> exact ⟨rfl, rfl, rfl, rfl, rfl, rfl, rfl, rfl, rfl⟩
/-- A hand that does nothing; one that begins anew. -/
theorem HR.zero {e h t : Nat} {x : Int} {b : FH} (ha : b.a = 0) : HR 0 e h t x b :=
  ⟨ha.symm, fun h => by omega, fun h => by omega, fun h => by omega, fun h => by omega⟩
theorem HR.one {e h t : Nat} {x : Int} {b : FH} (ha : b.a = 1) (he : e = b.e) : HR 1 e h t x b :=
  ⟨ha.symm, fun _ => he, fun h => by omega, fun h => by omega, fun h => by omega⟩
theorem HR.six {e h t : Nat} {x : Int} {b : FH} (ha : b.a = 6) : HR 6 e h t x b :=
  ⟨ha.symm, fun h => by omega, fun h => by omega, fun h => by omega, fun h => by omega⟩
/-- Whether a line is the last one; what it tells. -/
def sfin (s : FS) (p : Nat) : Bool := if (s.h p).a = 5 then true else if (s.h p).a = 8 then decide ((s.h p).h = (s.h p).t ∧ s.nx (s.h p).h = 0) else if (s.h p).a = 10 then decide (s.hd = (s.h p).h) else false
def stold (s : FS) (vl : Nat → Int) (p : Nat) : Int := if sfin s p = true then (if (s.h p).a = 10 then vl ((s.h p).x - 1) else -1) else 0
section
variable {n : Nat} {v : QF} {g : FG} {vl : Nat → Int} {p : Nat}
/-- The nodes that a hand knows. -/
theorem fok_tk (k : FOk n g) (hp : p < n) (h : 2 ≤ (g.v.h p).a ∧ (g.v.h p).a ≤ 5 ∨ 8 ≤ (g.v.h p).a) : (g.v.h p).t < g.v.k := by
  have K := k.hk p hp
  have := k.jm
  rcases h with h | h
  · obtain ⟨y, hy, e⟩ := K.tt h
    rw [e]; exact k.ok y (by omega)
  · obtain ⟨y, hy, e, h2⟩ := K.hh (by omega)
    obtain ⟨z, _, hz, e2⟩ := h2 h
    rw [e2]; exact k.ok z (by omega)
theorem fok_hk (k : FOk n g) (hp : p < n) (h : 7 ≤ (g.v.h p).a) : (g.v.h p).h < g.v.k := by
  have K := k.hk p hp
  have := k.jm
  have := k.ij
  obtain ⟨y, hy, e, _⟩ := K.hh h
  rw [e]; exact k.ok y (by omega)
theorem fok_xk (k : FOk n g) (hp : p < n) (h : (g.v.h p).a = 4 ∨ (g.v.h p).a = 9 ∨ (g.v.h p).a = 10) : 1 ≤ (g.v.h p).x ∧ (g.v.h p).x - 1 < g.v.k := by
  have K := k.hk p hp
  have := k.jm
  rcases h with h | h | h
  · obtain ⟨y, hy, _, e⟩ := K.four h
    have := k.ok (y + 1) (by omega)
    omega
  · obtain ⟨y, hy, _, e⟩ := K.nine h
    have := k.ok (y + 1) (by omega)
    omega
  · obtain ⟨y, hy, _, e⟩ := K.ten h
    have := k.ok (y + 1) (by omega)
    omega
theorem PR.loc (h : PR n v g.v vl) (k : FOk n g) (hk : g.v.k ≤ 40) : QLoc n v := by
  refine ⟨fun q hq => ?_, fun q hq ha => ?_, fun q hq ha => ?_, fun q hq ha => ?_⟩
  all_goals obtain ⟨e1, e2, e3, e4, e5⟩ := h.hand q hq
  · rw [e1]; exact (k.hk q hq).ln
  · have h1 := fok_tk k hq (by omega); have := e3 (by omega); omega
  · have h1 := fok_hk k hq (by omega); have := e4 (by omega); omega
  · have h1 := fok_xk k hq (by omega); have := e5 (by omega); unfold fi at this; omega
theorem PR.fin (h : PR n v g.v vl) (k : FOk n g) (hp : p < n) : kfin v p = sfin g.v p ∧ ktold v p = stold g.v vl p := by
  obtain ⟨e1, e2, e3, e4, e5⟩ := h.hand p hp
  have ef : kfin v p = sfin g.v p := by
    unfold kfin sfin
    rw [e1]
    by_cases h5 : (g.v.h p).a = 5
    · rw [if_pos h5, if_pos h5]
    rw [if_neg h5, if_neg h5]
    by_cases h8 : (g.v.h p).a = 8
    · rw [if_pos h8, if_pos h8]
      have f3 := e3 (by omega)
      have f4 := e4 (by omega)
      have hn := (h.nd _ (fok_hk k hp (by omega))).1
      rw [f3, f4, hn]
      exact decide_eq_decide.2 (by rw [fi_none])
    rw [if_neg h8, if_neg h8]
    by_cases h10 : (g.v.h p).a = 10
    · rw [if_pos h10, if_pos h10, e4 (by omega), h.hd]
    · rw [if_neg h10, if_neg h10]
  refine ⟨ef, ?_⟩
  unfold ktold stold
  rw [ef, e1]
  by_cases hf : sfin g.v p = true
  · rw [if_pos hf, if_pos hf]
    by_cases h10 : (g.v.h p).a = 10
    · rw [if_pos h10, if_pos h10]
      have hx := fok_xk k hp (.inr (.inr h10))
      have e : (v.x p).toNat = (g.v.h p).x - 1 := by have := e5 (by omega); unfold fi at this; omega
      rw [e]; exact (h.nd _ hx.2).2
    · rw [if_neg h10, if_neg h10]
  · rw [if_neg hf, if_neg hf]
theorem PR.step (h : PR n v g.v vl) (k : FOk n g) (hp : p < n) (ha : (g.v.h p).a ≠ 0) : PR n (kstep v p) (fgstp g p).v vl := by
  obtain ⟨e1, e2, e3, e4, e5⟩ := h.hand p hp
  obtain ⟨hfn, -⟩ := h.fin k hp
  have hln := (k.hk p hp).ln
  show PR n (kstep v p) (fstp g.v p) vl
  have nf : (g.v.h p).a ≠ 5 → (g.v.h p).a ≠ 8 → (g.v.h p).a ≠ 10 → kstep v p = kdo v p := fun h5 h8 h10 => by
    have : sfin g.v p = false := by unfold sfin; rw [if_neg h5, if_neg h8, if_neg h10]
    unfold kstep; rw [hfn, this]; rfl
  have n3 : (g.v.h p).a ≠ 3 → fnx g.v p = g.v.nx := fun h => by unfold fnx; rw [if_neg fun e => h e.1]
  have n10 : (g.v.h p).a ≠ 10 → fhd g.v p = g.v.hd := fun h => by unfold fhd; rw [if_neg fun e => h e.1]
  have nt : (g.v.h p).a ≠ 4 → (g.v.h p).a ≠ 9 → (g.v.h p).a ≠ 5 → ftl g.v p = g.v.tl := fun h4 h9 h5 => by unfold ftl; rw [if_neg fun e => by omega, if_neg fun e => h5 e.1]
  by_cases c1 : (g.v.h p).a = 1
  · rw [nf (by omega) (by omega) (by omega), fstp_eq (b := ⟨2, (g.v.h p).e, g.v.tl, (g.v.h p).h, (g.v.h p).x⟩) (by unfold fone; rw [if_pos c1]) (n3 (by omega)) (n10 (by omega)) (nt (by omega) (by omega) (by omega))]
    unfold kdo; rw [if_pos (by omega)]
    refine h.turn (p := p) h.ct h.hd h.tl h.nd (fun q hq => ⟨rput_other hq, rfl, rfl, rput_other hq, rfl, fput_other hq⟩) ?_
    show HR (rput v.a p 2 p) (v.e p) (v.h p) (rput v.t p v.tl p) (v.x p) (fput g.v.h p _ p)
    rw [rput_same, rput_same, fput_same]
    exact ⟨rfl, fun _ => e2 (by omega), fun _ => h.tl, fun q => by have q : 7 ≤ 2 := q; omega, fun q => by have q : 2 = 4 ∨ 2 = 9 ∨ 2 = 10 := q; omega⟩
  by_cases c2 : (g.v.h p).a = 2
  · have f3 := e3 (by omega)
    have htk := fok_tk k hp (by omega)
    have hn := (h.nd _ htk).1
    rw [nf (by omega) (by omega) (by omega), fstp_eq (b := ⟨if g.v.nx (g.v.h p).t = 0 then 3 else 4, (g.v.h p).e, (g.v.h p).t, (g.v.h p).h, g.v.nx (g.v.h p).t⟩) (by unfold fone; rw [if_neg c1, if_pos c2]) (n3 (by omega)) (n10 (by omega)) (nt (by omega) (by omega) (by omega))]
    unfold kdo; rw [if_neg (by omega), if_pos (by omega), f3, hn]
    have hif : (if fi (g.v.nx (g.v.h p).t) = -1 then 3 else 4) = (if g.v.nx (g.v.h p).t = 0 then 3 else 4) := by
      by_cases hx : g.v.nx (g.v.h p).t = 0
      · rw [if_pos hx, if_pos (fi_none.2 hx)]
      · rw [if_neg hx, if_neg fun e => hx (fi_none.1 e)]
    rw [hif]
    obtain ⟨A, hA⟩ : ∃ A, A = (if g.v.nx (g.v.h p).t = 0 then 3 else 4) := ⟨_, rfl⟩
    have hA3 : A = 3 ∨ A = 4 := by rw [hA]; split <;> simp
    rw [← hA]
    refine h.turn (p := p) h.ct h.hd h.tl h.nd (fun q hq => ⟨rput_other hq, rfl, rfl, rfl, rput_other hq, fput_other hq⟩) ?_
    show HR (rput v.a p A p) (v.e p) (v.h p) (v.t p) (rput v.x p _ p) (fput g.v.h p _ p)
    rw [rput_same, rput_same, fput_same]
    exact ⟨rfl, fun _ => e2 (by omega), fun _ => f3, fun q => by have q : 7 ≤ A := q; omega, fun _ => rfl⟩
  by_cases c3 : (g.v.h p).a = 3
  · have f3 := e3 (by omega)
    have f2 := e2 (by omega)
    have htk := fok_tk k hp (by omega)
    have hn := (h.nd _ htk).1
    rw [nf (by omega) (by omega) (by omega)]
    unfold kdo; rw [if_neg (by omega), if_neg (by omega), if_pos (by omega), f3, hn]
    by_cases hx : g.v.nx (g.v.h p).t = 0
    · rw [if_pos (fi_none.2 hx), fstp_eq (b := fto (g.v.h p) 5) (nx' := fput g.v.nx (g.v.h p).t ((g.v.h p).e + 1)) (by unfold fone; rw [if_neg c1, if_neg c2, if_pos c3, if_pos hx]) (by unfold fnx; rw [if_pos ⟨c3, hx⟩]) (n10 (by omega)) (nt (by omega) (by omega) (by omega))]
      refine h.turn (p := p) h.ct h.hd h.tl (fun i hi => ⟨?_, (h.nd i hi).2⟩) (fun q hq => ⟨rput_other hq, rfl, rfl, rfl, rfl, fput_other hq⟩) ?_
      · show rput v.nx (g.v.h p).t ((v.e p : Nat) : Int) i = fi (fput g.v.nx (g.v.h p).t ((g.v.h p).e + 1) i)
        by_cases e : i = (g.v.h p).t
        · rw [e, rput_same, fput_same, f2]; unfold fi; omega
        · rw [rput_other e, fput_other e]; exact (h.nd i hi).1
      · show HR (rput v.a p 5 p) (v.e p) (v.h p) (v.t p) (v.x p) (fput g.v.h p _ p)
        rw [rput_same, fput_same]
        exact ⟨rfl, fun _ => f2, fun _ => f3, fun q => by have q : 7 ≤ 5 := q; omega, fun q => by have q : 5 = 4 ∨ 5 = 9 ∨ 5 = 10 := q; omega⟩
    · rw [if_neg fun e => hx (fi_none.1 e), fstp_eq (b := fto (g.v.h p) 1) (nx' := g.v.nx) (by unfold fone; rw [if_neg c1, if_neg c2, if_pos c3, if_neg hx]) (by unfold fnx; rw [if_neg fun e => hx e.2]) (n10 (by omega)) (nt (by omega) (by omega) (by omega))]
      refine h.turn (p := p) h.ct h.hd h.tl h.nd (fun q hq => ⟨rput_other hq, rput_other hq, rput_other hq, rput_other hq, rput_other hq, fput_other hq⟩) ?_
      show HR (rput v.a p 1 p) (rput v.e p _ p) _ _ _ (fput g.v.h p _ p)
      rw [rput_same, rput_same, fput_same]
      exact HR.one rfl f2
  by_cases c4 : (g.v.h p).a = 4
  · have f3 := e3 (by omega)
    have f2 := e2 (by omega)
    have f5 := e5 (by omega)
    have ex : (v.x p).toNat = (g.v.h p).x - 1 := by unfold fi at f5; omega
    rw [nf (by omega) (by omega) (by omega), fstp_eq (b := fto (g.v.h p) 1) (by unfold fone; rw [if_neg c1, if_neg c2, if_neg c3, if_pos c4]) (n3 (by omega)) (n10 (by omega)) rfl]
    unfold kdo; rw [if_neg (by omega), if_neg (by omega), if_neg (by omega), if_pos (by omega), f3, ex]
    obtain ⟨r1, r2, r3, r4, r5, r6, r7, r8, r9⟩ := kchT_rest v (g.v.h p).t ((g.v.h p).x - 1)
    have rt := kchT_tl v (g.v.h p).t ((g.v.h p).x - 1)
    refine h.turn (p := p) ?_ ?_ ?_ (fun i hi => ?_) (fun q hq => ?_) ?_
    · show (kchT v _ _).ct = _; rw [r8]; exact h.ct
    · show (kchT v _ _).hd = _; rw [r9]; exact h.hd
    · show (kchT v _ _).tl = ftl g.v p
      rw [rt]; unfold ftl; rw [h.tl]
      by_cases e : g.v.tl = (g.v.h p).t
      · rw [if_pos e, if_pos ⟨.inl c4, e⟩]
      · rw [if_neg e, if_neg fun q => e q.2, if_neg fun q => e q.2]
    · show (kchT v _ _).nx i = _ ∧ (kchT v _ _).vl i = _; rw [r6, r7]; exact h.nd i hi
    · show rput (kchT v _ _).a p 1 q = _ ∧ rput (kchT v _ _).e p _ q = _ ∧ rput (kchT v _ _).h p _ q = _ ∧ rput (kchT v _ _).t p _ q = _ ∧ rput (kchT v _ _).x p _ q = _ ∧ _
      rw [r1, r2, r3, r4, r5]
      exact ⟨rput_other hq, rput_other hq, rput_other hq, rput_other hq, rput_other hq, fput_other hq⟩
    · show HR (rput (kchT v _ _).a p 1 p) (rput (kchT v _ _).e p _ p) _ _ _ (fput g.v.h p _ p)
      rw [rput_same, rput_same, fput_same]
      exact HR.one rfl f2
  by_cases c5 : (g.v.h p).a = 5
  · have f3 := e3 (by omega)
    have f2 := e2 (by omega)
    have hs : sfin g.v p = true := by unfold sfin; rw [if_pos c5]
    rw [fstp_eq (b := fto (g.v.h p) 0) (by unfold fone; rw [if_neg c1, if_neg c2, if_neg c3, if_neg c4, if_pos c5]) (n3 (by omega)) (n10 (by omega)) rfl]
    unfold kstep; rw [hfn, hs, if_pos rfl]
    unfold kdo; rw [if_neg (by omega), if_neg (by omega), if_neg (by omega), if_neg (by omega), if_pos (by omega), f3, f2]
    obtain ⟨r1, r2, r3, r4, r5, r6, r7, r8, r9⟩ := kchT_rest v (g.v.h p).t (g.v.h p).e
    have rt := kchT_tl v (g.v.h p).t (g.v.h p).e
    refine h.turn (p := p) ?_ ?_ ?_ (fun i hi => ?_) (fun q hq => ?_) ?_
    · show (kchT v _ _).ct = _; rw [r8]; exact h.ct
    · show (kchT v _ _).hd = _; rw [r9]; exact h.hd
    · show (kchT v _ _).tl = ftl g.v p
      rw [rt]; unfold ftl; rw [h.tl]
      by_cases e : g.v.tl = (g.v.h p).t
      · rw [if_pos e, if_neg (fun q => by omega), if_pos ⟨c5, e⟩]
      · rw [if_neg e, if_neg fun q => e q.2, if_neg fun q => e q.2]
    · show (kchT v _ _).nx i = _ ∧ (kchT v _ _).vl i = _; rw [r6, r7]; exact h.nd i hi
    · show rput (kchT v _ _).a p 0 q = _ ∧ rput (kchT v _ _).e p _ q = _ ∧ rput (kchT v _ _).h p _ q = _ ∧ rput (kchT v _ _).t p _ q = _ ∧ rput (kchT v _ _).x p _ q = _ ∧ _
      rw [r1, r2, r3, r4, r5]
      exact ⟨rput_other hq, rput_other hq, rput_other hq, rput_other hq, rput_other hq, fput_other hq⟩
    · show HR (rput (kchT v _ _).a p 0 p) _ _ _ _ (fput g.v.h p _ p)
      rw [rput_same, fput_same]
      exact HR.zero rfl
  by_cases c6 : (g.v.h p).a = 6
  · rw [nf (by omega) (by omega) (by omega), fstp_eq (b := ⟨7, (g.v.h p).e, (g.v.h p).t, g.v.hd, (g.v.h p).x⟩) (by unfold fone; rw [if_neg c1, if_neg c2, if_neg c3, if_neg c4, if_neg c5, if_pos c6]) (n3 (by omega)) (n10 (by omega)) (nt (by omega) (by omega) (by omega))]
    unfold kdo; rw [if_neg (by omega), if_neg (by omega), if_neg (by omega), if_neg (by omega), if_neg (by omega), if_pos (by omega)]
    refine h.turn (p := p) h.ct h.hd h.tl h.nd (fun q hq => ⟨rput_other hq, rfl, rput_other hq, rfl, rfl, fput_other hq⟩) ?_
    show HR (rput v.a p 7 p) (v.e p) (rput v.h p v.hd p) (v.t p) (v.x p) (fput g.v.h p _ p)
    rw [rput_same, rput_same, fput_same]
    exact ⟨rfl, fun q => by have q : 7 ≤ 5 := q.2; omega, fun q => by have q : 2 ≤ 7 ∧ 7 ≤ 5 ∨ 8 ≤ 7 := q; omega, fun _ => h.hd, fun q => by have q : 7 = 4 ∨ 7 = 9 ∨ 7 = 10 := q; omega⟩
  by_cases c7 : (g.v.h p).a = 7
  · have f4 := e4 (by omega)
    rw [nf (by omega) (by omega) (by omega), fstp_eq (b := ⟨8, (g.v.h p).e, g.v.tl, (g.v.h p).h, (g.v.h p).x⟩) (by unfold fone; rw [if_neg c1, if_neg c2, if_neg c3, if_neg c4, if_neg c5, if_neg c6, if_pos c7]) (n3 (by omega)) (n10 (by omega)) (nt (by omega) (by omega) (by omega))]
    unfold kdo; rw [if_neg (by omega), if_neg (by omega), if_neg (by omega), if_neg (by omega), if_neg (by omega), if_neg (by omega), if_pos (by omega)]
    refine h.turn (p := p) h.ct h.hd h.tl h.nd (fun q hq => ⟨rput_other hq, rfl, rfl, rput_other hq, rfl, fput_other hq⟩) ?_
    show HR (rput v.a p 8 p) (v.e p) (v.h p) (rput v.t p v.tl p) (v.x p) (fput g.v.h p _ p)
    rw [rput_same, rput_same, fput_same]
    exact ⟨rfl, fun q => by have q : 8 ≤ 5 := q.2; omega, fun _ => h.tl, fun _ => f4, fun q => by have q : 8 = 4 ∨ 8 = 9 ∨ 8 = 10 := q; omega⟩
  by_cases c8 : (g.v.h p).a = 8
  · have f4 := e4 (by omega)
    have f3 := e3 (by omega)
    have hn := (h.nd _ (fok_hk k hp (by omega))).1
    have ek : kdo v p = (if v.h p ≠ v.t p then kat { v with x := rput v.x p (v.nx (v.h p)) } p 10 else if v.nx (v.h p) = -1 then { v with x := rput v.x p (v.nx (v.h p)) } else kat { v with x := rput v.x p (v.nx (v.h p)) } p 9) := by
      unfold kdo; rw [if_neg (by omega), if_neg (by omega), if_neg (by omega), if_neg (by omega), if_neg (by omega), if_neg (by omega), if_neg (by omega), if_pos (by omega)]
    rw [f3, f4, hn] at ek
    have ef : fone g.v p = ⟨if (g.v.h p).h = (g.v.h p).t then (if g.v.nx (g.v.h p).h = 0 then 0 else 9) else 10, (g.v.h p).e, (g.v.h p).t, (g.v.h p).h, g.v.nx (g.v.h p).h⟩ := by
      unfold fone; rw [if_neg c1, if_neg c2, if_neg c3, if_neg c4, if_neg c5, if_neg c6, if_neg c7, if_pos c8]
    have es : sfin g.v p = decide ((g.v.h p).h = (g.v.h p).t ∧ g.v.nx (g.v.h p).h = 0) := by unfold sfin; rw [if_neg c5, if_pos c8]
    by_cases hne : (g.v.h p).h = (g.v.h p).t
    · rw [if_pos hne] at ef
      rw [if_neg (fun q => q hne)] at ek
      by_cases hx : g.v.nx (g.v.h p).h = 0
      · rw [if_pos hx] at ef
        rw [if_pos (fi_none.2 hx)] at ek
        rw [decide_eq_true ⟨hne, hx⟩] at es
        rw [fstp_eq ef (n3 (by omega)) (n10 (by omega)) (nt (by omega) (by omega) (by omega))]
        unfold kstep; rw [hfn, es, if_pos rfl, ek]
        refine h.turn (p := p) h.ct h.hd h.tl h.nd (fun q hq => ⟨rput_other hq, rput_other hq, rput_other hq, rput_other hq, (rput_other hq).trans (rput_other hq), fput_other hq⟩) ?_
        show HR (rput v.a p 0 p) _ _ _ _ (fput g.v.h p _ p)
        rw [rput_same, fput_same]
        exact HR.zero rfl
      · rw [if_neg hx] at ef
        rw [if_neg fun e => hx (fi_none.1 e)] at ek
        rw [decide_eq_false fun q => hx q.2] at es
        rw [fstp_eq ef (n3 (by omega)) (n10 (by omega)) (nt (by omega) (by omega) (by omega))]
        unfold kstep; rw [hfn, es, if_neg (by decide), ek]
        refine h.turn (p := p) h.ct h.hd h.tl h.nd (fun q hq => ⟨rput_other hq, rfl, rfl, rfl, rput_other hq, fput_other hq⟩) ?_
        show HR (rput v.a p 9 p) (v.e p) (v.h p) (v.t p) (rput v.x p _ p) (fput g.v.h p _ p)
        rw [rput_same, rput_same, fput_same]
        exact ⟨rfl, fun q => by have q : 9 ≤ 5 := q.2; omega, fun _ => f3, fun _ => f4, fun _ => rfl⟩
    · rw [if_neg hne] at ef
      rw [if_pos hne] at ek
      rw [decide_eq_false fun q => hne q.1] at es
      rw [fstp_eq ef (n3 (by omega)) (n10 (by omega)) (nt (by omega) (by omega) (by omega))]
      unfold kstep; rw [hfn, es, if_neg (by decide), ek]
      refine h.turn (p := p) h.ct h.hd h.tl h.nd (fun q hq => ⟨rput_other hq, rfl, rfl, rfl, rput_other hq, fput_other hq⟩) ?_
      show HR (rput v.a p 10 p) (v.e p) (v.h p) (v.t p) (rput v.x p _ p) (fput g.v.h p _ p)
      rw [rput_same, rput_same, fput_same]
      exact ⟨rfl, fun q => by have q : 10 ≤ 5 := q.2; omega, fun _ => f3, fun _ => f4, fun _ => rfl⟩
  by_cases c9 : (g.v.h p).a = 9
  · have f3 := e3 (by omega)
    have f5 := e5 (by omega)
    have ex : (v.x p).toNat = (g.v.h p).x - 1 := by unfold fi at f5; omega
    rw [nf (by omega) (by omega) (by omega), fstp_eq (b := fto (g.v.h p) 6) (by unfold fone; rw [if_neg c1, if_neg c2, if_neg c3, if_neg c4, if_neg c5, if_neg c6, if_neg c7, if_neg c8, if_pos c9]) (n3 (by omega)) (n10 (by omega)) rfl]
    unfold kdo; rw [if_neg (by omega), if_neg (by omega), if_neg (by omega), if_neg (by omega), if_neg (by omega), if_neg (by omega), if_neg (by omega), if_neg (by omega), if_pos (by omega), f3, ex]
    obtain ⟨r1, r2, r3, r4, r5, r6, r7, r8, r9⟩ := kchT_rest v (g.v.h p).t ((g.v.h p).x - 1)
    have rt := kchT_tl v (g.v.h p).t ((g.v.h p).x - 1)
    refine h.turn (p := p) ?_ ?_ ?_ (fun i hi => ?_) (fun q hq => ?_) ?_
    · show (kchT v _ _).ct = _; rw [r8]; exact h.ct
    · show (kchT v _ _).hd = _; rw [r9]; exact h.hd
    · show (kchT v _ _).tl = ftl g.v p
      rw [rt]; unfold ftl; rw [h.tl]
      by_cases e : g.v.tl = (g.v.h p).t
      · rw [if_pos e, if_pos ⟨.inr c9, e⟩]
      · rw [if_neg e, if_neg fun q => e q.2, if_neg fun q => e q.2]
    · show (kchT v _ _).nx i = _ ∧ (kchT v _ _).vl i = _; rw [r6, r7]; exact h.nd i hi
    · show rput (kchT v _ _).a p 6 q = _ ∧ rput (kchT v _ _).e p _ q = _ ∧ rput (kchT v _ _).h p _ q = _ ∧ rput (kchT v _ _).t p _ q = _ ∧ rput (kchT v _ _).x p _ q = _ ∧ _
      rw [r1, r2, r3, r4, r5]
      exact ⟨rput_other hq, rput_other hq, rput_other hq, rput_other hq, rput_other hq, fput_other hq⟩
    · show HR (rput (kchT v _ _).a p 6 p) _ _ _ _ (fput g.v.h p _ p)
      rw [rput_same, fput_same]
      exact HR.six rfl
  have c10 : (g.v.h p).a = 10 := by omega
  have f4 := e4 (by omega)
  have f5 := e5 (by omega)
  have ex : (v.x p).toNat = (g.v.h p).x - 1 := by unfold fi at f5; omega
  have ek : kdo v p = (if v.hd = v.h p then { v with hd := (v.x p).toNat } else kclr v p 6 0) := by
    unfold kdo; rw [if_neg (by omega), if_neg (by omega), if_neg (by omega), if_neg (by omega), if_neg (by omega), if_neg (by omega), if_neg (by omega), if_neg (by omega), if_neg (by omega)]
  rw [h.hd, f4, ex] at ek
  have ef : fone g.v p = fto (g.v.h p) (if g.v.hd = (g.v.h p).h then 0 else 6) := by
    unfold fone; rw [if_neg c1, if_neg c2, if_neg c3, if_neg c4, if_neg c5, if_neg c6, if_neg c7, if_neg c8, if_neg c9]
  have es : sfin g.v p = decide (g.v.hd = (g.v.h p).h) := by unfold sfin; rw [if_neg c5, if_neg c8, if_pos c10]
  by_cases hh : g.v.hd = (g.v.h p).h
  · rw [if_pos hh] at ef ek
    rw [decide_eq_true hh] at es
    rw [fstp_eq (hd' := (g.v.h p).x - 1) ef (n3 (by omega)) (by unfold fhd; rw [if_pos ⟨c10, hh⟩]) (nt (by omega) (by omega) (by omega))]
    unfold kstep; rw [hfn, es, if_pos rfl, ek]
    refine h.turn (p := p) h.ct rfl h.tl h.nd (fun q hq => ⟨rput_other hq, rput_other hq, rput_other hq, rput_other hq, rput_other hq, fput_other hq⟩) ?_
    show HR (rput v.a p 0 p) _ _ _ _ (fput g.v.h p _ p)
    rw [rput_same, fput_same]
    exact HR.zero rfl
  · rw [if_neg hh] at ef ek
    rw [decide_eq_false hh] at es
    rw [fstp_eq (hd' := g.v.hd) ef (n3 (by omega)) (by unfold fhd; rw [if_neg fun q => hh q.2]) (nt (by omega) (by omega) (by omega))]
    unfold kstep; rw [hfn, es, if_neg (by decide), ek]
    refine h.turn (p := p) h.ct h.hd h.tl h.nd (fun q hq => ⟨rput_other hq, rput_other hq, rput_other hq, rput_other hq, rput_other hq, fput_other hq⟩) ?_
    show HR (rput v.a p 6 p) _ _ _ _ (fput g.v.h p _ p)
    rw [rput_same, fput_same]
    exact HR.six rfl
/-- A beginning. -/
theorem PR.put (h : PR n v g.v vl) (q : Nat) (x : Int) : PR n (kclr (ktake v x) q 1 v.ct) (fgput g q).v (rput vl g.v.k x) := by
  refine h.turn (p := q) ?_ h.hd h.tl (fun i hi => ?_) (fun p hq => ⟨rput_other hq, rput_other hq, rput_other hq, rput_other hq, rput_other hq, fput_other hq⟩) ?_
  · show v.ct + 1 = g.v.k + 1; rw [h.ct]
  · show rput v.nx v.ct (-1) i = fi (fput g.v.nx g.v.k 0 i) ∧ rput v.vl v.ct x i = rput vl g.v.k x i
    rw [h.ct]
    have hi : i < g.v.k + 1 := hi
    by_cases e : i = g.v.k
    · rw [e, rput_same, fput_same, rput_same, rput_same]; exact ⟨rfl, rfl⟩
    · rw [rput_other e, fput_other e, rput_other e, rput_other e]; exact h.nd i (by omega)
  · show HR (rput v.a q 1 q) (rput v.e q _ q) _ _ _ (fput g.v.h q _ q)
    rw [rput_same, rput_same, fput_same]
    exact HR.one rfl h.ct
theorem PR.get (h : PR n v g.v vl) (q : Nat) : PR n (kclr v q 6 0) (fgget g q).v vl := by
  refine h.turn (p := q) h.ct h.hd h.tl h.nd (fun p hq => ⟨rput_other hq, rput_other hq, rput_other hq, rput_other hq, rput_other hq, fput_other hq⟩) ?_
  show HR (rput v.a q 6 q) _ _ _ _ (fput g.v.h q _ q)
  rw [rput_same, fput_same]
  exact HR.six rfl
end
theorem qnew_pr (n : Nat) : PR n qnew fgnew.v (fun _ => 0) :=
  ⟨rfl, rfl, rfl, fun i hi => by
    have h1 : i < 1 := hi
    obtain rfl : i = 0 := by omega
    exact ⟨rfl, rfl⟩, fun p _ => HR.zero rfl⟩
end Go.Proofs.Ytimdhnjkjflbdaa.Fif
