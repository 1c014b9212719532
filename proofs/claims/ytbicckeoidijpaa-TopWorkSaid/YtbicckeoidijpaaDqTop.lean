/-
  Chapter 18: what TopWork asks: pieces are pushed; hand 0 pops all that is left, whoever steals meanwhile.
-/
import Derived.Test.YtbicckeoidijpaaDqOnce
namespace Go.Proofs.Ytbicckeoidijpaa
def wit (g : DS) : Nat → DS
  | 0 => g
  | j + 1 => dstep0 (wit g j)
/-- The three steps of the push of piece m. -/
structure PW (g : DS) (m : Nat) (S : Nat → DS) : Prop where
  zero : S 0 = dpush g m
  next : ∀ j, j < 3 → S (j + 1) = dstep0 (S j)
  ok : ∀ j, DOk (S j) ∨ 3 < j
  line : ∀ j, j < 3 → (S j).a ≠ 0
  fin : ∀ j, j < 3 → dfin0 (S j) = decide (j = 2)
  told : ∀ j, j < 3 → dtold0 (S j) = if j = 2 then -1 else 0
  last : DI (S 3) (m + 1)
theorem DI.pw {g : DS} {m : Nat} (h : DI g m) (k : DOk g) (h8 : m < 8) : ∃ S, PW g m S ∧ DOk (S 3) := by
  obtain ⟨⟨a1, a2, a3⟩, ⟨b1, b2, b3⟩, ⟨c1, c2⟩, d⟩ := h.push h8
  have k0 : DOk (dpush g m) := by rw [← h.pd]; exact k.push h.a
  have k1 : DOk (dstep0 (dpush g m)) := k0.step0 (by show (1 : Nat) ≠ 0; omega)
  have k2 : DOk (dstep0 (dstep0 (dpush g m))) := k1.step0 (by omega)
  have k3 : DOk (dstep0 (dstep0 (dstep0 (dpush g m)))) := k2.step0 (by omega)
  have c : ∀ j, j < 3 → j = 0 ∨ j = 1 ∨ j = 2 := fun j h => by omega
  refine ⟨wit (dpush g m), ⟨rfl, fun _ _ => rfl, fun j => ?_, fun j hj => ?_, fun j hj => ?_, fun j hj => ?_, d⟩, k3⟩
  · by_cases hj : j < 4
    · obtain rfl | rfl | rfl | rfl : j = 0 ∨ j = 1 ∨ j = 2 ∨ j = 3 := by omega
      · exact .inl k0
      · exact .inl k1
      · exact .inl k2
      · exact .inl k3
    · exact .inr (by omega)
  · rcases c j hj with rfl | rfl | rfl
    · show (1 : Nat) ≠ 0; omega
    · show (dstep0 (dpush g m)).a ≠ 0; omega
    · show (dstep0 (dstep0 (dpush g m))).a ≠ 0; omega
  · rcases c j hj with rfl | rfl | rfl
    · exact a1
    · exact b1
    · exact c1
  · rcases c j hj with rfl | rfl | rfl
    · exact a2
    · exact b2
    · exact c2
/-- While work is done: hand 0 pops; so many pieces there are. -/
structure WI (g : DS) (m : Nat) : Prop where
  ok : DOk g
  ck : DCk g
  pops : dpops g
  pd : g.pd = m
  rank : drank g ≤ 44
theorem dcnt_none {f : Nat → Bool} (h : ∀ d, f d = false) (n : Nat) : dcnt f n = 0 := by
  induction n with
  | zero => rfl
  | succ n ih => unfold dcnt; rw [h n, ih]; rfl
theorem DI.wi {g : DS} {m : Nat} (h : DI g m) (k : DOk g) (h8 : m ≤ 8) : WI g m :=
  ⟨k, by unfold DCk; rw [h.c, dcnt_none h.had], .inl h.a, h.pd, h.rank h8⟩
section
variable {g : DS} {m : Nat} (h : WI g m)
include h
theorem WI.pop (ha : g.a = 0) : WI (dpop g) m ∧ drank (dpop g) = drank g := by
  have e : drank (dpop g) = drank g := by
    unfold drank
    rw [if_neg (show ¬ g.a = 5 by omega), if_neg (show ¬ g.a = 6 by omega), if_neg (show ¬ g.a = 7 by omega), if_neg (show ¬ g.a = 8 by omega)]
    rfl
  exact ⟨⟨h.ok.pop ha, h.ck, .inr (by show 4 ≤ 4; omega), h.pd, by rw [e]; exact h.rank⟩, e⟩
theorem WI.steal (p : Nat) : WI (dsteal g p) m ∧ drank (dsteal g p) = drank g := ⟨⟨h.ok.steal p, h.ck, h.pops, h.pd, h.rank⟩, rfl⟩
/-- A step of hand 0. -/
theorem WI.step0 (h4 : 4 ≤ g.a) :
    (dfin0 g = true ∧ dtold0 g = -1 ∧ DOk (dstep0 g) ∧ (∀ d, d < m → (dstep0 g).had d = true) ∧ (dstep0 g).had = g.had ∧ (dstep0 g).E = (dstep0 g).T ∧ (dstep0 g).pd = m) ∨
    (WI (dstep0 g) m ∧ drank (dstep0 g) + 1 ≤ drank g ∧ ((dfin0 g = true ∧ ∃ d : Nat, dtold0 g = d ∧ d < m ∧ g.had d = false ∧ (dstep0 g).had = dput g.had d true) ∨ (dfin0 g = false ∧ (dstep0 g).had = g.had))) := by
  have h0 : g.a ≠ 0 := by omega
  have ok' := h.ok.step0 h0
  have ck' := DCk.step0 h.ok h.ck h0
  obtain ⟨a1, a2, a3, a4, a5⟩ := h.ok.pop0 h4
  have hpd : (dstep0 g).pd = m := by rw [a2]; exact h.pd
  rcases a4 with ⟨f, t, c1, hh, hc, hE⟩ | ⟨f, d, t, hd, hf, hh, hc⟩ | ⟨f, hh, hc⟩
  · refine .inl ⟨f, t, ok', fun d hd => ?_, hh, hE, hpd⟩
    rw [hh]
    have hk : g.c = dcnt g.had g.pd := h.ck
    exact dcnt_all (f := g.had) (n := g.pd) (by omega) d (by rw [h.pd]; exact hd)
  · have hr := a5 fun q => by rw [t] at q; omega
    exact .inr ⟨⟨ok', ck', a1, hpd, by have := h.rank; omega⟩, hr, .inl ⟨f, d, t, by rw [← h.pd]; exact hd, hf, hh⟩⟩
  · have hr := a5 fun q => by rw [f] at q; cases q.1
    exact .inr ⟨⟨ok', ck', a1, hpd, by have := h.rank; omega⟩, hr, .inr ⟨f, hh⟩⟩
/-- A step of who steals. -/
theorem WI.stepT {p : Nat} (h9 : 9 ≤ (g.th p).a ∧ (g.th p).a ≤ 12) :
    WI (dstepT g p) m ∧ drank (dstepT g p) ≤ drank g ∧ ((dfinT g p = true ∧ ∃ d : Nat, dtoldT g p = d ∧ d < m ∧ g.had d = false ∧ (dstepT g p).had = dput g.had d true) ∨ ((dtoldT g p < 0 ∨ dfinT g p = false) ∧ (dstepT g p).had = g.had)) := by
  obtain ⟨a1, a2, a3, a4, a5⟩ := h.ok.stealT h9
  have hr := h.ok.rankT h9
  refine ⟨⟨h.ok.stepT h9, DCk.stepT h.ok h.ck h9, by unfold dpops; rw [a1]; exact h.pops, by rw [a2]; exact h.pd, by have := h.rank; omega⟩, hr, ?_⟩
  rcases a5 with ⟨t, hh, _⟩ | ⟨f, _, d, t, hd, hf, hh, _⟩
  · exact .inr ⟨t, hh⟩
  · exact .inl ⟨f, d, t, by rw [← h.pd]; exact hd, hf, hh⟩
end
/-- From turn 300 on hand 0 is nearer to finding nothing with each of its turns. -/
def WR (n i r : Nat) : Prop := 300 ≤ i → r + tn n i ≤ 44 + tn n 300
theorem WR.early {n i r : Nat} (h : i < 300) (hr : r ≤ 44) : WR n (i + 1) r := fun h2 => by
  obtain e : i + 1 = 300 := by omega
  rw [e]; omega
theorem WR.next {n i r r' : Nat} (h : WR n i r) (h1 : 1 ≤ n) (h4 : n ≤ 4) (hr : r' ≤ 44) (hz : i % n = 0 → r' + 1 ≤ r) (hn : r' ≤ r) : WR n (i + 1) r' := by
  by_cases h2 : i < 300
  · exact WR.early h2 hr
  · intro _
    obtain ⟨t1, t2⟩ := tn_next (i := i) h1 h4
    have h3 := h (by omega)
    by_cases e : i % n = 0
    · have := hz e; rw [t1 e]; omega
    · rw [t2 e]; omega
theorem WR.done {n r : Nat} (h : WR n 700 r) (h1 : 1 ≤ n) (h4 : n ≤ 4) : False := by
  have h2 := h (by omega)
  have : tn n 300 + 50 ≤ tn n 700 := by
    unfold tn
    obtain rfl | rfl | rfl | rfl : n = 1 ∨ n = 2 ∨ n = 3 ∨ n = 4 := by omega
    all_goals decide
  omega
/-- How often each was had. -/
def wasf (had : Nat → Bool) : Nat → Int := fun d => if had d = true then 1 else 0
theorem wasf_none {had : Nat → Bool} (h : ∀ d, had d = false) : wasf had = fun _ => 0 := funext fun d => by unfold wasf; rw [h d]; rfl
theorem wasf_put {had : Nat → Bool} {d : Nat} (h : had d = false) : wasf had d = 0 ∧ wasf (dput had d true) d = 1 ∧ ∀ e, e ≠ d → wasf (dput had d true) e = wasf had e := by
  refine ⟨by unfold wasf; rw [h]; rfl, by unfold wasf; rw [dput_same]; rfl, fun e he => by unfold wasf; rw [dput_other he]⟩
end Go.Proofs.Ytbicckeoidijpaa
