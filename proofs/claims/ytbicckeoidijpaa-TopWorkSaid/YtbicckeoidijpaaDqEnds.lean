/-
  Chapter 18: how soon hand 0 is done; pieces that are pushed at first; when nothing is in nobody gets anything.
-/
import Derived.Test.YtbicckeoidijpaaDqWork
namespace Go.Proofs.Ytbicckeoidijpaa
/-- How many steps hand 0 needs at most. -/
def dleft (a : Nat) : Nat := if a = 0 then 0 else if a = 1 then 3 else if a = 2 then 2 else if a = 4 then 4 else if a = 5 then 3 else if a = 7 then 2 else 1
theorem dleft_le (a : Nat) : dleft a ≤ 4 := by
  unfold dleft
  repeat' split
  all_goals omega
theorem dleft_zero {a : Nat} (h : dleft a = 0) : a = 0 := by
  unfold dleft at h
  by_cases e : a = 0
  · exact e
  · rw [if_neg e] at h
    repeat' split at h
    all_goals omega
theorem DOk.left {g : DS} (k : DOk g) (h0 : g.a ≠ 0) : dleft (dstep0 g).a + 1 ≤ dleft g.a := by
  have hln := k.ln
  obtain h | h | h | h | h | h | h | h : g.a = 1 ∨ g.a = 2 ∨ g.a = 3 ∨ g.a = 4 ∨ g.a = 5 ∨ g.a = 6 ∨ g.a = 7 ∨ g.a = 8 := by omega
  · have e : (dstep0 g).a = 0 ∨ (dstep0 g).a = 2 := by
      unfold dstep0; rw [if_pos h]
      by_cases hf : g.T + 8 ≤ g.E
      · exact .inl (if_pos hf)
      · exact .inr (if_neg hf)
    rcases e with e | e <;> rw [e, h] <;> decide
  · have e : (dstep0 g).a = 3 := by unfold dstep0; rw [if_neg (by omega), if_pos h]
    rw [e, h]; decide
  · have e : (dstep0 g).a = 0 := by unfold dstep0; rw [if_neg (by omega), if_neg (by omega), if_pos h]
    rw [e, h]; decide
  · have e : (dstep0 g).a = 5 := by unfold dstep0; rw [if_neg (by omega), if_neg (by omega), if_neg (by omega), if_pos h]
    rw [e, h]; decide
  · have e : (dstep0 g).a = 0 ∨ (dstep0 g).a = 7 ∨ (dstep0 g).a = 6 := by
      unfold dstep0; rw [if_neg (by omega), if_neg (by omega), if_neg (by omega), if_neg (by omega), if_pos h]
      by_cases hf : g.T + 1 < g.E
      · rw [if_pos hf]; exact .inl rfl
      · rw [if_neg hf]
        by_cases he : g.E = g.T + 1
        · rw [if_pos he]; exact .inr (.inl rfl)
        · rw [if_neg he]; exact .inr (.inr rfl)
    rcases e with e | e | e <;> rw [e, h] <;> decide
  · have e : (dstep0 g).a = 0 := by unfold dstep0; rw [if_neg (by omega), if_neg (by omega), if_neg (by omega), if_neg (by omega), if_neg (by omega), if_pos h]
    rw [e, h]; decide
  · have e : (dstep0 g).a = 8 := by
      unfold dstep0; rw [if_neg (by omega), if_neg (by omega), if_neg (by omega), if_neg (by omega), if_neg (by omega), if_neg (by omega), if_pos h]
      by_cases hf : g.T = g.t
      · rw [if_pos hf]
      · rw [if_neg hf]
    rw [e, h]; decide
  · have e : (dstep0 g).a = 0 := by
      unfold dstep0; rw [if_neg (by omega), if_neg (by omega), if_neg (by omega), if_neg (by omega), if_neg (by omega), if_neg (by omega), if_neg (by omega)]
      by_cases hv : g.v = 0
      · rw [if_pos hv]
      · rw [if_neg hv]
    rw [e, h]; decide
/-- So many pieces were pushed, and nothing else was done. -/
structure DI (g : DS) (m : Nat) : Prop where
  a : g.a = 0
  T : g.T = 0
  E : g.E = m
  pd : g.pd = m
  c : g.c = 0
  th : ∀ p, (g.th p).a = 0
  had : ∀ d, g.had d = false
theorem DI.new : DI dnew 0 := ⟨rfl, rfl, rfl, rfl, rfl, fun _ => rfl, fun _ => rfl⟩
theorem DI.rank {g : DS} {m : Nat} (h : DI g m) (h8 : m ≤ 8) : drank g ≤ 44 := by
  unfold drank; rw [h.pd, h.c, if_neg (by rw [h.a]; decide), if_neg (by rw [h.a]; decide), if_neg (by rw [h.a]; decide), if_neg (by rw [h.a]; decide)]; omega
/-- The three steps of a push. -/
theorem DI.push {g : DS} {m : Nat} (h : DI g m) (h8 : m < 8) :
    (dfin0 (dpush g m) = false ∧ dtold0 (dpush g m) = 0 ∧ (dstep0 (dpush g m)).a = 2) ∧
    (dfin0 (dstep0 (dpush g m)) = false ∧ dtold0 (dstep0 (dpush g m)) = 0 ∧ (dstep0 (dstep0 (dpush g m))).a = 3) ∧
    (dfin0 (dstep0 (dstep0 (dpush g m))) = true ∧ dtold0 (dstep0 (dstep0 (dpush g m))) = -1) ∧ DI (dstep0 (dstep0 (dstep0 (dpush g m)))) (m + 1) := by
  obtain ⟨g0, f0⟩ : ∃ q, q = dpush g m := ⟨_, rfl⟩
  have b0 : g0.a = 1 ∧ g0.T = 0 ∧ g0.E = m ∧ g0.pd = m ∧ g0.c = 0 ∧ g0.th = g.th ∧ g0.had = g.had := by rw [f0]; exact ⟨rfl, h.T, h.E, h.pd, h.c, rfl, rfl⟩
  rw [← f0]
  have nf : ¬ g0.T + 8 ≤ g0.E := by rw [b0.2.1, b0.2.2.1]; omega
  have e1 : dstep0 g0 = { g0 with a := 2 } := by unfold dstep0; rw [if_pos b0.1, if_neg nf]
  have d1 : dfin0 g0 = false := by unfold dfin0; rw [if_pos b0.1]; exact decide_eq_false nf
  have t1 : dtold0 g0 = 0 := by unfold dtold0; rw [if_pos b0.1, if_neg nf]
  obtain ⟨g1, f1⟩ : ∃ q, q = dstep0 g0 := ⟨_, rfl⟩
  have b1 : g1.a = 2 ∧ g1.T = 0 ∧ g1.E = m ∧ g1.pd = m ∧ g1.c = 0 ∧ g1.th = g.th ∧ g1.had = g.had := by rw [f1, e1]; exact ⟨rfl, b0.2⟩
  rw [← f1]
  have n1 : ¬ g1.a = 1 := by omega
  have e2 : dstep0 g1 = { g1 with a := 3, pl := dput g1.pl (g1.E % 8) g1.v } := by unfold dstep0; rw [if_neg n1, if_pos b1.1]
  have d2 : dfin0 g1 = false := by unfold dfin0; rw [if_neg n1, if_neg (by omega), if_neg (by omega), if_neg (by omega)]; exact decide_eq_false (by omega)
  have t2 : dtold0 g1 = 0 := by unfold dtold0; rw [if_neg n1, if_neg (by omega), if_neg (by omega), if_neg (by omega), if_neg (by omega)]
  obtain ⟨g2, f2⟩ : ∃ q, q = dstep0 g1 := ⟨_, rfl⟩
  have b2 : g2.a = 3 ∧ g2.T = 0 ∧ g2.E = m ∧ g2.pd = m ∧ g2.c = 0 ∧ g2.th = g.th ∧ g2.had = g.had := by rw [f2, e2]; exact ⟨rfl, b1.2⟩
  rw [← f2]
  have n2 : ¬ g2.a = 1 := by omega
  have n3 : ¬ g2.a = 2 := by omega
  have e3 : dstep0 g2 = { g2 with a := 0, E := g2.E + 1, val := dput g2.val g2.E g2.v, pd := g2.pd + 1 } := by unfold dstep0; rw [if_neg n2, if_neg n3, if_pos b2.1]
  have d3 : dfin0 g2 = true := by unfold dfin0; rw [if_neg n2, if_pos b2.1]
  have t3 : dtold0 g2 = -1 := by unfold dtold0; rw [if_neg n2, if_pos b2.1]
  refine ⟨⟨d1, t1, b1.1⟩, ⟨d2, t2, b2.1⟩, ⟨d3, t3⟩, ?_⟩
  rw [e3]
  exact ⟨rfl, b2.2.1, by show g2.E + 1 = _; rw [b2.2.2.1], by show g2.pd + 1 = _; rw [b2.2.2.2.1], b2.2.2.2.2.1, fun p => by show (g2.th p).a = 0; rw [b2.2.2.2.2.2.1]; exact h.th p, fun d => by show g2.had d = false; rw [b2.2.2.2.2.2.2]; exact h.had d⟩
/-- Where nothing is in who steals gets nothing. -/
theorem DOk.nothing {g : DS} (k : DOk g) (hE : g.E = g.T) {p : Nat} (h9 : 9 ≤ (g.th p).a ∧ (g.th p).a ≤ 12) :
    (dtoldT g p < 0 ∨ dfinT g p = false) ∧ (dstepT g p).E = (dstepT g p).T ∧ (dstepT g p).had = g.had ∧ (dstepT g p).c = g.c ∧ (dstepT g p).pd = g.pd ∧ (dstepT g p).a = g.a := by
  obtain ⟨h1, h2, h3, _, h5⟩ := k.stealT h9
  rcases h5 with ⟨t, hh, hc, hT⟩ | ⟨_, hlt, _⟩
  · exact ⟨t, by rw [h3, hT, hE], hh, hc, h2, h1⟩
  · omega
/-- Others' steps bring hand 0 no farther from its end. -/
theorem DOk.rankT {g : DS} (k : DOk g) {p : Nat} (h9 : 9 ≤ (g.th p).a ∧ (g.th p).a ≤ 12) : drank (dstepT g p) ≤ drank g := by
  obtain ⟨h1, h2, h3, _, h5⟩ := k.stealT h9
  have hc : g.c ≤ (dstepT g p).c := by
    rcases h5 with ⟨_, _, hc, _⟩ | ⟨_, _, _, _, _, _, _, hc⟩ <;> omega
  unfold drank
  rw [h1, h2]
  split
  · omega
  · split
    · omega
    · split
      · omega
      · split <;> omega
end Go.Proofs.Ytbicckeoidijpaa
