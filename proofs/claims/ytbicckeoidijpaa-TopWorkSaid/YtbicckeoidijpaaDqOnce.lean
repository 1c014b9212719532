/-
  Chapter 18: what the law writes down of what comes out (DequeOnce), beside the state with its ghosts.
-/
import Derived.Test.YtbicckeoidijpaaDqEnds
namespace Go.Proofs.Ytbicckeoidijpaa
/-- A hand's line, step by step, whichever hand it is. -/
def gat (g : DS) (p : Nat) : Nat := if p = 0 then g.a else (g.th p).a
def gstep (g : DS) (p : Nat) : DS := if p = 0 then dstep0 g else dstepT g p
def gfin (g : DS) (p : Nat) : Bool := if p = 0 then dfin0 g else dfinT g p
def gtold (g : DS) (p : Nat) : Int := if p = 0 then dtold0 g else dtoldT g p
theorem dn_inj {x y : Nat} (h : (x : Int) = y) : x = y := by omega
/-- nx: the next one to be pushed; ps: whether hand 0 pushes (or did last); P, Q: what was popped, and stolen. -/
structure OS (g : DS) (nx : Nat) (ps : Bool) (P Q : List Int) : Prop where
  ok : DOk g
  nx1 : 1 ≤ g.a → g.a ≤ 3 → nx = g.pd + 1
  nx0 : g.a = 0 ∨ 4 ≤ g.a → nx = g.pd
  ps1 : 1 ≤ g.a → g.a ≤ 3 → ps = true
  ps4 : 4 ≤ g.a → ps = false
  had : ∀ d : Nat, g.had d = true ↔ ((d : Int) ∈ P ∨ (d : Int) ∈ Q)
  low : ∀ z, z ∈ P ∨ z ∈ Q → 0 ≤ z
  nd : (P ++ Q).Nodup
  cnt : g.c = P.length + Q.length
  rise : Q.Pairwise (· < ·)
  last : ∀ z, z ∈ Q → z < (g.ls : Int)
theorem OS.new : OS dnew 0 false [] [] := by
  refine ⟨dnew_ok, fun h => ?_, fun _ => rfl, fun h => ?_, fun _ => rfl, fun d => ⟨fun h => (by cases h), fun h => (by simp at h)⟩, fun z h => (by simp at h), List.nodup_nil, rfl, List.Pairwise.nil, fun z h => (by cases h)⟩
  all_goals
    have : 1 ≤ 0 := h
    omega
section
variable {g : DS} {nx : Nat} {ps : Bool} {P Q : List Int} (k : OS g nx ps P Q)
include k
theorem OS.pd (h : g.a = 0 ∨ 4 ≤ g.a) : nx = g.pd := k.nx0 h
theorem OS.push (h0 : g.a = 0) : OS (dpush g nx) (nx + 1) true P Q := by
  have e := k.pd (.inl h0)
  refine ⟨by rw [e]; exact k.ok.push h0, fun _ _ => by rw [e]; rfl, fun h => ?_, fun _ _ => rfl, fun h => ?_, k.had, k.low, k.nd, k.cnt, k.rise, k.last⟩
  · have : (1 : Nat) = 0 ∨ 4 ≤ 1 := h
    omega
  · have : 4 ≤ 1 := h
    omega
theorem OS.pop (h0 : g.a = 0) : OS (dpop g) nx false P Q := by
  have e := k.pd (.inl h0)
  refine ⟨k.ok.pop h0, fun _ h => ?_, fun _ => e, fun _ h => ?_, fun _ => rfl, k.had, k.low, k.nd, k.cnt, k.rise, k.last⟩
  · have : 4 ≤ 3 := h
    omega
  · have : 4 ≤ 3 := h
    omega
theorem OS.steal (p : Nat) : OS (dsteal g p) nx ps P Q := ⟨k.ok.steal p, k.nx1, k.nx0, k.ps1, k.ps4, k.had, k.low, k.nd, k.cnt, k.rise, k.last⟩
theorem OS.high {z : Int} (h : z ∈ P ∨ z ∈ Q) : 0 ≤ z ∧ z < (g.pd : Int) := by
  have h0 := k.low z h
  obtain ⟨d, rfl⟩ := Int.eq_ofNat_of_zero_le h0
  have := k.ok.hp d ((k.had d).2 h)
  omega
theorem OS.sum (h0 : g.a = 0) : g.pd = (g.E - g.T) + (P.length + Q.length) := by
  have h := k.ok.cnt
  rw [show dpend g = 0 from if_neg fun e => by omega] at h
  have := k.cnt
  omega
theorem OS.fresh {d : Nat} (hd : g.had d = false) : (d : Int) ∉ P ∧ (d : Int) ∉ Q :=
  ⟨fun h => (by rw [(k.had d).2 (.inl h)] at hd; cases hd), fun h => (by rw [(k.had d).2 (.inr h)] at hd; cases hd)⟩
/-- A step of hand 0 within a push. -/
theorem OS.stepP (h1 : 1 ≤ g.a) (h3 : g.a ≤ 3) : ps = true ∧ OS (dstep0 g) (if dfin0 g = true ∧ dtold0 g = -2 then nx - 1 else nx) ps P Q ∧ 1 ≤ nx ∧ (dstep0 g).pd = (if dfin0 g = true ∧ dtold0 g = -1 then g.pd + 1 else g.pd) ∧
    (dfin0 g = true → dtold0 g = -1 ∨ dtold0 g = -2) := by
  have hp := k.ps1 h1 h3
  have hn := k.nx1 h1 h3
  have ok' := k.ok.step0 (by omega)
  obtain h | h | h : g.a = 1 ∨ g.a = 2 ∨ g.a = 3 := by omega
  · by_cases hf : g.T + 8 ≤ g.E
    · have e : dstep0 g = { g with a := 0 } := by unfold dstep0; rw [if_pos h, if_pos hf]
      have f : dfin0 g = true := by unfold dfin0; rw [if_pos h]; exact decide_eq_true hf
      have t : dtold0 g = -2 := by unfold dtold0; rw [if_pos h, if_pos hf]
      rw [f, t, if_pos ⟨rfl, rfl⟩, if_neg (by omega)]
      rw [e] at ok' ⊢
      exact ⟨hp, ⟨ok', fun h _ => by have : 1 ≤ 0 := h; omega, fun _ => by show nx - 1 = g.pd; omega, fun h _ => by have : 1 ≤ 0 := h; omega, fun h => by have : 4 ≤ 0 := h; omega, k.had, k.low, k.nd, k.cnt, k.rise, k.last⟩, by omega, rfl, fun _ => .inr rfl⟩
    · have e : dstep0 g = { g with a := 2 } := by unfold dstep0; rw [if_pos h, if_neg hf]
      have f : dfin0 g = false := by unfold dfin0; rw [if_pos h]; exact decide_eq_false hf
      rw [f, if_neg (fun q => by cases q.1), if_neg (fun q => by cases q.1)]
      rw [e] at ok' ⊢
      exact ⟨hp, ⟨ok', fun _ _ => hn, fun h => by have : 2 = 0 ∨ 4 ≤ 2 := h; omega, fun _ _ => hp, fun h => by have : 4 ≤ 2 := h; omega, k.had, k.low, k.nd, k.cnt, k.rise, k.last⟩, by omega, rfl, fun h => by cases h⟩
  · have e : dstep0 g = { g with a := 3, pl := dput g.pl (g.E % 8) g.v } := by unfold dstep0; rw [if_neg (by omega), if_pos h]
    have f : dfin0 g = false := by unfold dfin0; rw [if_neg (by omega), if_neg (by omega), if_neg (by omega), if_neg (by omega)]; exact decide_eq_false (by omega)
    rw [f, if_neg (fun q => by cases q.1), if_neg (fun q => by cases q.1)]
    rw [e] at ok' ⊢
    exact ⟨hp, ⟨ok', fun _ _ => hn, fun h => by have : 3 = 0 ∨ 4 ≤ 3 := h; omega, fun _ _ => hp, fun h => by have : 4 ≤ 3 := h; omega, k.had, k.low, k.nd, k.cnt, k.rise, k.last⟩, by omega, rfl, fun h => by cases h⟩
  · have e : dstep0 g = { g with a := 0, E := g.E + 1, val := dput g.val g.E g.v, pd := g.pd + 1 } := by unfold dstep0; rw [if_neg (by omega), if_neg (by omega), if_pos h]
    have f : dfin0 g = true := by unfold dfin0; rw [if_neg (by omega), if_pos h]
    have t : dtold0 g = -1 := by unfold dtold0; rw [if_neg (by omega), if_pos h]
    rw [f, t, if_neg (by omega), if_pos ⟨rfl, rfl⟩]
    rw [e] at ok' ⊢
    exact ⟨hp, ⟨ok', fun h _ => by have : 1 ≤ 0 := h; omega, fun _ => hn, fun h _ => by have : 1 ≤ 0 := h; omega, fun h => by have : 4 ≤ 0 := h; omega, k.had, k.low, k.nd, k.cnt, k.rise, k.last⟩, by omega, rfl, fun _ => .inl rfl⟩
/-- A step of hand 0 within a pop. -/
theorem OS.stepQ (h4 : 4 ≤ g.a) : ps = false ∧ OS (dstep0 g) nx ps (if dfin0 g = true ∧ 0 ≤ dtold0 g then P ++ [dtold0 g] else P) Q ∧ (dstep0 g).pd = g.pd := by
  have hp := k.ps4 h4
  have hn := k.pd (.inr h4)
  have ok' := k.ok.step0 (by omega)
  obtain ⟨a1, a2, ⟨a3, a4⟩, a5, -⟩ := k.ok.pop0 h4
  have els : (dstep0 g).ls = g.ls := by
    unfold dstep0
    rw [if_neg (show ¬ g.a = 1 by omega), if_neg (show ¬ g.a = 2 by omega), if_neg (show ¬ g.a = 3 by omega)]
    split
    · rfl
    split
    · split
      · rfl
      split <;> rfl
    split
    · rfl
    split
    · split <;> rfl
    · split <;> rfl
  have hnx1 : 1 ≤ (dstep0 g).a → (dstep0 g).a ≤ 3 → nx = (dstep0 g).pd + 1 := fun _ _ => by rcases a1 with h | h <;> omega
  have hnx0 : (dstep0 g).a = 0 ∨ 4 ≤ (dstep0 g).a → nx = (dstep0 g).pd := fun _ => by rw [a2]; exact hn
  refine ⟨hp, ?_, a2⟩
  rcases a5 with ⟨f, t, -, hh, hc, -⟩ | ⟨f, d, t, hd, hf, hh, hc⟩ | ⟨f, hh, hc⟩
  · rw [if_neg (by rw [t]; omega)]
    exact ⟨ok', hnx1, hnx0, fun _ _ => by rcases a1 with h | h <;> omega, fun _ => hp, by rw [hh]; exact k.had, k.low, k.nd, by rw [hc]; exact k.cnt, k.rise, by rw [els]; exact k.last⟩
  · rw [if_pos ⟨f, by rw [t]; omega⟩, t]
    obtain ⟨n1, n2⟩ := k.fresh hf
    refine ⟨ok', hnx1, hnx0, fun _ _ => by rcases a1 with h | h <;> omega, fun _ => hp, fun e => ?_, fun z h => ?_, ?_, ?_, k.rise, by rw [els]; exact k.last⟩
    · rw [hh]
      by_cases he : e = d
      · subst he; rw [dput_same]; simp
      · rw [dput_other he, k.had e, List.mem_append, List.mem_singleton]
        constructor
        · rintro (h | h)
          · exact .inl (.inl h)
          · exact .inr h
        · rintro ((h | h) | h)
          · exact .inl h
          · exact absurd (dn_inj h) he
          · exact .inr h
    · rcases h with h | h
      · rcases List.mem_append.1 h with h | h
        · exact k.low z (.inl h)
        · rw [List.mem_singleton.1 h]; omega
      · exact k.low z (.inr h)
    · rw [List.append_assoc, List.singleton_append]
      exact (List.perm_middle.nodup_iff).2 (List.nodup_cons.2 ⟨fun h => (List.mem_append.1 h).elim n1 n2, k.nd⟩)
    · rw [hc, k.cnt, List.length_append, List.length_singleton]; omega
  · rw [if_neg (fun q => by rw [f] at q; cases q.1)]
    exact ⟨ok', hnx1, hnx0, fun _ _ => by rcases a1 with h | h <;> omega, fun _ => hp, by rw [hh]; exact k.had, k.low, k.nd, by rw [hc]; exact k.cnt, k.rise, by rw [els]; exact k.last⟩
/-- A step of who steals. -/
theorem OS.stepT {p : Nat} (h9 : 9 ≤ (g.th p).a ∧ (g.th p).a ≤ 12) : OS (dstepT g p) nx ps P (if dfinT g p = true ∧ 0 ≤ dtoldT g p then Q ++ [dtoldT g p] else Q) ∧ (dstepT g p).pd = g.pd ∧ (dstepT g p).a = g.a := by
  have ok' := k.ok.stepT h9
  obtain ⟨a1, a2, a3, a4, a5⟩ := k.ok.stealT h9
  have hnx1 : 1 ≤ (dstepT g p).a → (dstepT g p).a ≤ 3 → nx = (dstepT g p).pd + 1 := by rw [a1, a2]; exact k.nx1
  have hnx0 : (dstepT g p).a = 0 ∨ 4 ≤ (dstepT g p).a → nx = (dstepT g p).pd := by rw [a1, a2]; exact k.nx0
  have hps1 : 1 ≤ (dstepT g p).a → (dstepT g p).a ≤ 3 → ps = true := by rw [a1]; exact k.ps1
  have hps4 : 4 ≤ (dstepT g p).a → ps = false := by rw [a1]; exact k.ps4
  refine ⟨?_, a2, a1⟩
  rcases a5 with ⟨t, hh, hc, hT⟩ | ⟨f, hlt, d, t, hd, hf, hh, hc⟩
  · rw [if_neg (by rcases t with t | t; omega; intro q; rw [t] at q; cases q.1)]
    have els : g.ls ≤ (dstepT g p).ls := by
      unfold dstepT
      split
      · exact Nat.le_refl _
      split
      · exact Nat.le_refl _
      split
      · exact Nat.le_refl _
      split
      · rename_i h1 h2 h3 h4
        have := (k.ok.stolen (p := p) (by omega) h4).2.2
        show g.ls ≤ (g.th p).v + 1
        omega
      · exact Nat.le_refl _
    exact ⟨ok', hnx1, hnx0, hps1, hps4, by rw [hh]; exact k.had, k.low, k.nd, by rw [hc]; exact k.cnt, k.rise, fun z hz => by have := k.last z hz; omega⟩
  · rw [if_pos ⟨f, by rw [t]; omega⟩]
    have h12 : (g.th p).a = 12 := by
      obtain h | h | h | h : (g.th p).a = 9 ∨ (g.th p).a = 10 ∨ (g.th p).a = 11 ∨ (g.th p).a = 12 := by omega
      · exfalso; unfold dfinT at f; rw [if_neg (by omega)] at f; simp at f; omega
      · exfalso; unfold dfinT at f; rw [if_pos h] at f; unfold dtoldT at t; rw [if_pos h, if_neg (by simpa using f)] at t; omega
      · exfalso; unfold dfinT at f; rw [if_neg (by omega)] at f; simp at f; omega
      · exact h
    have hT : g.T = (g.th p).t := by
      by_cases e : g.T = (g.th p).t
      · exact e
      · exfalso; unfold dtoldT at t; rw [if_neg (by omega), if_pos h12, if_neg e] at t; omega
    have hv : dtoldT g p = ((g.th p).v : Int) := by unfold dtoldT; rw [if_neg (by omega), if_pos h12, if_pos hT]
    have hdv : d = (g.th p).v := by omega
    have els : (dstepT g p).ls = d + 1 := by rw [hdv]; unfold dstepT; rw [if_neg (by omega), if_neg (by omega), if_neg (by omega), if_pos hT]
    have hls := (k.ok.stolen h12 hT).2.2
    rw [t]
    obtain ⟨n1, n2⟩ := k.fresh hf
    refine ⟨ok', hnx1, hnx0, hps1, hps4, fun e => ?_, fun z h => ?_, ?_, ?_, ?_, fun z hz => ?_⟩
    · rw [hh]
      by_cases he : e = d
      · subst he; rw [dput_same]; simp
      · rw [dput_other he, k.had e, List.mem_append, List.mem_singleton]
        constructor
        · rintro (h | h)
          · exact .inl h
          · exact .inr (.inl h)
        · rintro (h | h | h)
          · exact .inl h
          · exact .inr h
          · exact absurd (dn_inj h) he
    · rcases h with h | h
      · exact k.low z (.inl h)
      · rcases List.mem_append.1 h with h | h
        · exact k.low z (.inr h)
        · rw [List.mem_singleton.1 h]; omega
    · rw [← List.append_assoc]
      refine List.nodup_append.2 ⟨k.nd, by simp, fun a ha b hb => ?_⟩
      rw [List.mem_singleton.1 hb]
      rintro rfl
      exact (List.mem_append.1 ha).elim n1 n2
    · rw [hc, k.cnt, List.length_append, List.length_singleton]; omega
    · refine List.pairwise_append.2 ⟨k.rise, List.pairwise_singleton _ _, fun a ha b hb => ?_⟩
      rw [List.mem_singleton.1 hb]
      have := k.last a ha
      omega
    · rw [els]
      rcases List.mem_append.1 hz with h | h
      · have := k.last z h; omega
      · rw [List.mem_singleton.1 h]; omega
end
/-- How many turns of hand 0 are over, one by one. -/
def tn (n i : Nat) : Nat := (i + n - 1) / n
theorem tn_next {n i : Nat} (h1 : 1 ≤ n) (h4 : n ≤ 4) : (i % n = 0 → tn n (i + 1) = tn n i + 1) ∧ (i % n ≠ 0 → tn n (i + 1) = tn n i) := by
  unfold tn
  obtain rfl | rfl | rfl | rfl : n = 1 ∨ n = 2 ∨ n = 3 ∨ n = 4 := by omega
  all_goals omega
/-- From turn 280 on hand 0 is nearer to its end with each of its turns. -/
def OL (n i a : Nat) : Prop := 280 ≤ i → a = 0 ∨ dleft a + tn n i ≤ 4 + tn n 280
theorem OL.early {n i a : Nat} (h : i < 280) : OL n (i + 1) a := fun h2 => by
  obtain e : i + 1 = 280 := by omega
  rw [e]
  have := dleft_le a
  omega
theorem OL.next {n i a a' : Nat} (h : OL n i a) (h1 : 1 ≤ n) (h4 : n ≤ 4) (hz : i % n = 0 → a = 0 ∧ a' = 0 ∨ dleft a' + 1 ≤ dleft a) (hn : i % n ≠ 0 → a' = a) : OL n (i + 1) a' := by
  by_cases h2 : i < 280
  · exact OL.early h2
  · intro _
    obtain ⟨t1, t2⟩ := tn_next (i := i) h1 h4
    by_cases e : i % n = 0
    · rw [t1 e]
      rcases hz e with ⟨_, h⟩ | h
      · exact .inl h
      · rcases h' : h with _
        rcases (show a = 0 ∨ _ from ‹OL n i a› (by omega)) with h0 | h0
        · rw [h0] at h
          have : dleft 0 = 0 := rfl
          omega
        · exact .inr (by omega)
    · rw [t2 e, hn e]
      exact h (by omega)
theorem OL.done {n a : Nat} (h : OL n 360 a) (h1 : 1 ≤ n) (h4 : n ≤ 4) : a = 0 := by
  rcases h (by omega) with h | h
  · exact h
  · have : tn n 280 + 5 ≤ tn n 360 := by
      unfold tn
      obtain rfl | rfl | rfl | rfl : n = 1 ∨ n = 2 ∨ n = 3 ∨ n = 4 := by omega
      all_goals decide
    omega
end Go.Proofs.Ytbicckeoidijpaa
