/-
  Chapter 18 as plain mathematics: a step of hand 0 keeps what is always so.
-/
import Derived.Test.YtbicckeoidijpaaDqMath
namespace Go.Proofs.Ytbicckeoidijpaa
section
variable {g : DS} (k : DOk g)
include k
/-- Only hand 0's line, t and v are others. -/
theorem DOk.line {a t v : Nat} (ln : a ≤ 8) (v3 : 1 ≤ a ∧ a ≤ 3 → v = g.pd) (room : a = 2 ∨ a = 3 → g.E < g.T + 8) (p3 : a = 3 → g.pl (g.E % 8) = v) (six : a = 6 → t = g.E ∧ g.T = g.E)
    (seven : a = 7 → t + 1 = g.E ∧ t ≤ g.T) (eight : a = 8 → t + 1 = g.E ∧ g.T = g.E ∧ (v ≠ 0 → g.had (v - 1) = false ∧ v ≤ g.pd)) (cn : dpend { g with a := a, t := t, v := v } = dpend g) : DOk { g with a := a, t := t, v := v } :=
  ⟨ln, k.te, k.e8, v3, room, p3, six, seven, eight, k.pls, k.th, k.vi, k.vn, k.hp, k.lp, by rw [cn]; exact k.cnt⟩
/-- A pop has the last one of several. -/
theorem DOk.popped (h5 : g.a = 5) (h : g.T + 1 < g.E) : g.pl ((g.E - 1) % 8) = g.val (g.E - 1) ∧ g.val (g.E - 1) < g.pd ∧ g.had (g.val (g.E - 1)) = false := by
  have a1 := k.pls (g.E - 1) (by omega) (by omega)
  have a2 := k.vn (g.E - 1) (by omega) (by omega)
  have := h5
  exact ⟨a1, a2.1, a2.2.1⟩
theorem DOk.step0 (h0 : g.a ≠ 0) : DOk (dstep0 g) := by
  have hln := k.ln
  have hte := k.te
  have he8 := k.e8
  have hc := k.cnt
  have hpe : g.a ≠ 8 → dpend g = 0 := fun h => if_neg fun e => h e.1
  have hpa : ∀ a t v, a ≠ 8 → dpend { g with a := a, t := t, v := v } = 0 := fun a t v h => if_neg fun e => h e.1
  unfold dstep0
  by_cases h1 : g.a = 1
  · rw [if_pos h1]
    by_cases h : g.T + 8 ≤ g.E
    · rw [if_pos h]
      exact k.line (a := 0) (t := g.t) (v := g.v) (by omega) (by omega) (by omega) (by omega) (by omega) (by omega) (by omega) (by rw [hpe (by omega)]; exact hpa _ _ _ (by omega))
    · rw [if_neg h]
      exact k.line (a := 2) (t := g.t) (v := g.v) (by omega) (fun _ => k.v3 (by omega)) (by omega) (by omega) (by omega) (by omega) (by omega) (by rw [hpe (by omega)]; exact hpa _ _ _ (by omega))
  rw [if_neg h1]
  by_cases h2 : g.a = 2
  · rw [if_pos h2]
    have hr := k.room (.inl h2)
    have hv := k.v3 (by omega)
    refine ⟨(by omega : 3 ≤ 8), k.te, k.e8, fun _ => hv, fun _ => hr, fun _ => dput_same _ _ _, fun h => ?_, fun h => ?_, fun h => ?_, fun i h3 h4 => ?_, k.th, k.vi, k.vn, k.hp, k.lp, ?_⟩
    · have : (3 : Nat) = 6 := h
      omega
    · have : (3 : Nat) = 7 := h
      omega
    · have : (3 : Nat) = 8 := h
      omega
    · have h3 : g.T ≤ i := h3
      have h4 : i < g.E := h4
      show dput _ _ _ _ = _
      rw [dput_other (dmod h4 (by omega))]
      exact k.pls i h3 h4
    · rw [hpe (by omega)] at hc
      rw [show dpend { g with a := 3, pl := dput g.pl (g.E % 8) g.v } = 0 from if_neg fun h => by have : (3 : Nat) = 8 := h.1; omega]
      exact hc
  rw [if_neg h2]
  by_cases h3 : g.a = 3
  · rw [if_pos h3]
    have hr := k.room (.inr h3)
    have hv := k.v3 (by omega)
    have hp3 := k.p3 h3
    have ho : ∀ i, i < g.E → dput g.val g.E g.v i = g.val i := fun i h => dput_other (by omega)
    have hn : dput g.val g.E g.v g.E = g.v := dput_same _ _ _
    have hh : g.had g.pd = false := by
      cases e : g.had g.pd with
      | false => rfl
      | true => have := k.hp _ e; omega
    refine ⟨Nat.zero_le _, by show g.T ≤ g.E + 1; omega, by show g.E + 1 ≤ g.T + 8; omega, fun h => by have : 1 ≤ 0 := h.1; omega, fun h => by have : (0 : Nat) = 2 ∨ (0 : Nat) = 3 := h; omega, fun h => by have : (0 : Nat) = 3 := h; omega, fun h => by have : (0 : Nat) = 6 := h; omega, fun h => by have : (0 : Nat) = 7 := h; omega, fun h => by have : (0 : Nat) = 8 := h; omega, fun i h4 h5 => ?_, fun p => ?_, fun i j h4 h5 h6 => ?_, fun i h4 h5 => ?_, fun d h => ?_, ?_, ?_⟩
    · have h5 : i < g.E + 1 := h5
      show _ = dput g.val g.E g.v i
      by_cases e : i = g.E
      · rw [e, hn]; exact hp3
      · rw [ho i (by omega)]; exact k.pls i h4 (by omega)
    · have K := k.th p
      refine ⟨K.le, fun h e => ?_, fun h e => ?_⟩
      · have := K.lt h e
        show (g.th p).t < g.E + 1
        omega
      · have h : 12 ≤ (g.th p).a := h
        have := K.lt (by omega) e
        show _ = dput g.val g.E g.v _
        rw [ho _ this]; exact K.v h e
    · have h6 : j < g.E + 1 := h6
      show dput g.val g.E g.v i < dput g.val g.E g.v j
      rw [ho i (by omega)]
      by_cases e : j = g.E
      · rw [e, hn]; have := (k.vn i h4 (by omega)).1; omega
      · rw [ho j (by omega)]; exact k.vi i j h4 h5 (by omega)
    · have h5 : i < g.E + 1 := h5
      show dput g.val g.E g.v i < g.pd + 1 ∧ g.had (dput g.val g.E g.v i) = false ∧ g.ls ≤ dput g.val g.E g.v i
      by_cases e : i = g.E
      · rw [e, hn, hv]; exact ⟨Nat.lt_succ_self _, hh, k.lp⟩
      · rw [ho i (by omega)]
        have := k.vn i h4 (by omega)
        exact ⟨by omega, this.2⟩
    · have := k.hp d h
      show d < g.pd + 1
      omega
    · have := k.lp
      show g.ls ≤ g.pd + 1
      omega
    · rw [hpe (by omega)] at hc
      rw [show dpend { g with a := 0, E := g.E + 1, val := dput g.val g.E g.v, pd := g.pd + 1 } = 0 from if_neg fun h => by have : (0 : Nat) = 8 := h.1; omega]
      show g.pd + 1 = (g.E + 1 - g.T) + g.c + 0
      omega
  rw [if_neg h3]
  by_cases h4 : g.a = 4
  · rw [if_pos h4]
    exact k.line (a := 5) (t := g.t) (v := g.v) (by omega) (by omega) (by omega) (by omega) (by omega) (by omega) (by omega) (by rw [hpe (by omega)]; exact hpa _ _ _ (by omega))
  rw [if_neg h4]
  by_cases h5 : g.a = 5
  · rw [if_pos h5]
    by_cases h : g.T + 1 < g.E
    · rw [if_pos h]
      obtain ⟨e1, e2, e3⟩ := k.popped h5 h
      rw [e1]
      refine ⟨Nat.zero_le _, by show g.T ≤ g.E - 1; omega, by show g.E - 1 ≤ g.T + 8; omega, fun h => by have : 1 ≤ 0 := h.1; omega, fun h => by have : (0 : Nat) = 2 ∨ (0 : Nat) = 3 := h; omega, fun h => by have : (0 : Nat) = 3 := h; omega, fun h => by have : (0 : Nat) = 6 := h; omega, fun h => by have : (0 : Nat) = 7 := h; omega, fun h => by have : (0 : Nat) = 8 := h; omega, fun i h6 h7 => k.pls i h6 (by have : i < g.E - 1 := h7; omega), fun p => ?_, fun i j h6 h7 h8 => k.vi i j h6 h7 (by have : j < g.E - 1 := h8; omega), fun i h6 h7 => ?_, fun d hd => ?_, k.lp, ?_⟩
      · have K := k.th p
        refine ⟨K.le, fun h6 e => ?_, K.v⟩
        have e : (g.th p).t = g.T := e
        show (g.th p).t < g.E - 1
        omega
      · have h7 : i < g.E - 1 := h7
        have a1 := k.vn i h6 (by omega)
        have a2 := k.vi i (g.E - 1) h6 h7 (by omega)
        refine ⟨a1.1, ?_, a1.2.2⟩
        show dput g.had _ true (g.val i) = false
        rw [dput_other (by omega)]; exact a1.2.1
      · have hd : dput g.had (g.val (g.E - 1)) true d = true := hd
        by_cases e : d = g.val (g.E - 1)
        · rw [e]; exact e2
        · rw [dput_other e] at hd; exact k.hp d hd
      · rw [hpe (by omega)] at hc
        rw [show dpend { g with a := 0, t := g.T, E := g.E - 1, had := dput g.had (g.val (g.E - 1)) true, c := g.c + 1 } = 0 from if_neg fun h => by have : (0 : Nat) = 8 := h.1; omega]
        show g.pd = (g.E - 1 - g.T) + (g.c + 1) + 0
        omega
    · rw [if_neg h]
      by_cases he : g.E = g.T + 1
      · rw [if_pos he]
        exact k.line (a := 7) (t := g.T) (v := g.v) (by omega) (by omega) (by omega) (by omega) (by omega) (by omega) (by omega) (by rw [hpe (by omega)]; exact hpa _ _ _ (by omega))
      · rw [if_neg he]
        exact k.line (a := 6) (t := g.T) (v := g.v) (by omega) (by omega) (by omega) (by omega) (by omega) (by omega) (by omega) (by rw [hpe (by omega)]; exact hpa _ _ _ (by omega))
  rw [if_neg h5]
  by_cases h6 : g.a = 6
  · rw [if_pos h6]
    exact k.line (a := 0) (t := g.t) (v := g.v) (by omega) (by omega) (by omega) (by omega) (by omega) (by omega) (by omega) (by rw [hpe (by omega)]; exact hpa _ _ _ (by omega))
  rw [if_neg h6]
  by_cases h7 : g.a = 7
  · rw [if_pos h7]
    obtain ⟨s1, s2⟩ := k.seven h7
    by_cases h : g.T = g.t
    · rw [if_pos h]
      have a1 := k.pls (g.E - 1) (by omega) (by omega)
      have a2 := k.vn (g.E - 1) (by omega) (by omega)
      rw [a1]
      refine ⟨Nat.le_refl _, by show g.t + 1 ≤ g.E; omega, by show g.E ≤ g.t + 1 + 8; omega, fun h => by have : 8 ≤ 3 := h.2; omega, fun h => by have : (8 : Nat) = 2 ∨ (8 : Nat) = 3 := h; omega, fun h => by have : (8 : Nat) = 3 := h; omega, fun h => by have : (8 : Nat) = 6 := h; omega, fun h => by have : (8 : Nat) = 7 := h; omega, fun _ => ⟨s1, s1, fun _ => ⟨a2.2.1, a2.1⟩⟩, fun i h8 h9 => ?_, fun p => ?_, fun i j h8 h9 h10 => ?_, fun i h8 h9 => ?_, k.hp, k.lp, ?_⟩
      · have h8 : g.t + 1 ≤ i := h8
        have h9 : i < g.E := h9
        omega
      · have K := k.th p
        refine ⟨fun h => ?_, fun h e => ?_, fun h e => ?_⟩
        · have := K.le h
          show (g.th p).t ≤ g.t + 1
          omega
        · have h : 11 ≤ (g.th p).a := h
          have := K.le (by omega)
          have e : (g.th p).t = g.t + 1 := e
          omega
        · have h : 12 ≤ (g.th p).a := h
          have := K.le (by omega)
          have e : (g.th p).t = g.t + 1 := e
          omega
      · have h8 : g.t + 1 ≤ i := h8
        have h10 : j < g.E := h10
        omega
      · have h8 : g.t + 1 ≤ i := h8
        have h9 : i < g.E := h9
        omega
      · rw [hpe (by omega)] at hc
        rw [show dpend { g with a := 8, T := g.t + 1, v := g.val (g.E - 1) + 1 } = 1 from if_pos ⟨rfl, Nat.succ_ne_zero _⟩]
        show g.pd = (g.E - (g.t + 1)) + g.c + 1
        omega
    · rw [if_neg h]
      exact k.line (a := 8) (t := g.t) (v := 0) (by omega) (by omega) (by omega) (by omega) (by omega) (by omega) (fun _ => ⟨s1, by omega, fun h => absurd rfl h⟩) (by rw [hpe (by omega)]; exact if_neg fun e => e.2 rfl)
  rw [if_neg h7]
  have h8 : g.a = 8 := by omega
  obtain ⟨s1, s2, s3⟩ := k.eight h8
  by_cases hv : g.v = 0
  · rw [if_pos hv]
    exact k.line (a := 0) (t := g.t) (v := g.v) (by omega) (by omega) (by omega) (by omega) (by omega) (by omega) (by omega) (by rw [show dpend g = 0 from if_neg fun e => e.2 hv]; exact hpa _ _ _ (by omega))
  · rw [if_neg hv]
    obtain ⟨s4, s5⟩ := s3 hv
    refine ⟨Nat.zero_le _, k.te, k.e8, fun h => by have : 1 ≤ 0 := h.1; omega, fun h => by have : (0 : Nat) = 2 ∨ (0 : Nat) = 3 := h; omega, fun h => by have : (0 : Nat) = 3 := h; omega, fun h => by have : (0 : Nat) = 6 := h; omega, fun h => by have : (0 : Nat) = 7 := h; omega, fun h => by have : (0 : Nat) = 8 := h; omega, k.pls, k.th, k.vi, fun i h6 h7 => ?_, fun d hd => ?_, k.lp, ?_⟩
    · have h6 : g.T ≤ i := h6
      have h7 : i < g.E := h7
      omega
    · have hd : dput g.had (g.v - 1) true d = true := hd
      by_cases e : d = g.v - 1
      · show d < g.pd
        omega
      · rw [dput_other e] at hd; exact k.hp d hd
    · rw [show dpend g = 1 from if_pos ⟨h8, hv⟩] at hc
      rw [show dpend { g with a := 0, had := dput g.had (g.v - 1) true, c := g.c + 1 } = 0 from if_neg fun h => by have : (0 : Nat) = 8 := h.1; omega]
      show g.pd = (g.E - g.T) + (g.c + 1) + 0
      omega
end
end Go.Proofs.Ytbicckeoidijpaa
