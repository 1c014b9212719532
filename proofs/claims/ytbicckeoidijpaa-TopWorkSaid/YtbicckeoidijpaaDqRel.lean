/-
  Chapter 18: the document's machine, with 0, 1, 2 and so on pushed, beside its history.
-/
import Derived.Test.YtbicckeoidijpaaDqPlain
namespace Go.Proofs.Ytbicckeoidijpaa
/-- The machine is as the history says. -/
structure DR (s : DV) (g : DS) : Prop where
  T : s.T = g.T
  B : s.B = if 5 ≤ g.a then (g.E : Int) - 1 else (g.E : Int)
  a0 : s.a 0 = g.a
  ap : ∀ p, 1 ≤ p → s.a p = (g.th p).a
  t0 : 6 ≤ g.a → s.t 0 = g.t
  b0 : g.a = 5 ∨ g.a = 7 → s.b 0 = s.B
  v0 : 1 ≤ g.a ∧ g.a ≤ 3 → s.v 0 = (g.v : Int)
  v8 : g.a = 8 → s.v 0 = (g.v : Int) - 1
  tp : ∀ p, 1 ≤ p → 10 ≤ (g.th p).a → s.t p = (g.th p).t
  vp : ∀ p, 1 ≤ p → (g.th p).a = 12 → s.v p = ((g.th p).v : Int)
  pl : ∀ i, i < 8 → s.pl i = ((g.pl i : Nat) : Int)
theorem DR.new : DR dvnew dnew := by
  refine ⟨rfl, rfl, rfl, fun _ _ => rfl, fun _ => rfl, fun _ => rfl, fun _ => rfl, fun h => ?_, fun _ _ _ => rfl, fun _ _ _ => rfl, fun _ _ => rfl⟩
  have : (0 : Nat) = 8 := h
  omega
/-- What a step of hand 0 tells. -/
def dfin0 (g : DS) : Bool := if g.a = 1 then decide (g.T + 8 ≤ g.E) else if g.a = 3 then true else if g.a = 5 then decide (g.T + 1 < g.E) else if g.a = 6 then true else decide (g.a = 8)
def dtold0 (g : DS) : Int := if g.a = 1 then (if g.T + 8 ≤ g.E then -2 else 0) else if g.a = 3 then -1 else if g.a = 5 then (if g.T + 1 < g.E then ((g.pl ((g.E - 1) % 8) : Nat) : Int) else 0) else if g.a = 6 then -1 else if g.a = 8 then (g.v : Int) - 1 else 0
def dfinT (g : DS) (p : Nat) : Bool := if (g.th p).a = 10 then decide (¬ dbot g (g.th p).t) else decide ((g.th p).a = 12)
def dtoldT (g : DS) (p : Nat) : Int := if (g.th p).a = 10 then (if dbot g (g.th p).t then 0 else -1) else if (g.th p).a = 12 then (if g.T = (g.th p).t then (((g.th p).v : Nat) : Int) else -2) else 0
section
variable {s : DV} {g : DS} (r : DR s g) (k : DOk g)
include r
/-- Hand 0 is another one; no other one, and no place, is. -/
theorem DR.own {s' : DV} {g' : DS} {l t' : Nat} {b' v' : Int} (ha : s'.a = dput s.a 0 l) (ht : s'.t = dput s.t 0 t') (hb : s'.b = dput s.b 0 b') (hv : s'.v = dput s.v 0 v') (hg : g'.a = l) (hth : g'.th = g.th) (hT : s'.T = g'.T) (hB : s'.B = if 5 ≤ l then (g'.E : Int) - 1 else (g'.E : Int))
    (h6 : 6 ≤ l → t' = g'.t) (h5 : l = 5 ∨ l = 7 → b' = s'.B) (h3 : 1 ≤ l ∧ l ≤ 3 → v' = (g'.v : Int)) (h8 : l = 8 → v' = (g'.v : Int) - 1) (hpl : ∀ i, i < 8 → s'.pl i = ((g'.pl i : Nat) : Int)) : DR s' g' := by
  have a0 : s'.a 0 = l := by rw [ha]; exact dput_same _ _ _
  have t0 : s'.t 0 = t' := by rw [ht]; exact dput_same _ _ _
  have b0 : s'.b 0 = b' := by rw [hb]; exact dput_same _ _ _
  have v0 : s'.v 0 = v' := by rw [hv]; exact dput_same _ _ _
  refine ⟨hT, by rw [hg]; exact hB, by rw [a0, hg], fun p hp => ?_, by rw [hg, t0]; exact h6, by rw [hg, b0]; exact h5, by rw [hg, v0]; exact h3, by rw [hg, v0]; exact h8, fun p hp h => ?_, fun p hp h => ?_, hpl⟩
  · rw [ha, dput_other (show p ≠ 0 by omega), hth]; exact r.ap p hp
  · rw [ht, dput_other (show p ≠ 0 by omega), hth]; rw [hth] at h; exact r.tp p hp h
  · rw [hv, dput_other (show p ≠ 0 by omega), hth]; rw [hth] at h; exact r.vp p hp h
/-- Another hand is another one. -/
theorem DR.other {s' : DV} {g' : DS} {p l t' w' : Nat} {v' : Int} (hp : 1 ≤ p) (ha : s'.a = dput s.a p l) (ht : s'.t = dput s.t p t') (hb : s'.b = s.b) (hv : s'.v = dput s.v p v') (hth : g'.th = dput g.th p ⟨l, t', w'⟩) (hga : g'.a = g.a) (hgt : g'.t = g.t) (hgv : g'.v = g.v) (hT : s'.T = g'.T) (hB : s'.B = s.B) (hE : g'.E = g.E)
    (hs : s'.pl = s.pl) (hp' : g'.pl = g.pl) (h12 : l = 12 → v' = (w' : Int)) : DR s' g' := by
  have e0 : (0 : Nat) ≠ p := by omega
  refine ⟨hT, by rw [hga, hB, hE]; exact r.B, by rw [ha, dput_other e0, hga]; exact r.a0, fun q hq => ?_, by rw [hga, ht, dput_other e0, hgt]; exact r.t0, by rw [hga, hb, hB]; exact r.b0, by rw [hga, hv, dput_other e0, hgv]; exact r.v0, by rw [hga, hv, dput_other e0, hgv]; exact r.v8, fun q hq h => ?_, fun q hq h => ?_, by rw [hs, hp']; exact r.pl⟩
  · by_cases e : q = p
    · subst e; rw [ha, hth, dput_same, dput_same]
    · rw [ha, hth, dput_other e, dput_other e]; exact r.ap q hq
  · by_cases e : q = p
    · subst e; rw [ht, hth, dput_same, dput_same]
    · rw [hth, dput_other e] at h
      rw [ht, hth, dput_other e, dput_other e]; exact r.tp q hq h
  · by_cases e : q = p
    · subst e
      rw [hth, dput_same] at h
      rw [hv, hth, dput_same, dput_same]; exact h12 h
    · rw [hth, dput_other e] at h
      rw [hv, hth, dput_other e, dput_other e]; exact r.vp q hq h
theorem DR.push (h0 : g.a = 0) (x : Nat) : DR (dvbeg s 0 1 (x : Int)) (dpush g x) := by
  have hB := r.B
  rw [if_neg (by omega)] at hB
  exact r.own (t' := s.t 0) (b' := s.b 0) rfl (dput_self _ _).symm (dput_self _ _).symm rfl rfl rfl r.T (by rw [if_neg (by decide)]; exact hB) (fun h => by omega) (fun h => by omega) (fun _ => rfl) (fun h => by omega) r.pl
theorem DR.pop (h0 : g.a = 0) (x : Int) : DR (dvbeg s 0 4 x) (dpop g) := by
  have hB := r.B
  rw [if_neg (by omega)] at hB
  exact r.own (t' := s.t 0) (b' := s.b 0) rfl (dput_self _ _).symm (dput_self _ _).symm rfl rfl rfl r.T (by rw [if_neg (by decide)]; exact hB) (fun h => by omega) (fun h => by omega) (fun h => by omega) (fun h => by omega) r.pl
theorem DR.steal {p : Nat} (hp : 1 ≤ p) (x : Int) : DR (dvbeg s p 9 x) (dsteal g p) := by
  refine ⟨r.T, r.B, ?_, fun q hq => ?_, r.t0, r.b0, ?_, ?_, fun q hq h => ?_, fun q hq h => ?_, r.pl⟩
  · show dput s.a p 9 0 = g.a
    rw [dput_other (by omega)]; exact r.a0
  · show dput s.a p 9 q = (dput g.th p _ q).a
    by_cases e : q = p
    · subst e; rw [dput_same, dput_same]
    · rw [dput_other e, dput_other e]; exact r.ap q hq
  · intro h
    show dput s.v p x 0 = _
    rw [dput_other (by omega)]; exact r.v0 h
  · intro h
    show dput s.v p x 0 = _
    rw [dput_other (by omega)]; exact r.v8 h
  · have h : 10 ≤ (dput g.th p ⟨9, (g.th p).t, (g.th p).v⟩ q).a := h
    show s.t q = (dput g.th p ⟨9, (g.th p).t, (g.th p).v⟩ q).t
    by_cases e : q = p
    · subst e; rw [dput_same] at h ⊢
      have : 10 ≤ 9 := h
      omega
    · rw [dput_other e] at h ⊢; exact r.tp q hq h
  · have h : (dput g.th p ⟨9, (g.th p).t, (g.th p).v⟩ q).a = 12 := h
    show dput s.v p x q = ((dput g.th p ⟨9, (g.th p).t, (g.th p).v⟩ q).v : Int)
    by_cases e : q = p
    · subst e; rw [dput_same] at h
      have : 9 = 12 := h
      omega
    · rw [dput_other e] at h
      rw [dput_other e, dput_other e]; exact r.vp q hq h
include k in
/-- Hand 0 does a line. -/
theorem DR.step0 (h0 : g.a ≠ 0) : DR (dvstp s 0) (dstep0 g) ∧ dvfin s 0 = dfin0 g ∧ dvtold s 0 = dtold0 g := by
  have hT := r.T
  have hB := r.B
  have ha := r.a0
  have ln := k.ln
  have te := k.te
  obtain h | h | h | h | h | h | h | h : g.a = 1 ∨ g.a = 2 ∨ g.a = 3 ∨ g.a = 4 ∨ g.a = 5 ∨ g.a = 6 ∨ g.a = 7 ∨ g.a = 8 := by omega
  · have hs : s.a 0 = 1 := by omega
    rw [if_neg (by omega)] at hB
    by_cases hf : g.T + 8 ≤ g.E
    · have hf2 : (s.T : Int) + 8 ≤ s.B := by omega
      refine ⟨?_, ?_, ?_⟩
      · unfold dvstp dstep0; rw [if_pos hs, if_pos h]
        rw [if_pos hf2, if_pos hf]
        exact r.own (l := 0) (t' := s.t 0) (b' := s.b 0) (v' := s.v 0) rfl (dput_self _ _).symm (dput_self _ _).symm (dput_self _ _).symm rfl rfl (hT) (by rw [if_neg (by decide)]; exact hB) (fun h => by omega) (fun h => by omega) (fun h => by omega) (fun h => by omega) (r.pl)
      · unfold dvfin dfin0; rw [if_pos hs, if_pos h]; rw [decide_eq_true hf2, decide_eq_true hf]
      · unfold dvtold dtold0; rw [if_pos hs, if_pos h]; rw [if_pos hf2, if_pos hf]
    · have hf2 : ¬ ((s.T : Int) + 8 ≤ s.B) := by omega
      refine ⟨?_, ?_, ?_⟩
      · unfold dvstp dstep0; rw [if_pos hs, if_pos h]
        rw [if_neg hf2, if_neg hf]
        exact r.own (l := 2) (t' := s.t 0) (b' := s.b 0) (v' := s.v 0) rfl (dput_self _ _).symm (dput_self _ _).symm (dput_self _ _).symm rfl rfl (hT) (by rw [if_neg (by decide)]; exact hB) (fun h => by omega) (fun h => by omega) (fun _ => r.v0 (by omega)) (fun h => by omega) (r.pl)
      · unfold dvfin dfin0; rw [if_pos hs, if_pos h]; rw [decide_eq_false hf2, decide_eq_false hf]
      · unfold dvtold dtold0; rw [if_pos hs, if_pos h]; rw [if_neg hf2, if_neg hf]
  · have hs : s.a 0 = 2 := by omega
    rw [if_neg (by omega)] at hB
    refine ⟨?_, ?_, ?_⟩
    · unfold dvstp dstep0; rw [if_neg (show ¬ s.a 0 = 1 by omega), if_pos hs, if_neg (show ¬ g.a = 1 by omega), if_pos h]
      exact r.own (l := 3) (t' := s.t 0) (b' := s.b 0) (v' := s.v 0) rfl (dput_self _ _).symm (dput_self _ _).symm (dput_self _ _).symm rfl rfl (hT) (by rw [if_neg (by decide)]; exact hB) (fun h => by omega) (fun h => by omega) (fun _ => r.v0 (by omega)) (fun h => by omega) (fun i hi => by show dput s.pl (s.B.toNat % 8) (s.v 0) i = ((dput g.pl (g.E % 8) g.v i : Nat) : Int); rw [show s.B.toNat = g.E by omega]; (by_cases e : i = g.E % 8); (rw [e, dput_same, dput_same]; exact r.v0 (by omega)); (rw [dput_other e, dput_other e]; exact r.pl i hi))
    · unfold dvfin dfin0; rw [if_neg (show ¬ s.a 0 = 1 by omega), if_neg (show ¬ s.a 0 = 3 by omega), if_neg (show ¬ s.a 0 = 5 by omega), if_neg (show ¬ s.a 0 = 6 by omega), if_neg (show ¬ s.a 0 = 8 by omega), if_neg (show ¬ s.a 0 = 10 by omega), if_neg (show ¬ s.a 0 = 12 by omega), if_neg (show ¬ g.a = 1 by omega), if_neg (show ¬ g.a = 3 by omega), if_neg (show ¬ g.a = 5 by omega), if_neg (show ¬ g.a = 6 by omega)]; exact (decide_eq_false (by omega)).symm
    · unfold dvtold dtold0; rw [if_neg (show ¬ s.a 0 = 1 by omega), if_neg (show ¬ s.a 0 = 3 by omega), if_neg (show ¬ s.a 0 = 5 by omega), if_neg (show ¬ s.a 0 = 6 by omega), if_neg (show ¬ s.a 0 = 8 by omega), if_neg (show ¬ s.a 0 = 10 by omega), if_neg (show ¬ s.a 0 = 12 by omega), if_neg (show ¬ g.a = 1 by omega), if_neg (show ¬ g.a = 3 by omega), if_neg (show ¬ g.a = 5 by omega), if_neg (show ¬ g.a = 6 by omega), if_neg (show ¬ g.a = 8 by omega)]
  · have hs : s.a 0 = 3 := by omega
    rw [if_neg (by omega)] at hB
    refine ⟨?_, ?_, ?_⟩
    · unfold dvstp dstep0; rw [if_neg (show ¬ s.a 0 = 1 by omega), if_neg (show ¬ s.a 0 = 2 by omega), if_pos hs, if_neg (show ¬ g.a = 1 by omega), if_neg (show ¬ g.a = 2 by omega), if_pos h]
      exact r.own (l := 0) (t' := s.t 0) (b' := s.b 0) (v' := s.v 0) rfl (dput_self _ _).symm (dput_self _ _).symm (dput_self _ _).symm rfl rfl (hT) (by rw [if_neg (by decide)]; show s.B + 1 = ((g.E + 1 : Nat) : Int); omega) (fun h => by omega) (fun h => by omega) (fun h => by omega) (fun h => by omega) (r.pl)
    · unfold dvfin dfin0; rw [if_neg (show ¬ s.a 0 = 1 by omega), if_pos hs, if_neg (show ¬ g.a = 1 by omega), if_pos h]
    · unfold dvtold dtold0; rw [if_neg (show ¬ s.a 0 = 1 by omega), if_pos hs, if_neg (show ¬ g.a = 1 by omega), if_pos h]
  · have hs : s.a 0 = 4 := by omega
    rw [if_neg (by omega)] at hB
    refine ⟨?_, ?_, ?_⟩
    · unfold dvstp dstep0; rw [if_neg (show ¬ s.a 0 = 1 by omega), if_neg (show ¬ s.a 0 = 2 by omega), if_neg (show ¬ s.a 0 = 3 by omega), if_pos hs, if_neg (show ¬ g.a = 1 by omega), if_neg (show ¬ g.a = 2 by omega), if_neg (show ¬ g.a = 3 by omega), if_pos h]
      exact r.own (l := 5) (t' := s.t 0) (b' := s.B - 1) (v' := s.v 0) rfl (dput_self _ _).symm rfl (dput_self _ _).symm rfl rfl (hT) (by rw [if_pos (by decide)]; show s.B - 1 = (g.E : Int) - 1; omega) (fun h => by omega) (fun _ => rfl) (fun h => by omega) (fun h => by omega) (r.pl)
    · unfold dvfin dfin0; rw [if_neg (show ¬ s.a 0 = 1 by omega), if_neg (show ¬ s.a 0 = 3 by omega), if_neg (show ¬ s.a 0 = 5 by omega), if_neg (show ¬ s.a 0 = 6 by omega), if_neg (show ¬ s.a 0 = 8 by omega), if_neg (show ¬ s.a 0 = 10 by omega), if_neg (show ¬ s.a 0 = 12 by omega), if_neg (show ¬ g.a = 1 by omega), if_neg (show ¬ g.a = 3 by omega), if_neg (show ¬ g.a = 5 by omega), if_neg (show ¬ g.a = 6 by omega)]; exact (decide_eq_false (by omega)).symm
    · unfold dvtold dtold0; rw [if_neg (show ¬ s.a 0 = 1 by omega), if_neg (show ¬ s.a 0 = 3 by omega), if_neg (show ¬ s.a 0 = 5 by omega), if_neg (show ¬ s.a 0 = 6 by omega), if_neg (show ¬ s.a 0 = 8 by omega), if_neg (show ¬ s.a 0 = 10 by omega), if_neg (show ¬ s.a 0 = 12 by omega), if_neg (show ¬ g.a = 1 by omega), if_neg (show ¬ g.a = 3 by omega), if_neg (show ¬ g.a = 5 by omega), if_neg (show ¬ g.a = 6 by omega), if_neg (show ¬ g.a = 8 by omega)]
  · have hs : s.a 0 = 5 := by omega
    rw [if_pos (by omega)] at hB
    have hb5 := r.b0 (.inl h)
    have hne : s.b 0 = s.B := hb5
    by_cases hf : g.T + 1 < g.E
    · have hf2 : (s.T : Int) < s.b 0 := by omega
      refine ⟨?_, ?_, ?_⟩
      · unfold dvstp dstep0; rw [if_neg (show ¬ s.a 0 = 1 by omega), if_neg (show ¬ s.a 0 = 2 by omega), if_neg (show ¬ s.a 0 = 3 by omega), if_neg (show ¬ s.a 0 = 4 by omega), if_pos hs, if_neg (show ¬ g.a = 1 by omega), if_neg (show ¬ g.a = 2 by omega), if_neg (show ¬ g.a = 3 by omega), if_neg (show ¬ g.a = 4 by omega), if_pos h]
        rw [if_pos hf2, if_pos hf]
        exact r.own (l := 0) (t' := s.T) (b' := s.b 0) (v' := s.v 0) rfl rfl (dput_self _ _).symm (dput_self _ _).symm rfl rfl (hT) (by rw [if_neg (by decide)]; show s.B = ((g.E - 1 : Nat) : Int); omega) (fun h => by omega) (fun h => by omega) (fun h => by omega) (fun h => by omega) (r.pl)
      · unfold dvfin dfin0; rw [if_neg (show ¬ s.a 0 = 1 by omega), if_neg (show ¬ s.a 0 = 3 by omega), if_pos hs, if_neg (show ¬ g.a = 1 by omega), if_neg (show ¬ g.a = 3 by omega), if_pos h]; rw [decide_eq_true hf2, decide_eq_true hf]
      · unfold dvtold dtold0; rw [if_neg (show ¬ s.a 0 = 1 by omega), if_neg (show ¬ s.a 0 = 3 by omega), if_pos hs, if_neg (show ¬ g.a = 1 by omega), if_neg (show ¬ g.a = 3 by omega), if_pos h]; rw [if_pos hf2, if_pos hf, show (s.b 0).toNat = g.E - 1 by omega]; exact r.pl _ (Nat.mod_lt _ (by decide))
    · have hf2 : ¬ (s.T : Int) < s.b 0 := by omega
      by_cases he : g.E = g.T + 1
      · have he2 : s.b 0 = (s.T : Int) := by omega
        refine ⟨?_, ?_, ?_⟩
        · unfold dvstp dstep0; rw [if_neg (show ¬ s.a 0 = 1 by omega), if_neg (show ¬ s.a 0 = 2 by omega), if_neg (show ¬ s.a 0 = 3 by omega), if_neg (show ¬ s.a 0 = 4 by omega), if_pos hs, if_neg (show ¬ g.a = 1 by omega), if_neg (show ¬ g.a = 2 by omega), if_neg (show ¬ g.a = 3 by omega), if_neg (show ¬ g.a = 4 by omega), if_pos h]
          rw [if_neg hf2, if_pos he2, if_neg hf, if_pos he]
          exact r.own (l := 7) (t' := s.T) (b' := s.b 0) (v' := s.v 0) rfl rfl (dput_self _ _).symm (dput_self _ _).symm rfl rfl (hT) (by rw [if_pos (by decide)]; exact hB) (fun _ => hT) (fun _ => hb5) (fun h => by omega) (fun h => by omega) (r.pl)
        · unfold dvfin dfin0; rw [if_neg (show ¬ s.a 0 = 1 by omega), if_neg (show ¬ s.a 0 = 3 by omega), if_pos hs, if_neg (show ¬ g.a = 1 by omega), if_neg (show ¬ g.a = 3 by omega), if_pos h]; rw [decide_eq_false hf2, decide_eq_false hf]
        · unfold dvtold dtold0; rw [if_neg (show ¬ s.a 0 = 1 by omega), if_neg (show ¬ s.a 0 = 3 by omega), if_pos hs, if_neg (show ¬ g.a = 1 by omega), if_neg (show ¬ g.a = 3 by omega), if_pos h]; rw [if_neg hf2, if_neg hf]
      · have he2 : ¬ s.b 0 = (s.T : Int) := by omega
        refine ⟨?_, ?_, ?_⟩
        · unfold dvstp dstep0; rw [if_neg (show ¬ s.a 0 = 1 by omega), if_neg (show ¬ s.a 0 = 2 by omega), if_neg (show ¬ s.a 0 = 3 by omega), if_neg (show ¬ s.a 0 = 4 by omega), if_pos hs, if_neg (show ¬ g.a = 1 by omega), if_neg (show ¬ g.a = 2 by omega), if_neg (show ¬ g.a = 3 by omega), if_neg (show ¬ g.a = 4 by omega), if_pos h]
          rw [if_neg hf2, if_neg he2, if_neg hf, if_neg he]
          exact r.own (l := 6) (t' := s.T) (b' := s.b 0) (v' := s.v 0) rfl rfl (dput_self _ _).symm (dput_self _ _).symm rfl rfl (hT) (by rw [if_pos (by decide)]; exact hB) (fun _ => hT) (fun h => by omega) (fun h => by omega) (fun h => by omega) (r.pl)
        · unfold dvfin dfin0; rw [if_neg (show ¬ s.a 0 = 1 by omega), if_neg (show ¬ s.a 0 = 3 by omega), if_pos hs, if_neg (show ¬ g.a = 1 by omega), if_neg (show ¬ g.a = 3 by omega), if_pos h]; rw [decide_eq_false hf2, decide_eq_false hf]
        · unfold dvtold dtold0; rw [if_neg (show ¬ s.a 0 = 1 by omega), if_neg (show ¬ s.a 0 = 3 by omega), if_pos hs, if_neg (show ¬ g.a = 1 by omega), if_neg (show ¬ g.a = 3 by omega), if_pos h]; rw [if_neg hf2, if_neg hf]
  · have hs : s.a 0 = 6 := by omega
    rw [if_pos (by omega)] at hB
    have h6 := k.six h
    have ht := r.t0 (by omega)
    refine ⟨?_, ?_, ?_⟩
    · unfold dvstp dstep0; rw [if_neg (show ¬ s.a 0 = 1 by omega), if_neg (show ¬ s.a 0 = 2 by omega), if_neg (show ¬ s.a 0 = 3 by omega), if_neg (show ¬ s.a 0 = 4 by omega), if_neg (show ¬ s.a 0 = 5 by omega), if_pos hs, if_neg (show ¬ g.a = 1 by omega), if_neg (show ¬ g.a = 2 by omega), if_neg (show ¬ g.a = 3 by omega), if_neg (show ¬ g.a = 4 by omega), if_neg (show ¬ g.a = 5 by omega), if_pos h]
      exact r.own (l := 0) (t' := s.t 0) (b' := s.b 0) (v' := s.v 0) rfl (dput_self _ _).symm (dput_self _ _).symm (dput_self _ _).symm rfl rfl (hT) (by rw [if_neg (by decide)]; show (s.t 0 : Int) = (g.E : Int); omega) (fun h => by omega) (fun h => by omega) (fun h => by omega) (fun h => by omega) (r.pl)
    · unfold dvfin dfin0; rw [if_neg (show ¬ s.a 0 = 1 by omega), if_neg (show ¬ s.a 0 = 3 by omega), if_neg (show ¬ s.a 0 = 5 by omega), if_pos hs, if_neg (show ¬ g.a = 1 by omega), if_neg (show ¬ g.a = 3 by omega), if_neg (show ¬ g.a = 5 by omega), if_pos h]
    · unfold dvtold dtold0; rw [if_neg (show ¬ s.a 0 = 1 by omega), if_neg (show ¬ s.a 0 = 3 by omega), if_neg (show ¬ s.a 0 = 5 by omega), if_pos hs, if_neg (show ¬ g.a = 1 by omega), if_neg (show ¬ g.a = 3 by omega), if_neg (show ¬ g.a = 5 by omega), if_pos h]
  · have hs : s.a 0 = 7 := by omega
    rw [if_pos (by omega)] at hB
    have h7 := k.seven h
    have ht := r.t0 (by omega)
    have hb7 := r.b0 (.inr h)
    by_cases hf : g.T = g.t
    · have hf2 : s.T = s.t 0 := by omega
      refine ⟨?_, ?_, ?_⟩
      · unfold dvstp dstep0; rw [if_neg (show ¬ s.a 0 = 1 by omega), if_neg (show ¬ s.a 0 = 2 by omega), if_neg (show ¬ s.a 0 = 3 by omega), if_neg (show ¬ s.a 0 = 4 by omega), if_neg (show ¬ s.a 0 = 5 by omega), if_neg (show ¬ s.a 0 = 6 by omega), if_pos hs, if_neg (show ¬ g.a = 1 by omega), if_neg (show ¬ g.a = 2 by omega), if_neg (show ¬ g.a = 3 by omega), if_neg (show ¬ g.a = 4 by omega), if_neg (show ¬ g.a = 5 by omega), if_neg (show ¬ g.a = 6 by omega), if_pos h]
        rw [if_pos hf2, if_pos hf]
        exact r.own (l := 8) (t' := s.t 0) (b' := s.b 0) (v' := s.pl ((s.b 0).toNat % 8)) rfl (dput_self _ _).symm (dput_self _ _).symm rfl rfl rfl (by show s.t 0 + 1 = g.t + 1; omega) (by rw [if_pos (by decide)]; exact hB) (fun _ => ht) (fun h => by omega) (fun h => by omega) (fun _ => by rw [show (s.b 0).toNat = g.E - 1 by omega, r.pl _ (Nat.mod_lt _ (by decide))]; show _ = ((g.pl ((g.E - 1) % 8) + 1 : Nat) : Int) - 1; omega) (r.pl)
      · unfold dvfin dfin0; rw [if_neg (show ¬ s.a 0 = 1 by omega), if_neg (show ¬ s.a 0 = 3 by omega), if_neg (show ¬ s.a 0 = 5 by omega), if_neg (show ¬ s.a 0 = 6 by omega), if_neg (show ¬ s.a 0 = 8 by omega), if_neg (show ¬ s.a 0 = 10 by omega), if_neg (show ¬ s.a 0 = 12 by omega), if_neg (show ¬ g.a = 1 by omega), if_neg (show ¬ g.a = 3 by omega), if_neg (show ¬ g.a = 5 by omega), if_neg (show ¬ g.a = 6 by omega)]; exact (decide_eq_false (by omega)).symm
      · unfold dvtold dtold0; rw [if_neg (show ¬ s.a 0 = 1 by omega), if_neg (show ¬ s.a 0 = 3 by omega), if_neg (show ¬ s.a 0 = 5 by omega), if_neg (show ¬ s.a 0 = 6 by omega), if_neg (show ¬ s.a 0 = 8 by omega), if_neg (show ¬ s.a 0 = 10 by omega), if_neg (show ¬ s.a 0 = 12 by omega), if_neg (show ¬ g.a = 1 by omega), if_neg (show ¬ g.a = 3 by omega), if_neg (show ¬ g.a = 5 by omega), if_neg (show ¬ g.a = 6 by omega), if_neg (show ¬ g.a = 8 by omega)]
    · have hf2 : ¬ s.T = s.t 0 := by omega
      refine ⟨?_, ?_, ?_⟩
      · unfold dvstp dstep0; rw [if_neg (show ¬ s.a 0 = 1 by omega), if_neg (show ¬ s.a 0 = 2 by omega), if_neg (show ¬ s.a 0 = 3 by omega), if_neg (show ¬ s.a 0 = 4 by omega), if_neg (show ¬ s.a 0 = 5 by omega), if_neg (show ¬ s.a 0 = 6 by omega), if_pos hs, if_neg (show ¬ g.a = 1 by omega), if_neg (show ¬ g.a = 2 by omega), if_neg (show ¬ g.a = 3 by omega), if_neg (show ¬ g.a = 4 by omega), if_neg (show ¬ g.a = 5 by omega), if_neg (show ¬ g.a = 6 by omega), if_pos h]
        rw [if_neg hf2, if_neg hf]
        exact r.own (l := 8) (t' := s.t 0) (b' := s.b 0) (v' := (-1)) rfl (dput_self _ _).symm (dput_self _ _).symm rfl rfl rfl (hT) (by rw [if_pos (by decide)]; exact hB) (fun _ => ht) (fun h => by omega) (fun h => by omega) (fun _ => rfl) (r.pl)
      · unfold dvfin dfin0; rw [if_neg (show ¬ s.a 0 = 1 by omega), if_neg (show ¬ s.a 0 = 3 by omega), if_neg (show ¬ s.a 0 = 5 by omega), if_neg (show ¬ s.a 0 = 6 by omega), if_neg (show ¬ s.a 0 = 8 by omega), if_neg (show ¬ s.a 0 = 10 by omega), if_neg (show ¬ s.a 0 = 12 by omega), if_neg (show ¬ g.a = 1 by omega), if_neg (show ¬ g.a = 3 by omega), if_neg (show ¬ g.a = 5 by omega), if_neg (show ¬ g.a = 6 by omega)]; exact (decide_eq_false (by omega)).symm
      · unfold dvtold dtold0; rw [if_neg (show ¬ s.a 0 = 1 by omega), if_neg (show ¬ s.a 0 = 3 by omega), if_neg (show ¬ s.a 0 = 5 by omega), if_neg (show ¬ s.a 0 = 6 by omega), if_neg (show ¬ s.a 0 = 8 by omega), if_neg (show ¬ s.a 0 = 10 by omega), if_neg (show ¬ s.a 0 = 12 by omega), if_neg (show ¬ g.a = 1 by omega), if_neg (show ¬ g.a = 3 by omega), if_neg (show ¬ g.a = 5 by omega), if_neg (show ¬ g.a = 6 by omega), if_neg (show ¬ g.a = 8 by omega)]
  · have hs : s.a 0 = 8 := by omega
    rw [if_pos (by omega)] at hB
    have h8 := k.eight h
    have ht := r.t0 (by omega)
    by_cases hf : g.v = 0
    · refine ⟨?_, ?_, ?_⟩
      · unfold dvstp dstep0; rw [if_neg (show ¬ s.a 0 = 1 by omega), if_neg (show ¬ s.a 0 = 2 by omega), if_neg (show ¬ s.a 0 = 3 by omega), if_neg (show ¬ s.a 0 = 4 by omega), if_neg (show ¬ s.a 0 = 5 by omega), if_neg (show ¬ s.a 0 = 6 by omega), if_neg (show ¬ s.a 0 = 7 by omega), if_pos hs, if_neg (show ¬ g.a = 1 by omega), if_neg (show ¬ g.a = 2 by omega), if_neg (show ¬ g.a = 3 by omega), if_neg (show ¬ g.a = 4 by omega), if_neg (show ¬ g.a = 5 by omega), if_neg (show ¬ g.a = 6 by omega), if_neg (show ¬ g.a = 7 by omega)]
        rw [if_pos hf]
        exact r.own (l := 0) (t' := s.t 0) (b' := s.b 0) (v' := s.v 0) rfl (dput_self _ _).symm (dput_self _ _).symm (dput_self _ _).symm rfl rfl (hT) (by rw [if_neg (by decide)]; show (s.t 0 : Int) + 1 = (g.E : Int); omega) (fun h => by omega) (fun h => by omega) (fun h => by omega) (fun h => by omega) (r.pl)
      · unfold dvfin dfin0; rw [if_neg (show ¬ s.a 0 = 1 by omega), if_neg (show ¬ s.a 0 = 3 by omega), if_neg (show ¬ s.a 0 = 5 by omega), if_neg (show ¬ s.a 0 = 6 by omega), if_pos hs, if_neg (show ¬ g.a = 1 by omega), if_neg (show ¬ g.a = 3 by omega), if_neg (show ¬ g.a = 5 by omega), if_neg (show ¬ g.a = 6 by omega)]; exact (decide_eq_true h).symm
      · unfold dvtold dtold0; rw [if_neg (show ¬ s.a 0 = 1 by omega), if_neg (show ¬ s.a 0 = 3 by omega), if_neg (show ¬ s.a 0 = 5 by omega), if_neg (show ¬ s.a 0 = 6 by omega), if_pos hs, if_neg (show ¬ g.a = 1 by omega), if_neg (show ¬ g.a = 3 by omega), if_neg (show ¬ g.a = 5 by omega), if_neg (show ¬ g.a = 6 by omega), if_pos h]; exact r.v8 h
    · refine ⟨?_, ?_, ?_⟩
      · unfold dvstp dstep0; rw [if_neg (show ¬ s.a 0 = 1 by omega), if_neg (show ¬ s.a 0 = 2 by omega), if_neg (show ¬ s.a 0 = 3 by omega), if_neg (show ¬ s.a 0 = 4 by omega), if_neg (show ¬ s.a 0 = 5 by omega), if_neg (show ¬ s.a 0 = 6 by omega), if_neg (show ¬ s.a 0 = 7 by omega), if_pos hs, if_neg (show ¬ g.a = 1 by omega), if_neg (show ¬ g.a = 2 by omega), if_neg (show ¬ g.a = 3 by omega), if_neg (show ¬ g.a = 4 by omega), if_neg (show ¬ g.a = 5 by omega), if_neg (show ¬ g.a = 6 by omega), if_neg (show ¬ g.a = 7 by omega)]
        rw [if_neg hf]
        exact r.own (l := 0) (t' := s.t 0) (b' := s.b 0) (v' := s.v 0) rfl (dput_self _ _).symm (dput_self _ _).symm (dput_self _ _).symm rfl rfl (hT) (by rw [if_neg (by decide)]; show (s.t 0 : Int) + 1 = (g.E : Int); omega) (fun h => by omega) (fun h => by omega) (fun h => by omega) (fun h => by omega) (r.pl)
      · unfold dvfin dfin0; rw [if_neg (show ¬ s.a 0 = 1 by omega), if_neg (show ¬ s.a 0 = 3 by omega), if_neg (show ¬ s.a 0 = 5 by omega), if_neg (show ¬ s.a 0 = 6 by omega), if_pos hs, if_neg (show ¬ g.a = 1 by omega), if_neg (show ¬ g.a = 3 by omega), if_neg (show ¬ g.a = 5 by omega), if_neg (show ¬ g.a = 6 by omega)]; exact (decide_eq_true h).symm
      · unfold dvtold dtold0; rw [if_neg (show ¬ s.a 0 = 1 by omega), if_neg (show ¬ s.a 0 = 3 by omega), if_neg (show ¬ s.a 0 = 5 by omega), if_neg (show ¬ s.a 0 = 6 by omega), if_pos hs, if_neg (show ¬ g.a = 1 by omega), if_neg (show ¬ g.a = 3 by omega), if_neg (show ¬ g.a = 5 by omega), if_neg (show ¬ g.a = 6 by omega), if_pos h]; exact r.v8 h
/-- Another hand does a line. -/
theorem DR.stepT {p : Nat} (hp : 1 ≤ p) (h9 : 9 ≤ (g.th p).a ∧ (g.th p).a ≤ 12) : DR (dvstp s p) (dstepT g p) ∧ dvfin s p = dfinT g p ∧ dvtold s p = dtoldT g p := by
  have hT := r.T
  have hB := r.B
  have ha := r.ap p hp
  have hdb : dbot g (g.th p).t ↔ ¬ s.B ≤ ((g.th p).t : Int) := by
    unfold dbot
    by_cases e : 5 ≤ g.a
    · rw [if_pos e] at hB ⊢; omega
    · rw [if_neg e] at hB ⊢; omega
  obtain h | h | h | h : (g.th p).a = 9 ∨ (g.th p).a = 10 ∨ (g.th p).a = 11 ∨ (g.th p).a = 12 := by omega
  · have hs : s.a p = 9 := by omega
    refine ⟨?_, ?_, ?_⟩
    · unfold dvstp dstepT; rw [if_neg (show ¬ s.a p = 1 by omega), if_neg (show ¬ s.a p = 2 by omega), if_neg (show ¬ s.a p = 3 by omega), if_neg (show ¬ s.a p = 4 by omega), if_neg (show ¬ s.a p = 5 by omega), if_neg (show ¬ s.a p = 6 by omega), if_neg (show ¬ s.a p = 7 by omega), if_neg (show ¬ s.a p = 8 by omega), if_pos hs, if_pos h]
      exact r.other (l := 10) (t' := g.T) (w' := (g.th p).v) (v' := s.v p) hp rfl (by rw [← hT]; rfl) rfl (dput_self _ _).symm rfl rfl rfl rfl (hT) rfl rfl rfl rfl (fun h => by omega)
    · unfold dvfin dfinT; rw [if_neg (show ¬ s.a p = 1 by omega), if_neg (show ¬ s.a p = 3 by omega), if_neg (show ¬ s.a p = 5 by omega), if_neg (show ¬ s.a p = 6 by omega), if_neg (show ¬ s.a p = 8 by omega), if_neg (show ¬ s.a p = 10 by omega), if_neg (show ¬ s.a p = 12 by omega), if_neg (show ¬ (g.th p).a = 10 by omega)]; exact (decide_eq_false (by omega)).symm
    · unfold dvtold dtoldT; rw [if_neg (show ¬ s.a p = 1 by omega), if_neg (show ¬ s.a p = 3 by omega), if_neg (show ¬ s.a p = 5 by omega), if_neg (show ¬ s.a p = 6 by omega), if_neg (show ¬ s.a p = 8 by omega), if_neg (show ¬ s.a p = 10 by omega), if_neg (show ¬ s.a p = 12 by omega), if_neg (show ¬ (g.th p).a = 10 by omega), if_neg (show ¬ (g.th p).a = 12 by omega)]
  · have hs : s.a p = 10 := by omega
    have ht := r.tp p hp (by omega)
    by_cases hf : dbot g (g.th p).t
    · have hf2 : ¬ s.B ≤ (s.t p : Int) := by rw [ht]; exact hdb.1 hf
      refine ⟨?_, ?_, ?_⟩
      · unfold dvstp dstepT; rw [if_neg (show ¬ s.a p = 1 by omega), if_neg (show ¬ s.a p = 2 by omega), if_neg (show ¬ s.a p = 3 by omega), if_neg (show ¬ s.a p = 4 by omega), if_neg (show ¬ s.a p = 5 by omega), if_neg (show ¬ s.a p = 6 by omega), if_neg (show ¬ s.a p = 7 by omega), if_neg (show ¬ s.a p = 8 by omega), if_neg (show ¬ s.a p = 9 by omega), if_pos hs, if_neg (show ¬ (g.th p).a = 9 by omega), if_pos h]
        rw [if_neg hf2, if_pos hf]
        exact r.other (l := 11) (t' := (g.th p).t) (w' := (g.th p).v) (v' := s.v p) hp rfl (by rw [← ht]; exact (dput_self _ _).symm) rfl (dput_self _ _).symm rfl rfl rfl rfl (hT) rfl rfl rfl rfl (fun h => by omega)
      · unfold dvfin dfinT; rw [if_neg (show ¬ s.a p = 1 by omega), if_neg (show ¬ s.a p = 3 by omega), if_neg (show ¬ s.a p = 5 by omega), if_neg (show ¬ s.a p = 6 by omega), if_neg (show ¬ s.a p = 8 by omega), if_pos hs, if_pos h]; rw [decide_eq_false hf2, decide_eq_false (fun e => e hf)]
      · unfold dvtold dtoldT; rw [if_neg (show ¬ s.a p = 1 by omega), if_neg (show ¬ s.a p = 3 by omega), if_neg (show ¬ s.a p = 5 by omega), if_neg (show ¬ s.a p = 6 by omega), if_neg (show ¬ s.a p = 8 by omega), if_pos hs, if_pos h]; rw [if_neg hf2, if_pos hf]
    · have hf2 : s.B ≤ (s.t p : Int) := by rw [ht]; exact Classical.byContradiction fun e => hf (hdb.2 e)
      refine ⟨?_, ?_, ?_⟩
      · unfold dvstp dstepT; rw [if_neg (show ¬ s.a p = 1 by omega), if_neg (show ¬ s.a p = 2 by omega), if_neg (show ¬ s.a p = 3 by omega), if_neg (show ¬ s.a p = 4 by omega), if_neg (show ¬ s.a p = 5 by omega), if_neg (show ¬ s.a p = 6 by omega), if_neg (show ¬ s.a p = 7 by omega), if_neg (show ¬ s.a p = 8 by omega), if_neg (show ¬ s.a p = 9 by omega), if_pos hs, if_neg (show ¬ (g.th p).a = 9 by omega), if_pos h]
        rw [if_pos hf2, if_neg hf]
        exact r.other (l := 0) (t' := (g.th p).t) (w' := (g.th p).v) (v' := s.v p) hp rfl (by rw [← ht]; exact (dput_self _ _).symm) rfl (dput_self _ _).symm rfl rfl rfl rfl (hT) rfl rfl rfl rfl (fun h => by omega)
      · unfold dvfin dfinT; rw [if_neg (show ¬ s.a p = 1 by omega), if_neg (show ¬ s.a p = 3 by omega), if_neg (show ¬ s.a p = 5 by omega), if_neg (show ¬ s.a p = 6 by omega), if_neg (show ¬ s.a p = 8 by omega), if_pos hs, if_pos h]; rw [decide_eq_true hf2, decide_eq_true hf]
      · unfold dvtold dtoldT; rw [if_neg (show ¬ s.a p = 1 by omega), if_neg (show ¬ s.a p = 3 by omega), if_neg (show ¬ s.a p = 5 by omega), if_neg (show ¬ s.a p = 6 by omega), if_neg (show ¬ s.a p = 8 by omega), if_pos hs, if_pos h]; rw [if_pos hf2, if_neg hf]
  · have hs : s.a p = 11 := by omega
    have ht := r.tp p hp (by omega)
    refine ⟨?_, ?_, ?_⟩
    · unfold dvstp dstepT; rw [if_neg (show ¬ s.a p = 1 by omega), if_neg (show ¬ s.a p = 2 by omega), if_neg (show ¬ s.a p = 3 by omega), if_neg (show ¬ s.a p = 4 by omega), if_neg (show ¬ s.a p = 5 by omega), if_neg (show ¬ s.a p = 6 by omega), if_neg (show ¬ s.a p = 7 by omega), if_neg (show ¬ s.a p = 8 by omega), if_neg (show ¬ s.a p = 9 by omega), if_neg (show ¬ s.a p = 10 by omega), if_pos hs, if_neg (show ¬ (g.th p).a = 9 by omega), if_neg (show ¬ (g.th p).a = 10 by omega), if_pos h]
      exact r.other (l := 12) (t' := (g.th p).t) (w' := (g.pl ((g.th p).t % 8))) (v' := (s.pl (s.t p % 8))) hp rfl (by rw [← ht]; exact (dput_self _ _).symm) rfl rfl rfl rfl rfl rfl (hT) rfl rfl rfl rfl (fun _ => by rw [ht]; exact r.pl _ (Nat.mod_lt _ (by decide)))
    · unfold dvfin dfinT; rw [if_neg (show ¬ s.a p = 1 by omega), if_neg (show ¬ s.a p = 3 by omega), if_neg (show ¬ s.a p = 5 by omega), if_neg (show ¬ s.a p = 6 by omega), if_neg (show ¬ s.a p = 8 by omega), if_neg (show ¬ s.a p = 10 by omega), if_neg (show ¬ s.a p = 12 by omega), if_neg (show ¬ (g.th p).a = 10 by omega)]; exact (decide_eq_false (by omega)).symm
    · unfold dvtold dtoldT; rw [if_neg (show ¬ s.a p = 1 by omega), if_neg (show ¬ s.a p = 3 by omega), if_neg (show ¬ s.a p = 5 by omega), if_neg (show ¬ s.a p = 6 by omega), if_neg (show ¬ s.a p = 8 by omega), if_neg (show ¬ s.a p = 10 by omega), if_neg (show ¬ s.a p = 12 by omega), if_neg (show ¬ (g.th p).a = 10 by omega), if_neg (show ¬ (g.th p).a = 12 by omega)]
  · have hs : s.a p = 12 := by omega
    have ht := r.tp p hp (by omega)
    have hv := r.vp p hp h
    by_cases hf : g.T = (g.th p).t
    · have hf2 : s.T = s.t p := by omega
      refine ⟨?_, ?_, ?_⟩
      · unfold dvstp dstepT; rw [if_neg (show ¬ s.a p = 1 by omega), if_neg (show ¬ s.a p = 2 by omega), if_neg (show ¬ s.a p = 3 by omega), if_neg (show ¬ s.a p = 4 by omega), if_neg (show ¬ s.a p = 5 by omega), if_neg (show ¬ s.a p = 6 by omega), if_neg (show ¬ s.a p = 7 by omega), if_neg (show ¬ s.a p = 8 by omega), if_neg (show ¬ s.a p = 9 by omega), if_neg (show ¬ s.a p = 10 by omega), if_neg (show ¬ s.a p = 11 by omega), if_neg (show ¬ (g.th p).a = 9 by omega), if_neg (show ¬ (g.th p).a = 10 by omega), if_neg (show ¬ (g.th p).a = 11 by omega)]
        rw [if_pos hf2, if_pos hf]
        exact r.other (l := 0) (t' := (g.th p).t) (w' := (g.th p).v) (v' := s.v p) hp rfl (by rw [← ht]; exact (dput_self _ _).symm) rfl (dput_self _ _).symm rfl rfl rfl rfl (by show s.t p + 1 = g.T + 1; omega) rfl rfl rfl rfl (fun h => by omega)
      · unfold dvfin dfinT; rw [if_neg (show ¬ s.a p = 1 by omega), if_neg (show ¬ s.a p = 3 by omega), if_neg (show ¬ s.a p = 5 by omega), if_neg (show ¬ s.a p = 6 by omega), if_neg (show ¬ s.a p = 8 by omega), if_neg (show ¬ s.a p = 10 by omega), if_pos hs, if_neg (show ¬ (g.th p).a = 10 by omega)]; exact (decide_eq_true h).symm
      · unfold dvtold dtoldT; rw [if_neg (show ¬ s.a p = 1 by omega), if_neg (show ¬ s.a p = 3 by omega), if_neg (show ¬ s.a p = 5 by omega), if_neg (show ¬ s.a p = 6 by omega), if_neg (show ¬ s.a p = 8 by omega), if_neg (show ¬ s.a p = 10 by omega), if_pos hs, if_neg (show ¬ (g.th p).a = 10 by omega), if_pos h]; rw [if_pos hf2, if_pos hf]; exact hv
    · have hf2 : ¬ s.T = s.t p := by omega
      refine ⟨?_, ?_, ?_⟩
      · unfold dvstp dstepT; rw [if_neg (show ¬ s.a p = 1 by omega), if_neg (show ¬ s.a p = 2 by omega), if_neg (show ¬ s.a p = 3 by omega), if_neg (show ¬ s.a p = 4 by omega), if_neg (show ¬ s.a p = 5 by omega), if_neg (show ¬ s.a p = 6 by omega), if_neg (show ¬ s.a p = 7 by omega), if_neg (show ¬ s.a p = 8 by omega), if_neg (show ¬ s.a p = 9 by omega), if_neg (show ¬ s.a p = 10 by omega), if_neg (show ¬ s.a p = 11 by omega), if_neg (show ¬ (g.th p).a = 9 by omega), if_neg (show ¬ (g.th p).a = 10 by omega), if_neg (show ¬ (g.th p).a = 11 by omega)]
        rw [if_neg hf2, if_neg hf]
        exact r.other (l := 0) (t' := (g.th p).t) (w' := (g.th p).v) (v' := s.v p) hp rfl (by rw [← ht]; exact (dput_self _ _).symm) rfl (dput_self _ _).symm rfl rfl rfl rfl (hT) rfl rfl rfl rfl (fun h => by omega)
      · unfold dvfin dfinT; rw [if_neg (show ¬ s.a p = 1 by omega), if_neg (show ¬ s.a p = 3 by omega), if_neg (show ¬ s.a p = 5 by omega), if_neg (show ¬ s.a p = 6 by omega), if_neg (show ¬ s.a p = 8 by omega), if_neg (show ¬ s.a p = 10 by omega), if_pos hs, if_neg (show ¬ (g.th p).a = 10 by omega)]; exact (decide_eq_true h).symm
      · unfold dvtold dtoldT; rw [if_neg (show ¬ s.a p = 1 by omega), if_neg (show ¬ s.a p = 3 by omega), if_neg (show ¬ s.a p = 5 by omega), if_neg (show ¬ s.a p = 6 by omega), if_neg (show ¬ s.a p = 8 by omega), if_neg (show ¬ s.a p = 10 by omega), if_pos hs, if_neg (show ¬ (g.th p).a = 10 by omega), if_pos h]; rw [if_neg hf2, if_neg hf]
end
end Go.Proofs.Ytbicckeoidijpaa
