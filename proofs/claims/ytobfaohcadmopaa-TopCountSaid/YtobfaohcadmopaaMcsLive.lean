import Derived.Test.YtobfaohcadmopaaMcsMath
import Derived.Test.YtobfaohcadmopaaRounds
/-
  Chapter 9 as plain mathematics: if all do a line in turn, each comes in.
-/
namespace Go.Proofs.Ytobfaohcadmopaa

/-- A state, and who stands in line. -/
structure QG where
  s : QS
  q : Nat → Nat
  h : Nat
  e : Nat
def gstep (g : QG) (p : Nat) : QG := ⟨qstep g.s p, gq g.s p g.q g.e, gh g.s p g.h, ge g.s p g.e⟩
abbrev GOk (n : Nat) (g : QG) : Prop := MOk n g.s g.q g.h g.e
theorem qstep_a {s : QS} {p r : Nat} (hr : r ≠ p) : (qstep s p).a r = s.a r := by
  unfold qstep
  repeat' split
  all_goals first | rfl | exact qup_other hr
/-- How far the head is. -/
def stv (ax ay : Nat) : Nat := if ax = 5 then 10 else if ax = 6 then 9 else if ax = 7 then 8 else if ax = 8 then 7 else if ax = 9 then (if ay = 3 then 6 else if ay = 4 then 5 else 4) else 3
theorem stv_le (ax ay : Nat) : 3 ≤ stv ax ay ∧ stv ax ay ≤ 10 := by
  unfold stv
  repeat' split
  all_goals omega
def gst (g : QG) : Nat := stv (g.s.a (g.q g.h)) (g.s.a (g.q (g.h + 1)))
/-- Who moves it. -/
def mvv (ax fx x y : Nat) : Nat := if ax = 9 ∧ fx = 0 then y else x
def gmv (g : QG) : Nat := mvv (g.s.a (g.q g.h)) (g.s.f (g.q g.h)) (g.q g.h) (g.q (g.h + 1))
section
variable {n : Nat} {g : QG}
theorem GOk.hands (k : GOk n g) : g.e - g.h ≤ n := by
  refine pigeon n _ (fun i => g.q (g.h + i)) (fun i hi => k.low _ (by omega) (by omega)) fun i j hi hj e => ?_
  have := k.inj (g.h + i) (g.h + j) (by omega) (by omega) (by omega) (by omega) e
  omega
theorem GOk.step (k : GOk n g) {p : Nat} (hp : p < n) : GOk n (gstep g p) := MOk.step k hp
theorem gmv_lt (k : GOk n g) (hlt : g.h < g.e) : gmv g < n := by
  unfold gmv mvv
  split
  · rename_i h; exact k.low _ (by omega) (k.nine hlt h.1)
  · exact k.low _ (by omega) hlt
/-- Another one's line leaves the head where it is. -/
theorem gst_other (k : GOk n g) (hlt : g.h < g.e) {y : Nat} (hy : y < n) (hne : y ≠ gmv g) : (gstep g y).h = g.h ∧ gst (gstep g y) = gst g ∧ gmv (gstep g y) = gmv g ∧ (∀ i, i < g.e → (gstep g y).q i = g.q i) ∧ g.e ≤ (gstep g y).e ∧ (gstep g y).s.a (g.q g.h) = g.s.a (g.q g.h) := by
  have hxr := k.rng _ (k.low _ (Nat.le_refl _) hlt)
  have hhd := k.head hlt
  have hq : ∀ i, i < g.e → gq g.s y g.q g.e i = g.q i := fun i hi => by
    unfold gq; split
    · exact qup_other (by omega)
    · rfl
  have he : g.e ≤ ge g.s y g.e := by unfold ge; split <;> omega
  by_cases ex : y = g.q g.h
  · -- the head stays at line 9
    have h9 : g.s.a (g.q g.h) = 9 ∧ g.s.f (g.q g.h) = 0 := by
      unfold gmv mvv at hne
      split at hne
      · rename_i h; exact h
      · exact absurd ex hne
    have hs : (qstep g.s y).a = g.s.a ∧ (qstep g.s y).f = g.s.f := by
      unfold qstep
      rw [ex, if_neg (by omega), if_neg (by omega), if_neg (by omega), if_neg (by omega), if_neg (by omega), if_neg (by omega), if_neg (by omega), if_neg (by omega), if_pos h9.1]
      refine ⟨?_, rfl⟩
      dsimp only
      rw [if_pos h9.2, ← h9.1, qup_id]
    have hh : gh g.s y g.h = g.h := by unfold gh; rw [if_neg (by rw [ex]; omega)]
    have hn := k.nine hlt h9.1
    refine ⟨hh, ?_, ?_, hq, he, by unfold gstep; dsimp only; rw [hs.1]⟩
    · unfold gst gstep; dsimp only; rw [hh, hs.1, hq _ hlt, hq _ hn]
    · unfold gmv gstep; dsimp only; rw [hh, hs.1, hs.2, hq _ hlt, hq _ hn]
  · have hay := qstep_a (s := g.s) (p := y) (r := g.q g.h) fun e => ex e.symm
    have hh : gh g.s y g.h = g.h := by
      unfold gh; rw [if_neg]
      intro h6
      have := (k.place hy (by omega)).2
      exact ex this.symm
    by_cases a9 : g.s.a (g.q g.h) = 9
    · have hn := k.nine hlt a9
      have hrest := k.rest (g.h + 1) (by omega) hn
      have hin := k.ins (g.h + 1) (by omega) hn
      have hnx := k.nxt (g.h + 1) (by omega) hn
      rw [show g.h + 1 - 1 = g.h by omega] at hnx
      have key : (qstep g.s y).a (g.q (g.h + 1)) = g.s.a (g.q (g.h + 1)) ∧ (qstep g.s y).f (g.q g.h) = g.s.f (g.q g.h) := by
        by_cases ey : y = g.q (g.h + 1)
        · have h5 : g.s.a (g.q (g.h + 1)) = 5 := by
            have : g.s.a (g.q (g.h + 1)) = 5 ∨ g.s.a (g.q (g.h + 1)) ≤ 4 := by omega
            rcases this with h5 | h5
            · exact h5
            · exfalso
              unfold gmv mvv at hne
              rw [if_pos ⟨a9, hnx.2 h5⟩] at hne
              exact hne ey
          have : qstep g.s y = g.s := by
            unfold qstep
            rw [ey, if_neg (by omega), if_neg (by omega), if_neg (by omega), if_neg (by omega), if_pos h5, if_neg (by omega)]
          rw [this]; exact ⟨rfl, rfl⟩
        · refine ⟨qstep_a fun e => ey e.symm, ?_⟩
          unfold qstep
          by_cases b1 : g.s.a y = 1
          · rw [if_pos b1]; exact qup_other fun e => ex e.symm
          rw [if_neg b1]
          by_cases b2 : g.s.a y = 2
          · rw [if_pos b2]
          rw [if_neg b2]
          by_cases b3 : g.s.a y = 3
          · rw [if_pos b3]
          rw [if_neg b3]
          by_cases b4 : g.s.a y = 4
          · rw [if_pos b4]
            dsimp only
            obtain ⟨i, f1, f2, f3⟩ := k.mem y hy (by omega)
            have hi : g.h < i := by
              rcases Nat.lt_or_ge g.h i with h | h
              · exact h
              · have : i = g.h := by omega
                rw [this] at f3; exact absurd f3.symm ex
            have h5 := (k.rest i hi f2).2.2 (by rw [f3]; omega)
            rw [f3] at h5
            refine qup_other fun e => ?_
            have h6 := k.inj g.h (i - 1) (Nat.le_refl _) hlt (by omega) (by omega) (by omega)
            have : i = g.h + 1 := by omega
            rw [this] at f3; exact ey f3.symm
          rw [if_neg b4]
          repeat' split
          all_goals rfl
      refine ⟨hh, ?_, ?_, hq, he, hay⟩
      · unfold gst gstep; dsimp only; rw [hh, hq _ hlt, hq _ hn, hay, key.1]
      · unfold gmv gstep; dsimp only; rw [hh, hq _ hlt, hq _ hn, hay, key.2]
    · refine ⟨hh, ?_, ?_, hq, he, hay⟩
      · unfold gst gstep; dsimp only; rw [hh, hq _ hlt, hay]
        unfold stv
        repeat' split
        all_goals first | rfl | omega
      · unfold gmv gstep; dsimp only; rw [hh, hq _ hlt, hay]; unfold mvv; rw [if_neg (fun h => a9 h.1), if_neg (fun h => a9 h.1)]
/-- Who moves the head brings it on, or out. -/
theorem gst_mover (k : GOk n g) (hlt : g.h < g.e) : (∀ i, i < g.e → (gstep g (gmv g)).q i = g.q i) ∧ (gstep g (gmv g)).e = g.e ∧
    ((gstep g (gmv g)).h = g.h + 1 ∧ g.h + 1 ≤ g.e ∧ gmv g = g.q g.h ∧ (gstep g (gmv g)).s.a (g.q g.h) = 1 ∧ 8 ≤ g.s.a (g.q g.h) ∨ (gstep g (gmv g)).h = g.h ∧ gst (gstep g (gmv g)) < gst g ∧ (g.s.a (g.q g.h) = 5 → (gstep g (gmv g)).s.a (g.q g.h) = 6) ∧ (6 ≤ g.s.a (g.q g.h) → 7 ≤ (gstep g (gmv g)).s.a (g.q g.h))) := by
  have hxn := k.low _ (Nat.le_refl _) hlt
  have hxr := k.rng _ hxn
  have hhd := k.head hlt
  by_cases h9 : g.s.a (g.q g.h) = 9 ∧ g.s.f (g.q g.h) = 0
  · -- the next one has not yet told who it is
    have hn := k.nine hlt h9.1
    have hm : gmv g = g.q (g.h + 1) := if_pos h9
    have hrest := k.rest (g.h + 1) (by omega) hn
    have hin := k.ins (g.h + 1) (by omega) hn
    have hnx := k.nxt (g.h + 1) (by omega) hn
    rw [show g.h + 1 - 1 = g.h by omega] at hnx
    have hne : g.q g.h ≠ g.q (g.h + 1) := fun e => by have := k.inj g.h (g.h + 1) (Nat.le_refl _) hlt (by omega) hn e; omega
    have ha := qstep_a (s := g.s) (p := g.q (g.h + 1)) (r := g.q g.h) hne
    have h34 : g.s.a (g.q (g.h + 1)) = 3 ∨ g.s.a (g.q (g.h + 1)) = 4 := by
      have : g.s.a (g.q (g.h + 1)) ≠ 5 := fun e => by have := hnx.1 e; omega
      omega
    have hq : gq g.s (g.q (g.h + 1)) g.q g.e = g.q := by unfold gq; rw [if_neg (by omega)]
    have he : ge g.s (g.q (g.h + 1)) g.e = g.e := by unfold ge; rw [if_neg (by omega)]
    have hh : gh g.s (g.q (g.h + 1)) g.h = g.h := by unfold gh; rw [if_neg (by omega)]
    rw [hm]
    have hb : (qstep g.s (g.q (g.h + 1))).a (g.q (g.h + 1)) = g.s.a (g.q (g.h + 1)) + 1 := by
      unfold qstep
      rcases h34 with h3 | h3
      · rw [if_neg (by omega), if_neg (by omega), if_pos h3]; dsimp only; rw [qup_same, h3]
      · rw [if_neg (by omega), if_neg (by omega), if_neg (by omega), if_pos h3]; dsimp only; rw [qup_same, h3]
    refine ⟨fun i _ => by unfold gstep; dsimp only; rw [hq], he, Or.inr ⟨hh, ?_, fun h => by omega, fun _ => ?_⟩⟩
    · unfold gst gstep; dsimp only; rw [hh, hq, ha, hb, h9.1]
      rcases h34 with h3 | h3 <;> rw [h3] <;> decide
    · unfold gstep; dsimp only; rw [ha]; omega
  · have hm : gmv g = g.q g.h := if_neg h9
    have hx2 : g.s.a (g.q g.h) ≠ 2 := by omega
    have hq : gq g.s (g.q g.h) g.q g.e = g.q := by unfold gq; rw [if_neg hx2]
    have he : ge g.s (g.q g.h) g.e = g.e := by unfold ge; rw [if_neg hx2]
    rw [hm]
    refine ⟨fun i _ => by unfold gstep; dsimp only; rw [hq], he, ?_⟩
    -- what the head's line does
    have hA : ∀ z, (qstep g.s (g.q g.h)).a (g.q g.h) = z → ¬ (g.s.a (g.q g.h) = 10 ∨ g.s.a (g.q g.h) = 8 ∧ g.s.T = g.q g.h + 1) → 6 ≤ z → (∀ y, stv z y < gst g) → (g.s.a (g.q g.h) = 5 → z = 6) → (6 ≤ g.s.a (g.q g.h) → 7 ≤ z) →
        ((gstep g (g.q g.h)).h = g.h ∧ gst (gstep g (g.q g.h)) < gst g ∧ (g.s.a (g.q g.h) = 5 → (gstep g (g.q g.h)).s.a (g.q g.h) = 6) ∧ (6 ≤ g.s.a (g.q g.h) → 7 ≤ (gstep g (g.q g.h)).s.a (g.q g.h))) := by
      intro z hz hno _ hst h5 h6
      have hh : gh g.s (g.q g.h) g.h = g.h := by unfold gh; rw [if_neg hno]
      refine ⟨hh, ?_, fun h => ?_, fun h => ?_⟩
      · have : gst (gstep g (g.q g.h)) = stv z ((qstep g.s (g.q g.h)).a (g.q (g.h + 1))) := by unfold gst gstep; dsimp only; rw [hh, hq, hz]
        rw [this]; exact hst _
      · unfold gstep; dsimp only; rw [hz]; exact h5 h
      · unfold gstep; dsimp only; rw [hz]; exact h6 h
    have hout : (g.s.a (g.q g.h) = 10 ∨ g.s.a (g.q g.h) = 8 ∧ g.s.T = g.q g.h + 1) → (gstep g (g.q g.h)).h = g.h + 1 ∧ g.h + 1 ≤ g.e ∧ g.q g.h = g.q g.h ∧ (gstep g (g.q g.h)).s.a (g.q g.h) = 1 ∧ 8 ≤ g.s.a (g.q g.h) := by
      intro h
      refine ⟨by unfold gstep gh; dsimp only; rw [if_pos h], hlt, rfl, ?_, by omega⟩
      unfold gstep qstep; dsimp only
      rcases h with h | h
      · rw [if_neg (by omega), if_neg (by omega), if_neg (by omega), if_neg (by omega), if_neg (by omega), if_neg (by omega), if_neg (by omega), if_neg (by omega), if_neg (by omega)]
        exact qup_same _ _ _
      · rw [if_neg (by omega), if_neg (by omega), if_neg (by omega), if_neg (by omega), if_neg (by omega), if_neg (by omega), if_neg (by omega), if_pos h.1, if_pos h.2]
        exact qup_same _ _ _
    have hgst : gst g = stv (g.s.a (g.q g.h)) (g.s.a (g.q (g.h + 1))) := rfl
    have h5678 : g.s.a (g.q g.h) = 5 ∨ g.s.a (g.q g.h) = 6 ∨ g.s.a (g.q g.h) = 7 ∨ g.s.a (g.q g.h) = 8 ∨ g.s.a (g.q g.h) = 9 ∨ g.s.a (g.q g.h) = 10 := by omega
    rcases h5678 with a5 | a6 | a7 | a8 | a9 | a10
    · refine Or.inr (hA 6 ?_ (by omega) (by omega) (fun y => by rw [hgst, a5]; unfold stv; simp) (fun _ => rfl) (fun h => by omega))
      unfold qstep
      rw [if_neg (by omega), if_neg (by omega), if_neg (by omega), if_neg (by omega), if_pos a5, if_pos (by omega)]
      exact qup_same _ _ _
    · refine Or.inr (hA 7 ?_ (by omega) (by omega) (fun y => by rw [hgst, a6]; unfold stv; simp) (fun h => by omega) (fun _ => Nat.le_refl _))
      unfold qstep
      rw [if_neg (by omega), if_neg (by omega), if_neg (by omega), if_neg (by omega), if_neg (by omega), if_pos a6]
      exact qup_same _ _ _
    · by_cases hf : g.s.f (g.q g.h) = 0
      · refine Or.inr (hA 8 ?_ (by omega) (by omega) (fun y => by rw [hgst, a7]; unfold stv; simp) (fun h => by omega) (fun _ => by omega))
        unfold qstep
        rw [if_neg (by omega), if_neg (by omega), if_neg (by omega), if_neg (by omega), if_neg (by omega), if_neg (by omega), if_pos a7, if_pos hf]
        exact qup_same _ _ _
      · refine Or.inr (hA 10 ?_ (by omega) (by omega) (fun y => by rw [hgst, a7]; unfold stv; simp) (fun h => by omega) (fun _ => by omega))
        unfold qstep
        rw [if_neg (by omega), if_neg (by omega), if_neg (by omega), if_neg (by omega), if_neg (by omega), if_neg (by omega), if_pos a7, if_neg hf]
        exact qup_same _ _ _
    · by_cases hT : g.s.T = g.q g.h + 1
      · exact Or.inl (hout (Or.inr ⟨a8, hT⟩))
      · refine Or.inr (hA 9 ?_ (by omega) (by omega) (fun y => by rw [hgst, a8]; unfold stv; simp; split <;> (try split) <;> omega) (fun h => by omega) (fun _ => by omega))
        unfold qstep
        rw [if_neg (by omega), if_neg (by omega), if_neg (by omega), if_neg (by omega), if_neg (by omega), if_neg (by omega), if_neg (by omega), if_pos a8, if_neg hT]
        exact qup_same _ _ _
    · have hf : g.s.f (g.q g.h) ≠ 0 := fun h => h9 ⟨a9, h⟩
      refine Or.inr (hA 10 ?_ (by omega) (by omega) (fun y => by rw [hgst, a9]; unfold stv; simp; split <;> (try split) <;> omega) (fun h => by omega) (fun _ => by omega))
      unfold qstep
      rw [if_neg (by omega), if_neg (by omega), if_neg (by omega), if_neg (by omega), if_neg (by omega), if_neg (by omega), if_neg (by omega), if_neg (by omega), if_pos a9, if_neg hf]
      exact qup_same _ _ _
    · exact Or.inl (hout (Or.inl a10))
open Classical in
/-- The place of a hand. -/
noncomputable def gpl (g : QG) (p : Nat) : Nat := if h : ∃ i, g.h ≤ i ∧ i < g.e ∧ g.q i = p then Classical.choose h else 0
theorem gpl_eq (k : GOk n g) {i p : Nat} (h1 : g.h ≤ i) (h2 : i < g.e) (h3 : g.q i = p) : gpl g p = i := by
  have h : ∃ i, g.h ≤ i ∧ i < g.e ∧ g.q i = p := ⟨i, h1, h2, h3⟩
  unfold gpl
  rw [dif_pos h]
  have h4 := Classical.choose_spec h
  exact k.inj _ _ h4.1 h4.2.1 h1 h2 (h4.2.2.trans h3.symm)
/-- How far it is till hand p comes in; who moves. -/
noncomputable def gV (p : Nat) (g : QG) : Nat := if g.s.a p ≤ 2 then 49 - g.s.a p else if 7 ≤ g.s.a p then 48 + gst g else (gpl g p - g.h) * 12 + gst g
def gM (p : Nat) (g : QG) : Nat := if g.s.a p ≤ 2 then p else gmv g
theorem gV_le (k : GOk n g) (h4 : n ≤ 4) {p : Nat} (hp : p < n) : gV p g ≤ 58 := by
  have hst : gst g ≤ 10 := (stv_le _ _).2
  have hh := k.hands
  unfold gV
  split
  · omega
  · split
    · omega
    · obtain ⟨i, f1, f2, f3⟩ := k.mem p hp (by omega)
      rw [gpl_eq k f1 f2 f3]
      omega
theorem gV_fall (k : GOk n g) (h4 : n ≤ 4) {p : Nat} (hp : p < n) (hne : g.s.a p ≠ 6) :
    gM p g < n ∧ ((gstep g (gM p g)).s.a p = 6 ∨ gV p (gstep g (gM p g)) < gV p g) ∧ ∀ y, y < n → y ≠ gM p g → (gstep g y).s.a p = 6 ∨ gV p (gstep g y) < gV p g ∨ gV p (gstep g y) = gV p g ∧ gM p (gstep g y) = gM p g := by
  have hr := k.rng p hp
  by_cases hA : g.s.a p ≤ 2
  · have hM : gM p g = p := if_pos hA
    rw [hM]
    refine ⟨hp, ?_, fun y hy hyp => Or.inr (Or.inr ?_)⟩
    · have hV : gV p g = 49 - g.s.a p := if_pos hA
      rw [hV]
      by_cases a1 : g.s.a p = 1
      · have : (gstep g p).s.a p = 2 := by
          unfold gstep qstep; dsimp only; rw [if_pos a1]; exact qup_same _ _ _
        refine Or.inr ?_
        unfold gV; rw [if_pos (by omega)]; omega
      · have a2 : g.s.a p = 2 := by omega
        by_cases hT : g.s.T = 0
        · refine Or.inl ?_
          unfold gstep qstep; dsimp only; rw [if_neg a1, if_pos a2]; dsimp only; rw [qup_same, if_pos hT]
        · refine Or.inr ?_
          have ha : (gstep g p).s.a p = 3 := by
            unfold gstep qstep; dsimp only; rw [if_neg a1, if_pos a2]; dsimp only; rw [qup_same, if_neg hT]
          have k' := k.step hp
          have hh' := k'.hands
          have e1 : (gstep g p).h = g.h := by unfold gstep gh; dsimp only; rw [if_neg (by omega)]
          have e2 : (gstep g p).e = g.e + 1 := by unfold gstep ge; dsimp only; rw [if_pos a2]
          have e3 : (gstep g p).q g.e = p := by unfold gstep gq; dsimp only; rw [if_pos a2]; exact qup_same _ _ _
          have hst : gst (gstep g p) ≤ 10 := (stv_le _ _).2
          have hpl := gpl_eq k' (i := g.e) (by rw [e1]; exact k.he) (by omega) e3
          unfold gV
          rw [if_neg (by omega), if_neg (by omega), hpl, e1]
          rw [e1, e2] at hh'
          omega
    · have ha : (gstep g y).s.a p = g.s.a p := qstep_a fun e => hyp e.symm
      unfold gV gM
      rw [ha, if_pos hA, if_pos hA, if_pos hA]
      exact ⟨rfl, rfl⟩
  · have hM : gM p g = gmv g := if_neg hA
    obtain ⟨i, f1, f2, f3⟩ := k.mem p hp (by omega)
    have hlt : g.h < g.e := by omega
    have hst : 3 ≤ gst g := (stv_le _ _).1
    rw [hM]
    refine ⟨gmv_lt k hlt, ?_, fun y hy hyp => Or.inr (Or.inr ?_)⟩
    · have km := k.step (gmv_lt k hlt)
      obtain ⟨g1, g2, g3⟩ := gst_mover k hlt
      have hst' : gst (gstep g (gmv g)) ≤ 10 := (stv_le _ _).2
      by_cases hB : 7 ≤ g.s.a p
      · have hq := (k.place hp (by omega)).2
        rw [hq] at g3
        refine Or.inr ?_
        have hV : gV p g = 48 + gst g := by unfold gV; rw [if_neg hA, if_pos hB]
        rw [hV]
        rcases g3 with ⟨_, _, _, e4, _⟩ | ⟨_, e2, _, e4⟩
        · unfold gV; rw [if_pos (by omega)]; omega
        · have := e4 (by omega)
          unfold gV; rw [if_neg (by omega), if_pos (by omega)]; omega
      · have hV : gV p g = (i - g.h) * 12 + gst g := by unfold gV; rw [if_neg hA, if_neg hB, gpl_eq k f1 f2 f3]
        rw [hV]
        rcases Nat.lt_or_ge g.h i with hi | hi
        · rcases g3 with ⟨e1, _, e3, _, _⟩ | ⟨e1, e2, _, _⟩
          · have hpa : (gstep g (gmv g)).s.a p = g.s.a p := qstep_a fun e => by
              rw [e3, ← f3] at e
              have := k.inj i g.h f1 f2 (Nat.le_refl _) hlt e; omega
            refine Or.inr ?_
            unfold gV
            rw [hpa, if_neg hA, if_neg hB, gpl_eq km (i := i) (by omega) (by omega) (by rw [g1 i f2]; exact f3), e1]
            omega
          · have h5 := (km.rest i (by omega) (by omega)).1
            have h3 := km.ins i (by omega) (by omega)
            rw [g1 i f2, f3] at h5 h3
            refine Or.inr ?_
            unfold gV
            rw [if_neg (by omega), if_neg (by omega), gpl_eq km (i := i) (by omega) (by omega) (by rw [g1 i f2]; exact f3), e1]
            omega
        · have : i = g.h := by omega
          subst this
          have h5 := k.head hlt
          rw [f3] at h5 g3
          rcases g3 with ⟨_, _, _, _, e5⟩ | ⟨_, _, e3, _⟩
          · omega
          · exact Or.inl (e3 (by omega))
    · have ky := k.step hy
      obtain ⟨e1, e2, e3, e4, e5, e6⟩ := gst_other k hlt hy hyp
      have hV' : (gstep g y).s.a p = g.s.a p ∨ 3 ≤ (gstep g y).s.a p ∧ (gstep g y).s.a p ≤ 5 ∧ g.s.a p ≤ 5 := by
        rcases Nat.lt_or_ge g.h i with hi | hi
        · have h5 := (ky.rest i (by omega) (by omega)).1
          have h3 := ky.ins i (by omega) (by omega)
          have h7 := (k.rest i hi f2).1
          rw [e4 i f2, f3] at h5 h3
          rw [f3] at h7
          exact Or.inr ⟨h3, h5, h7⟩
        · have : i = g.h := by omega
          subst this
          rw [f3] at e6
          exact Or.inl e6
      have hpl : gpl (gstep g y) p = gpl g p := by rw [gpl_eq k f1 f2 f3, gpl_eq ky (i := i) (by omega) (by omega) (by rw [e4 i f2]; exact f3)]
      unfold gV gM
      rcases hV' with h5 | h5
      · rw [h5, if_neg hA, if_neg hA, if_neg hA, e1, e2, e3, hpl]
        exact ⟨rfl, rfl⟩
      · rw [if_neg (by omega), if_neg (by omega), if_neg hA, if_neg (by omega), if_neg (by omega), e1, e2, e3, hpl]
        exact ⟨rfl, rfl⟩
end
/-- What stands in line at each time. -/
def gseq (S : Nat → QS) (q : Nat → Nat) (h e n : Nat) : Nat → QG
  | 0 => ⟨S 0, q, h, e⟩
  | t + 1 => gstep (gseq S q h e n t) (t % n)
theorem gseq_s {n : Nat} {S : Nat → QS} (hS : ∀ t, S (t + 1) = qstep (S t) (t % n)) (q : Nat → Nat) (h e : Nat) (t : Nat) : (gseq S q h e n t).s = S t := by
  induction t with
  | zero => rfl
  | succ t ih => rw [gseq, gstep]; dsimp only; rw [ih, hS]
/-- If all do a line in turn, each comes in. -/
theorem mcs_comes {n : Nat} {S : Nat → QS} (hn : 1 ≤ n) (h4 : n ≤ 4) (h0 : ∃ q h e, MOk n (S 0) q h e) (hS : ∀ t, S (t + 1) = qstep (S t) (t % n)) {p : Nat} (hp : p < n) : ∃ t, t < 100 * n ∧ t % n = p ∧ (S (t + 1)).a p = 6 := by
  obtain ⟨q, h, e, k⟩ := h0
  obtain ⟨t, g1, g2, g3⟩ := rounds_come (σ := QG) (S := gseq S q h e n) (step := gstep) (Inv := GOk n) hn (fun t => rfl) k (fun s p k hp => k.step hp) hp (fun g => g.s.a p) 6
    (fun s r hr => qstep_a fun e => hr e.symm)
    (fun s k e => by
      unfold gstep qstep; dsimp only
      rw [if_neg (by omega), if_neg (by omega), if_neg (by omega), if_neg (by omega), if_neg (by omega), if_pos e]; dsimp only; rw [qup_same]; omega)
    (V := gV p) (M := gM p) 58 (fun s k => gV_le k h4 hp) (fun s k he => gV_fall k h4 hp he) (R := 100) (by omega)
  rw [gseq_s hS] at g3
  exact ⟨t, g1, g2, g3⟩
end Go.Proofs.Ytobfaohcadmopaa
