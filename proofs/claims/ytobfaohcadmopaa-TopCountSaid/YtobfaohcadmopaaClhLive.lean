import Derived.Test.YtobfaohcadmopaaClhMath
import Derived.Test.YtobfaohcadmopaaRounds
/-
  Chapter 10 as plain mathematics: if all do a line in turn, each comes in.
-/
namespace Go.Proofs.Ytobfaohcadmopaa

/-- A state, who stands in line, and the free place. -/
structure CG where
  s : CS
  q : Nat → Nat
  h : Nat
  e : Nat
  f : Nat
def cgstep (g : CG) (p : Nat) : CG := ⟨cstep g.s p, cgq g.s p g.q g.e, cgh g.s p g.h, cge g.s p g.e, cgf g.s p g.f⟩
abbrev CGOk (n : Nat) (g : CG) : Prop := COk n g.s g.q g.h g.e g.f
theorem cstep_a {s : CS} {p r : Nat} (hr : r ≠ p) : (cstep s p).a r = s.a r := by
  unfold cstep
  repeat' split
  all_goals first | rfl | exact cup_other hr
def cst (ax : Nat) : Nat := if ax = 3 then 3 else if ax = 4 then 2 else 1
theorem cst_le (ax : Nat) : 1 ≤ cst ax ∧ cst ax ≤ 3 := by
  unfold cst
  repeat' split
  all_goals omega
section
variable {n : Nat} {g : CG}
theorem CGOk.hands (k : CGOk n g) : g.e - g.h ≤ n := by
  refine pigeon n _ (fun i => g.q (g.h + i)) (fun i hi => k.low _ (by omega) (by omega)) fun i j hi hj e => ?_
  have := k.inj (g.h + i) (g.h + j) (by omega) (by omega) (by omega) (by omega) e
  omega
theorem CGOk.step (k : CGOk n g) {p : Nat} (hp : p < n) : CGOk n (cgstep g p) := COk.step k hp
open Classical in
/-- The place of a hand. -/
noncomputable def cpl (g : CG) (p : Nat) : Nat := if h : ∃ i, g.h ≤ i ∧ i < g.e ∧ g.q i = p then Classical.choose h else 0
theorem cpl_eq (k : CGOk n g) {i p : Nat} (h1 : g.h ≤ i) (h2 : i < g.e) (h3 : g.q i = p) : cpl g p = i := by
  have h : ∃ i, g.h ≤ i ∧ i < g.e ∧ g.q i = p := ⟨i, h1, h2, h3⟩
  unfold cpl
  rw [dif_pos h]
  have h4 := Classical.choose_spec h
  exact k.inj _ _ h4.1 h4.2.1 h1 h2 (h4.2.2.trans h3.symm)
noncomputable def cV (p : Nat) (g : CG) : Nat := if g.s.a p ≤ 2 then 17 - g.s.a p else if g.s.a p = 5 then 17 else (cpl g p - g.h) * 3 + cst (g.s.a (g.q g.h))
def cM (p : Nat) (g : CG) : Nat := if g.s.a p ≤ 2 then p else g.q g.h
theorem cV_le (k : CGOk n g) (h4 : n ≤ 4) {p : Nat} (hp : p < n) : cV p g ≤ 17 := by
  have hst := cst_le (g.s.a (g.q g.h))
  have hh := k.hands
  unfold cV
  split
  · omega
  · split
    · omega
    · obtain ⟨i, f1, f2, f3⟩ := k.mem p hp (by omega)
      rw [cpl_eq k f1 f2 f3]
      omega
theorem cV_fall (k : CGOk n g) (h4 : n ≤ 4) {p : Nat} (hp : p < n) (hne : g.s.a p ≠ 4) :
    cM p g < n ∧ ((cgstep g (cM p g)).s.a p = 4 ∨ cV p (cgstep g (cM p g)) < cV p g) ∧ ∀ y, y < n → y ≠ cM p g → (cgstep g y).s.a p = 4 ∨ cV p (cgstep g y) < cV p g ∨ cV p (cgstep g y) = cV p g ∧ cM p (cgstep g y) = cM p g := by
  have hr := k.rng p hp
  by_cases hA : g.s.a p ≤ 2
  · have hM : cM p g = p := if_pos hA
    rw [hM]
    refine ⟨hp, Or.inr ?_, fun y hy hyp => Or.inr (Or.inr ?_)⟩
    · have hV : cV p g = 17 - g.s.a p := if_pos hA
      rw [hV]
      by_cases a1 : g.s.a p = 1
      · have : (cgstep g p).s.a p = 2 := by
          unfold cgstep cstep; dsimp only; rw [if_pos a1]; exact cup_same _ _ _
        unfold cV; rw [if_pos (by omega)]; omega
      · have a2 : g.s.a p = 2 := by omega
        have ha : (cgstep g p).s.a p = 3 := by
          unfold cgstep cstep; dsimp only; rw [if_neg a1, if_pos a2]; exact cup_same _ _ _
        have k' := k.step hp
        have hh' := k'.hands
        have e1 : (cgstep g p).h = g.h := by unfold cgstep cgh; dsimp only; rw [if_neg (by omega)]
        have e2 : (cgstep g p).e = g.e + 1 := by unfold cgstep cge; dsimp only; rw [if_pos a2]
        have e3 : (cgstep g p).q g.e = p := by unfold cgstep cgq; dsimp only; rw [if_pos a2]; exact cup_same _ _ _
        have hpl := cpl_eq k' (i := g.e) (by rw [e1]; exact k.he) (by omega) e3
        have hst := cst_le ((cgstep g p).s.a ((cgstep g p).q g.h))
        unfold cV
        rw [if_neg (by omega), if_neg (by omega), hpl, e1]
        rw [e1, e2] at hh'
        omega
    · have ha : (cgstep g y).s.a p = g.s.a p := cstep_a fun e => hyp e.symm
      unfold cV cM
      rw [ha, if_pos hA, if_pos hA, if_pos hA]
      exact ⟨rfl, rfl⟩
  · have hM : cM p g = g.q g.h := if_neg hA
    obtain ⟨i, f1, f2, f3⟩ := k.mem p hp (by omega)
    have hlt : g.h < g.e := by omega
    have hxn := k.low _ (Nat.le_refl _) hlt
    have hx3 := k.ins _ (Nat.le_refl _) hlt
    have hxr := k.rng _ hxn
    have hB0 : g.s.B (g.s.r (g.q g.h)) = 0 := by rw [k.hd hlt]; exact k.bf
    rw [hM]
    have hq : ∀ y, y < n → ∀ i, i < g.e → (cgstep g y).q i = g.q i := fun y _ i hi => by
      unfold cgstep cgq; dsimp only
      split
      · exact cup_other (by omega)
      · rfl
    have he : ∀ y, g.e ≤ (cgstep g y).e := fun y => by unfold cgstep cge; dsimp only; split <;> omega
    have hoth : ∀ y, y < n → y ≠ g.q g.h → (cgstep g y).h = g.h := fun y hy hne => by
      unfold cgstep cgh; dsimp only
      rw [if_neg fun h5 => hne (k.place hy (by omega)).2.symm]
    refine ⟨hxn, ?_, fun y hy hyp => Or.inr (Or.inr ?_)⟩
    · have km := k.step hxn
      by_cases hB : g.s.a p = 5
      · have hpq := (k.place hp (by omega)).2
        rw [hpq]
        refine Or.inr ?_
        have hV : cV p g = 17 := by unfold cV; rw [if_neg hA, if_pos hB]
        have ha : (cgstep g p).s.a p = 1 := by
          unfold cgstep cstep; dsimp only
          rw [if_neg (by omega), if_neg (by omega), if_neg (by omega), if_neg (by omega)]
          exact cup_same _ _ _
        rw [hV]
        unfold cV; rw [if_pos (by omega)]; omega
      · have a3 : g.s.a p = 3 := by omega
        have hV : cV p g = (i - g.h) * 3 + cst (g.s.a (g.q g.h)) := by unfold cV; rw [if_neg hA, if_neg hB, cpl_eq k f1 f2 f3]
        rw [hV]
        rcases Nat.lt_or_ge g.h i with hi | hi
        · have hpx : p ≠ g.q g.h := fun e => by
            have := k.inj i g.h f1 f2 (Nat.le_refl _) hlt (f3.trans e); omega
          have hpa : (cgstep g (g.q g.h)).s.a p = 3 := (cstep_a hpx).trans a3
          refine Or.inr ?_
          unfold cV
          rw [if_neg (by omega), if_neg (by omega)]
          by_cases b5 : g.s.a (g.q g.h) = 5
          · have e1 : (cgstep g (g.q g.h)).h = g.h + 1 := by unfold cgstep cgh; dsimp only; rw [if_pos b5]
            rw [cpl_eq km (i := i) (by omega) (Nat.lt_of_lt_of_le f2 (he _)) (by rw [hq _ hxn i f2]; exact f3), e1]
            have h1 := (cst_le ((cgstep g (g.q g.h)).s.a ((cgstep g (g.q g.h)).q (g.h + 1)))).2
            have h2 := (cst_le (g.s.a (g.q g.h))).1
            omega
          · have e1 : (cgstep g (g.q g.h)).h = g.h := by unfold cgstep cgh; dsimp only; rw [if_neg b5]
            rw [cpl_eq km (i := i) (by omega) (Nat.lt_of_lt_of_le f2 (he _)) (by rw [hq _ hxn i f2]; exact f3), e1, hq _ hxn g.h hlt]
            have ha : (cgstep g (g.q g.h)).s.a (g.q g.h) = g.s.a (g.q g.h) + 1 := by
              unfold cgstep cstep; dsimp only
              rw [if_neg (by omega), if_neg (by omega)]
              by_cases b3 : g.s.a (g.q g.h) = 3
              · rw [if_pos b3, if_pos hB0]; dsimp only; rw [cup_same]; omega
              · rw [if_neg b3, if_pos (by omega)]; dsimp only; rw [cup_same]; omega
            rw [ha]
            have h34 : g.s.a (g.q g.h) = 3 ∨ g.s.a (g.q g.h) = 4 := by omega
            rcases h34 with h | h <;> rw [h] <;> (unfold cst; simp)
        · have hih : i = g.h := by omega
          subst hih
          refine Or.inl ?_
          rw [f3] at hB0 ⊢
          unfold cgstep cstep; dsimp only
          rw [if_neg (by omega), if_neg (by omega), if_pos a3, if_pos hB0]
          exact cup_same _ _ _
    · have ky := k.step hy
      have e1 := hoth y hy hyp
      have hax : (cgstep g y).s.a (g.q g.h) = g.s.a (g.q g.h) := cstep_a fun e => hyp e.symm
      have hpa : (cgstep g y).s.a p = g.s.a p := by
        rcases Nat.lt_or_ge g.h i with hi | hi
        · have h1 := (ky.nx i (by omega) (Nat.lt_of_lt_of_le f2 (he y))).2
          rw [hq y hy i f2, f3] at h1
          have h2 := (k.nx i hi f2).2
          rw [f3] at h2
          omega
        · have hih : i = g.h := by omega
          subst hih
          rw [f3] at hax; exact hax
      have hpl : cpl (cgstep g y) p = cpl g p := by rw [cpl_eq k f1 f2 f3, cpl_eq ky (i := i) (by omega) (Nat.lt_of_lt_of_le f2 (he y)) (by rw [hq y hy i f2]; exact f3)]
      unfold cV cM
      rw [hpa, if_neg hA, if_neg hA, if_neg hA, e1, hq y hy g.h hlt, hax, hpl]
      exact ⟨rfl, rfl⟩
end
/-- What stands in line at each time. -/
def cgseq (S : Nat → CS) (q : Nat → Nat) (h e f n : Nat) : Nat → CG
  | 0 => ⟨S 0, q, h, e, f⟩
  | t + 1 => cgstep (cgseq S q h e f n t) (t % n)
theorem cgseq_s {n : Nat} {S : Nat → CS} (hS : ∀ t, S (t + 1) = cstep (S t) (t % n)) (q : Nat → Nat) (h e f : Nat) (t : Nat) : (cgseq S q h e f n t).s = S t := by
  induction t with
  | zero => rfl
  | succ t ih => rw [cgseq, cgstep]; dsimp only; rw [ih, hS]
/-- If all do a line in turn, each comes in. -/
theorem clh_comes {n : Nat} {S : Nat → CS} (hn : 1 ≤ n) (h4 : n ≤ 4) (h0 : ∃ q h e f, COk n (S 0) q h e f) (hS : ∀ t, S (t + 1) = cstep (S t) (t % n)) {p : Nat} (hp : p < n) : ∃ t, t < 60 * n ∧ t % n = p ∧ (S (t + 1)).a p = 4 := by
  obtain ⟨q, h, e, f, k⟩ := h0
  obtain ⟨t, g1, g2, g3⟩ := rounds_come (σ := CG) (S := cgseq S q h e f n) (step := cgstep) (Inv := CGOk n) hn (fun t => rfl) k (fun s p k hp => k.step hp) hp (fun g => g.s.a p) 4
    (fun s r hr => cstep_a fun e => hr e.symm)
    (fun s k e => by
      unfold cgstep cstep; dsimp only
      rw [if_neg (by omega), if_neg (by omega), if_neg (by omega), if_pos e]; dsimp only; rw [cup_same]; omega)
    (V := cV p) (M := cM p) 17 (fun s k => cV_le k h4 hp) (fun s k he => cV_fall k h4 hp he) (R := 60) (by omega)
  rw [cgseq_s hS] at g3
  exact ⟨t, g1, g2, g3⟩
end Go.Proofs.Ytobfaohcadmopaa
