import Derived.Test.YtobfaohcadmopaaClhMath
/-
  Chapter 10 as plain mathematics: the row of those who stood in line and are not yet in.
-/
namespace Go.Proofs.Ytobfaohcadmopaa
/-- Where those begin who are not yet in. -/
def chb (s : CS) (q : Nat → Nat) (h e : Nat) : Nat := if h < e ∧ 4 ≤ s.a (q h) then h + 1 else h
def crow (s : CS) (q : Nat → Nat) (h e : Nat) : List Nat := (List.range (e - chb s q h e)).map fun i => q (chb s q h e + i)
theorem crow_of {s s' : CS} {q q' : Nat → Nat} {h h' e : Nat} (hb : chb s' q' h' e = chb s q h e) (hq : ∀ i, i < e → q' i = q i) : crow s' q' h' e = crow s q h e := by
  unfold crow
  rw [hb]
  exact List.map_congr_left fun i hi => hq _ (by rw [List.mem_range] at hi; omega)
section
variable {n : Nat} {s : CS} {q : Nat → Nat} {h e f : Nat}
theorem clh_first (k : COk n s q h e f) {p : Nat} (hp : p < n) :
    (s.a p ≠ 4 ∧ (cstep s p).a p = 4 → ∃ R, (if s.a p = 2 then crow s q h e ++ [p] else crow s q h e) = p :: R ∧ crow (cstep s p) (cgq s p q e) (cgh s p h) (cge s p e) = R) ∧
    (¬ (s.a p ≠ 4 ∧ (cstep s p).a p = 4) → crow (cstep s p) (cgq s p q e) (cgh s p h) (cge s p e) = if s.a p = 2 then crow s q h e ++ [p] else crow s q h e) := by
  have hr := k.rng p hp
  have hoth : ∀ r, r ≠ p → (cstep s p).a r = s.a r := fun r hr => by
    unfold cstep
    repeat' split
    all_goals first | rfl | exact cup_other hr
  by_cases a2 : s.a p = 2
  · have hno : ∀ i, h ≤ i → i < e → q i ≠ p := fun i g1 g2 g3 => by have := k.ins i g1 g2; rw [g3] at this; omega
    have e1 : cgq s p q e = cup q e p := if_pos a2
    have e2 : cgh s p h = h := if_neg (by omega)
    have e3 : cge s p e = e + 1 := if_pos a2
    have hhe := k.he
    have ha : (cstep s p).a p = 3 := by
      unfold cstep; rw [if_neg (by omega), if_pos a2]; exact cup_same _ _ _
    rw [if_pos a2, e1, e2, e3]
    refine ⟨fun hn => by omega, fun _ => ?_⟩
    have hb : chb (cstep s p) (cup q e p) h (e + 1) = chb s q h e := by
      unfold chb
      by_cases g1 : h < e
      · rw [cup_other (show h ≠ e by omega), hoth _ (hno h (Nat.le_refl _) g1)]
        by_cases h6 : 4 ≤ s.a (q h)
        · rw [if_pos ⟨by omega, h6⟩, if_pos ⟨g1, h6⟩]
        · rw [if_neg (fun h => h6 h.2), if_neg (fun h => h6 h.2)]
      · have : h = e := by omega
        rw [this, cup_same, ha, if_neg (by omega), if_neg (by omega)]
    have hle : chb s q h e ≤ e := by unfold chb; split <;> omega
    unfold crow
    rw [hb, show e + 1 - chb s q h e = e - chb s q h e + 1 by omega, List.range_succ, List.map_append]
    congr 1
    · exact List.map_congr_left fun i hi => cup_other (by rw [List.mem_range] at hi; omega)
    · simp only [List.map_cons, List.map_nil]
      rw [show chb s q h e + (e - chb s q h e) = e by omega, cup_same]
  · have e1 : cgq s p q e = q := if_neg a2
    have e3 : cge s p e = e := if_neg a2
    rw [if_neg a2, e1, e3]
    by_cases h5 : s.a p = 3 ∧ s.B (s.r p) = 0
    · obtain ⟨i, g1, g2, g3⟩ := k.mem p hp (by omega)
      have hi : i = h := by
        rcases Nat.lt_or_ge h i with hi | hi
        · have h1 := (k.nx i hi g2).1
          rw [g3] at h1
          have h2 := k.low (i - 1) (by omega) (by omega)
          have h3 := k.bm _ h2
          have h4 := k.ins (i - 1) (by omega) (by omega)
          rw [← h1, h5.2] at h3
          unfold cbusy at h3
          rw [bz_more (by omega)] at h3
          omega
        · omega
      subst hi
      have ha : (cstep s p).a p = 4 := by
        unfold cstep
        rw [if_neg (by omega), if_neg (by omega), if_pos h5.1, if_pos h5.2]
        exact cup_same _ _ _
      have e2 : cgh s p i = i := if_neg (by omega)
      refine ⟨fun _ => ⟨_, ?_, rfl⟩, fun hn => absurd ⟨by omega, ha⟩ hn⟩
      have hb : chb s q i e = i := by unfold chb; rw [g3, if_neg (by omega)]
      have hb2 : chb (cstep s p) q i e = i + 1 := by unfold chb; rw [g3, if_pos ⟨g2, by omega⟩]
      rw [e2]
      unfold crow
      rw [hb, hb2, show e - i = e - (i + 1) + 1 by omega, List.range_succ_eq_map, List.map_cons, Nat.add_zero, g3, List.map_map]
      congr 1
      exact List.map_congr_left fun j _ => (show q (i + (j + 1)) = q (i + 1 + j) from congrArg q (by omega))
    · have hn6 : ¬ (s.a p ≠ 4 ∧ (cstep s p).a p = 4) := by
        intro h6
        have := h6.2
        unfold cstep at this
        by_cases a1 : s.a p = 1
        · rw [if_pos a1] at this; dsimp only at this; rw [cup_same] at this; omega
        rw [if_neg a1, if_neg a2] at this
        by_cases a3 : s.a p = 3
        · rw [if_pos a3, if_neg (fun h => h5 ⟨a3, h⟩)] at this; omega
        rw [if_neg a3, if_neg h6.1] at this
        dsimp only at this; rw [cup_same] at this; omega
      refine ⟨fun h => absurd h hn6, fun _ => ?_⟩
      by_cases a5 : s.a p = 5
      · have e2 : cgh s p h = h + 1 := if_pos a5
        have hq := k.place hp (by omega)
        rw [e2]
        refine crow_of ?_ fun _ _ => rfl
        have hb : chb s q h e = h + 1 := by unfold chb; rw [hq.2, if_pos ⟨hq.1, by omega⟩]
        rw [hb]
        unfold chb
        rw [if_neg]
        intro h6
        rw [hoth _ (fun e4 => by have := k.inj h (h + 1) (Nat.le_refl _) hq.1 (by omega) h6.1 (by rw [hq.2, e4]); omega)] at h6
        have := (k.nx (h + 1) (by omega) h6.1).2
        omega
      · have e2 : cgh s p h = h := if_neg a5
        rw [e2]
        refine crow_of ?_ fun _ _ => rfl
        unfold chb
        by_cases hlt : h < e
        · have : (4 ≤ (cstep s p).a (q h)) ↔ (4 ≤ s.a (q h)) := by
            by_cases e4 : q h = p
            · have h3 := k.ins h (Nat.le_refl _) hlt
              have hd := k.hd hlt
              have hbf := k.bf
              rw [e4] at h3 hd ⊢
              unfold cstep
              rw [if_neg (by omega), if_neg a2]
              by_cases a3 : s.a p = 3
              · exact absurd ⟨a3, by rw [hd]; exact hbf⟩ h5
              · rw [if_neg a3, if_pos (by omega)]; dsimp only; rw [cup_same]; omega
            · rw [hoth _ e4]
          by_cases h6 : 4 ≤ s.a (q h)
          · rw [if_pos ⟨hlt, this.2 h6⟩, if_pos ⟨hlt, h6⟩]
          · rw [if_neg (fun h => h6 (this.1 h.2)), if_neg (fun h => h6 h.2)]
        · rw [if_neg (fun h => hlt h.1), if_neg (fun h => hlt h.1)]
end
end Go.Proofs.Ytobfaohcadmopaa
