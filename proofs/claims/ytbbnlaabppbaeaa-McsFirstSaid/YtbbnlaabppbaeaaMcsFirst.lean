import Derived.Test.YtbbnlaabppbaeaaMcsMath
/-
  Chapter 9 as plain mathematics: the row of those who stood in line and are not yet in.
-/
namespace Go.Proofs.Ytbbnlaabppbaeaa
/-- Where those begin who are not yet in. -/
def mhb (s : QS) (q : Nat → Nat) (h e : Nat) : Nat := if h < e ∧ 6 ≤ s.a (q h) then h + 1 else h
def mrow (s : QS) (q : Nat → Nat) (h e : Nat) : List Nat := (List.range (e - mhb s q h e)).map fun i => q (mhb s q h e + i)
theorem mrow_of {s s' : QS} {q q' : Nat → Nat} {h h' e : Nat} (hb : mhb s' q' h' e = mhb s q h e) (hq : ∀ i, i < e → q' i = q i) : mrow s' q' h' e = mrow s q h e := by
  unfold mrow
  rw [hb]
  exact List.map_congr_left fun i hi => hq _ (by rw [List.mem_range] at hi; omega)
section
variable {n : Nat} {s : QS} {q : Nat → Nat} {h e : Nat}
theorem mcs_first (k : MOk n s q h e) {p : Nat} (hp : p < n) :
    (s.a p ≠ 6 ∧ (qstep s p).a p = 6 → ∃ R, (if s.a p = 2 then mrow s q h e ++ [p] else mrow s q h e) = p :: R ∧ mrow (qstep s p) (gq s p q e) (gh s p h) (ge s p e) = R) ∧
    (¬ (s.a p ≠ 6 ∧ (qstep s p).a p = 6) → mrow (qstep s p) (gq s p q e) (gh s p h) (ge s p e) = if s.a p = 2 then mrow s q h e ++ [p] else mrow s q h e) := by
  have hr := k.rng p hp
  have hoth : ∀ r, r ≠ p → (qstep s p).a r = s.a r := fun r hr => by
    unfold qstep
    repeat' split
    all_goals first | rfl | exact qup_other hr
  by_cases a2 : s.a p = 2
  · have hno : ∀ i, h ≤ i → i < e → q i ≠ p := fun i g1 g2 g3 => by have := k.ins i g1 g2; rw [g3] at this; omega
    have e1 : gq s p q e = qup q e p := if_pos a2
    have e2 : gh s p h = h := if_neg (by omega)
    have e3 : ge s p e = e + 1 := if_pos a2
    rw [if_pos a2, e1, e2, e3]
    have hhe := k.he
    rcases k.tl with ⟨g1, g2⟩ | ⟨g1, g2⟩
    · have ha : (qstep s p).a p = 6 := by
        unfold qstep; rw [if_neg (by omega), if_pos a2]; dsimp only; rw [qup_same, if_pos g2]
      have hR : mrow s q h e = [] := by unfold mrow mhb; rw [if_neg (by omega), g1, Nat.sub_self]; rfl
      refine ⟨fun _ => ⟨[], by rw [hR]; rfl, ?_⟩, fun hn => absurd ⟨by omega, ha⟩ hn⟩
      unfold mrow mhb
      rw [g1, qup_same, ha, if_pos (by omega), Nat.sub_self]; rfl
    · have ha : (qstep s p).a p = 3 := by
        unfold qstep; rw [if_neg (by omega), if_pos a2]; dsimp only; rw [qup_same, if_neg (by omega)]
      refine ⟨fun hn => by omega, fun _ => ?_⟩
      have hb : mhb (qstep s p) (qup q e p) h (e + 1) = mhb s q h e := by
        unfold mhb
        rw [qup_other (show h ≠ e by omega), hoth _ (hno h (Nat.le_refl _) g1)]
        by_cases h6 : 6 ≤ s.a (q h)
        · rw [if_pos ⟨by omega, h6⟩, if_pos ⟨g1, h6⟩]
        · rw [if_neg (fun h => h6 h.2), if_neg (fun h => h6 h.2)]
      have hle : mhb s q h e ≤ e := by unfold mhb; split <;> omega
      unfold mrow
      rw [hb, show e + 1 - mhb s q h e = e - mhb s q h e + 1 by omega, List.range_succ, List.map_append]
      congr 1
      · exact List.map_congr_left fun i hi => qup_other (by rw [List.mem_range] at hi; omega)
      · simp only [List.map_cons, List.map_nil]
        rw [show mhb s q h e + (e - mhb s q h e) = e by omega, qup_same]
  · have e1 : gq s p q e = q := if_neg a2
    have e3 : ge s p e = e := if_neg a2
    rw [if_neg a2, e1, e3]
    by_cases h5 : s.a p = 5 ∧ s.w p = 0
    · obtain ⟨i, g1, g2, g3⟩ := k.mem p hp (by omega)
      have hi : i = h := by
        rcases Nat.lt_or_ge h i with hi | hi
        · have := (k.rest i hi g2).2.1; rw [g3] at this; omega
        · omega
      subst hi
      have ha : (qstep s p).a p = 6 := by
        unfold qstep
        rw [if_neg (by omega), if_neg (by omega), if_neg (by omega), if_neg (by omega), if_pos h5.1, if_pos h5.2]
        exact qup_same _ _ _
      have e2 : gh s p i = i := if_neg (by omega)
      refine ⟨fun _ => ⟨_, ?_, rfl⟩, fun hn => absurd ⟨by omega, ha⟩ hn⟩
      have hb : mhb s q i e = i := by unfold mhb; rw [g3, if_neg (by omega)]
      have hb2 : mhb (qstep s p) q i e = i + 1 := by unfold mhb; rw [g3, if_pos ⟨g2, by omega⟩]
      rw [e2]
      unfold mrow
      rw [hb, hb2, show e - i = e - (i + 1) + 1 by omega, List.range_succ_eq_map, List.map_cons, Nat.add_zero, g3, List.map_map]
      congr 1
      exact List.map_congr_left fun j _ => (show q (i + (j + 1)) = q (i + 1 + j) from congrArg q (by omega))
    · have hn6 : ¬ (s.a p ≠ 6 ∧ (qstep s p).a p = 6) := by
        intro h6
        have := h6.2
        unfold qstep at this
        by_cases a1 : s.a p = 1
        · rw [if_pos a1] at this; dsimp only at this; rw [qup_same] at this; omega
        rw [if_neg a1, if_neg a2] at this
        by_cases a3 : s.a p = 3
        · rw [if_pos a3] at this; dsimp only at this; rw [qup_same] at this; omega
        rw [if_neg a3] at this
        by_cases a4 : s.a p = 4
        · rw [if_pos a4] at this; dsimp only at this; rw [qup_same] at this; omega
        rw [if_neg a4] at this
        by_cases a5 : s.a p = 5
        · rw [if_pos a5, if_neg (fun h => h5 ⟨a5, h⟩)] at this; omega
        rw [if_neg a5, if_neg h6.1] at this
        by_cases a7 : s.a p = 7
        · rw [if_pos a7] at this; dsimp only at this; rw [qup_same] at this; split at this <;> omega
        rw [if_neg a7] at this
        by_cases a8 : s.a p = 8
        · rw [if_pos a8] at this; split at this <;> (dsimp only at this; rw [qup_same] at this; omega)
        rw [if_neg a8] at this
        by_cases a9 : s.a p = 9
        · rw [if_pos a9] at this; dsimp only at this; rw [qup_same] at this; split at this <;> omega
        rw [if_neg a9] at this; dsimp only at this; rw [qup_same] at this; omega
      refine ⟨fun h => absurd h hn6, fun _ => ?_⟩
      by_cases hl : s.a p = 10 ∨ s.a p = 8 ∧ s.T = p + 1
      · have e2 : gh s p h = h + 1 := if_pos hl
        have hq := k.place hp (by omega)
        have k' := k.step hp
        rw [e1, e2, e3] at k'
        rw [e2]
        refine mrow_of ?_ fun _ _ => rfl
        have hb : mhb s q h e = h + 1 := by unfold mhb; rw [hq.2, if_pos ⟨hq.1, by omega⟩]
        rw [hb]
        unfold mhb
        rw [if_neg]
        intro h6
        rw [hoth _ (fun e4 => by have := k.inj h (h + 1) (Nat.le_refl _) hq.1 (by omega) h6.1 (by rw [hq.2, e4]); omega)] at h6
        have := (k.rest (h + 1) (by omega) h6.1).1
        omega
      · have e2 : gh s p h = h := if_neg hl
        rw [e2]
        refine mrow_of ?_ fun _ _ => rfl
        unfold mhb
        by_cases hlt : h < e
        · have : (6 ≤ (qstep s p).a (q h)) ↔ (6 ≤ s.a (q h)) := by
            by_cases e4 : q h = p
            · rw [e4]
              have hhd := k.head hlt
              rw [e4] at hhd
              unfold qstep
              rw [if_neg (by omega), if_neg a2, if_neg (by omega), if_neg (by omega)]
              by_cases a5 : s.a p = 5
              · omega
              rw [if_neg a5]
              by_cases a6 : s.a p = 6
              · rw [if_pos a6]; dsimp only; rw [qup_same]; omega
              rw [if_neg a6]
              by_cases a7 : s.a p = 7
              · rw [if_pos a7]; dsimp only; rw [qup_same]; split <;> omega
              rw [if_neg a7]
              by_cases a8 : s.a p = 8
              · rw [if_pos a8, if_neg (by omega)]; dsimp only; rw [qup_same]; omega
              rw [if_neg a8]
              by_cases a9 : s.a p = 9
              · rw [if_pos a9]; dsimp only; rw [qup_same]; split <;> omega
              · omega
            · rw [hoth _ e4]
          by_cases h6 : 6 ≤ s.a (q h)
          · rw [if_pos ⟨hlt, this.2 h6⟩, if_pos ⟨hlt, h6⟩]
          · rw [if_neg (fun h => h6 (this.1 h.2)), if_neg (fun h => h6 h.2)]
        · rw [if_neg (fun h => hlt h.1), if_neg (fun h => hlt h.1)]
end
end Go.Proofs.Ytbbnlaabppbaeaa
