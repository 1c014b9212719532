/-
  The walk of latchgarthlaw1.ScSays: it answers true, whatever the program.
-/
import Derived.Test.YthpnnmkpbkbanaaDoorRefRaces
import Derived.Test.YthpnnmkpbkbanaaDoorRowsMix
import Derived.Test.YthpnnmkpbkbanaaDoorRaces
import Derived.Test.YthpnnmkpbkbanaaDoorAsAs
namespace Go.Proofs.YthpnnmkpbkbanaaDoor
open Go.RowKit

set_option maxRecDepth 100000 in
set_option maxHeartbeats 4000000 in
theorem scsays_good (words : Int) (hv : Value) (hs : List (List Ln)) (w : World) (hh : Hands w w.heap.size hv hs) (hg : ErrVar w) (hc : check words hs = 0) :
    Calls Tryd.prog 3 #[.agg #[.int .i64 words, hv]] w fun e w' => e = .returned (.bool true) ∧ Below w.heap.size w w' := by
  have HH := Lib.hid hh
  have HC := Lib.hid hc
  have HG := Lib.hid hg
  obtain ⟨A, c, rfl, hlen, _⟩ := hh
  have K0 := Lib.hid (Block.made w 24 #[.int .i64 words, .slice A hs.length c])
  have HB0 := Lib.hid ((Below.refl w.heap.size w).alloc (Nat.le_refl _) (.cells #[.int .i64 words, .slice A hs.length c] 24))
  clear hc hg
  go_enter Tryd.func3, Tryd.ntmps3
  go_wp2_with fail
  refine (refCheck_any words _ hs _ ((HH.out.below HB0.out (Nat.le_refl _)).more HB0.out.size)).mono ?_
  rintro e w1 ⟨rfl, hb1⟩
  rw [HC.out]
  have k1 := K0.out.below hb1 K0.out.lt
  have p1 := (k1.cell 0).trans rfl
  have q1 := (k1.cell 1).trans rfl
  have K1 := Lib.hid k1
  have HB1 := Lib.hid (HB0.out.trans (hb1.mono HB0.out.size))
  clear hb1 k1
  go_wp2_with fail
  refine (refres_false words _ hs w1 ((HH.out.below HB1.out (Nat.le_refl _)).more HB1.out.size) HC.out).mono ?_
  rintro e w2 ⟨v2, rfl, hr2, hb2⟩
  have HR2 := Lib.hid hr2
  obtain ⟨A2, c2, rfl, _, _⟩ := hr2
  have k2 := K1.out.below hb2 K1.out.lt
  have p2 := (k2.cell 0).trans rfl
  have q2 := (k2.cell 1).trans rfl
  have K2 := Lib.hid k2
  have HB2 := Lib.hid (HB1.out.trans (hb2.mono HB1.out.size))
  clear p1 q1
  clear hb2 k2
  go_wp2_with fail
  refine (refraces_any words _ hs w2 ((HH.out.below HB2.out (Nat.le_refl _)).more HB2.out.size) HC.out).mono ?_
  rintro e w3 ⟨rfl, hb3⟩
  have hs3 := Lib.hid hb3.size
  have HR3 := Lib.hid (RwsP.keep (P' := fun b => b < w2.heap.size) HR2.out (fun _ h => h) fun p hp => hb3.cell hp)
  obtain ⟨r, hr⟩ : ∃ r, r = scRace hs := ⟨_, rfl⟩
  rw [← hr]
  have HRC := Lib.hid hr
  clear hr
  have k3 := K2.out.below hb3 K2.out.lt
  have p3 := (k3.cell 0).trans rfl
  have q3 := (k3.cell 1).trans rfl
  have K3 := Lib.hid k3
  have HB3 := Lib.hid (HB2.out.trans (hb3.mono HB2.out.size))
  clear p2 q2 HR2
  clear hb3 k3
  go_wp2_with fail
  refine (results_any words _ hs w3 ((HH.out.below HB3.out (Nat.le_refl _)).more HB3.out.size)).mono ?_
  rintro e w4 ⟨v4, he, hl4, hb4⟩
  rw [HC.out, show errV 67 0 = .nilIface from rfl] at he
  rw [resL, if_pos HC.out] at hl4
  subst he
  have HL4 := Lib.hid hl4
  obtain ⟨A4, c4, rfl, _, _⟩ := hl4
  have hs4 := Lib.hid hb4.size
  have HR4 := Lib.hid (RwsP.keep (P' := fun b => b < w2.heap.size) HR3.out (fun _ h => h) fun p hp => hb4.cell (Nat.lt_of_lt_of_le hp hs3.out))
  have k4 := K3.out.below hb4 K3.out.lt
  have p4 := (k4.cell 0).trans rfl
  have q4 := (k4.cell 1).trans rfl
  have K4 := Lib.hid k4
  have HB4 := Lib.hid (HB3.out.trans (hb4.mono HB3.out.size))
  clear p3 q3 HR3
  clear hb4 k4
  go_wp2_with fail
  refine (errorIs_nil 0 w4).mono ?_
  rw [decide_eq_true rfl]
  rintro e w5 ⟨rfl, hb5⟩
  have HL5 := Lib.hid (HL4.out.below hb5 (Nat.le_refl _))
  have HR5 := Lib.hid (RwsP.keep (P' := fun b => b < w2.heap.size) HR4.out (fun _ h => h) fun p hp => hb5.cell (Nat.lt_of_lt_of_le hp (Nat.le_trans hs3.out hs4.out)))
  have k5 := K4.out.below hb5 K4.out.lt
  have p5 := (k5.cell 0).trans rfl
  have q5 := (k5.cell 1).trans rfl
  have K5 := Lib.hid k5
  have HB5 := Lib.hid (HB4.out.trans (hb5.mono HB4.out.size))
  clear p4 q4 HR4 HL4
  clear hb5 k5
  go_wp2_with fail
  refine (rows_mix (scR words hs) _ _ _ _ w5 HL5.out HR5.out).mono ?_
  rintro e w6 ⟨rfl, m, hw6⟩
  have hb6 : Below w5.heap.size w5 w6 := by rw [hw6]; exact below_drewN (Below.refl _ _) m
  clear hw6
  have k6 := K5.out.below hb6 K5.out.lt
  have p6 := (k6.cell 0).trans rfl
  have q6 := (k6.cell 1).trans rfl
  have K6 := Lib.hid k6
  have HB6 := Lib.hid (HB5.out.trans (hb6.mono HB5.out.size))
  clear p5 q5 HR5 HL5
  clear hb6 k6
  go_wp2_with fail
  refine (races_any words _ hs w6 ((HH.out.below HB6.out (Nat.le_refl _)).more HB6.out.size)).mono ?_
  rintro e w7 ⟨he, hb7⟩
  rw [HC.out, show errV 67 0 = .nilIface from rfl, show (decide ((0 : Int) = 0) && scRace hs) = scRace hs by simp, ← HRC.out] at he
  subst he
  have k7 := K6.out.below hb7 K6.out.lt
  have p7 := (k7.cell 0).trans rfl
  have q7 := (k7.cell 1).trans rfl
  have K7 := Lib.hid k7
  have HB7 := Lib.hid (HB6.out.trans (hb7.mono HB6.out.size))
  clear p6 q6
  clear hb7 k7
  go_wp2_with fail
  refine (errorIs_nil 0 w7).mono ?_
  rw [decide_eq_true rfl]
  rintro e w8 ⟨rfl, hb8⟩
  have k8 := K7.out.below hb8 K7.out.lt
  have p8 := (k8.cell 0).trans rfl
  have q8 := (k8.cell 1).trans rfl
  have K8 := Lib.hid k8
  have HB8 := Lib.hid (HB7.out.trans (hb8.mono HB7.out.size))
  clear p7 q7
  clear hb8 k8
  cases r
  · go_wp2
    go_ret
    exact ⟨rfl, HB8.out⟩
  · go_wp2
    go_ret
    exact ⟨rfl, HB8.out⟩

set_option maxRecDepth 100000 in
set_option maxHeartbeats 4000000 in
theorem scsays_bad (words : Int) (hv : Value) (hs : List (List Ln)) (w : World) (hh : Hands w w.heap.size hv hs) (hg : ErrVar w) (hc : check words hs ≠ 0) :
    Calls Tryd.prog 3 #[.agg #[.int .i64 words, hv]] w fun e w' => e = .returned (.bool true) ∧ Below w.heap.size w w' := by
  have HH := Lib.hid hh
  have HC := Lib.hid hc
  have HG := Lib.hid hg
  obtain ⟨A, c, rfl, hlen, _⟩ := hh
  have K0 := Lib.hid (Block.made w 24 #[.int .i64 words, .slice A hs.length c])
  have HB0 := Lib.hid ((Below.refl w.heap.size w).alloc (Nat.le_refl _) (.cells #[.int .i64 words, .slice A hs.length c] 24))
  clear hc hg
  go_enter Tryd.func3, Tryd.ntmps3
  go_wp2_with fail
  refine (refCheck_any words _ hs _ ((HH.out.below HB0.out (Nat.le_refl _)).more HB0.out.size)).mono ?_
  rintro e w1 ⟨rfl, hb1⟩
  have ec : (check words hs == 0) = false := beq_eq_false_iff_ne.2 HC.out
  have k1 := K0.out.below hb1 K0.out.lt
  have p1 := (k1.cell 0).trans rfl
  have q1 := (k1.cell 1).trans rfl
  have K1 := Lib.hid k1
  have HB1 := Lib.hid (HB0.out.trans (hb1.mono HB0.out.size))
  clear hb1 k1
  go_wp2_with fail
  refine (results_any words _ hs w1 ((HH.out.below HB1.out (Nat.le_refl _)).more HB1.out.size)).mono ?_
  rintro e w4 ⟨v4, he, hl4, hb4⟩
  rw [show errV 67 (check words hs) = .iface 67 (.int .i64 (check words hs)) from if_neg HC.out] at he
  rw [resL, if_neg HC.out] at hl4
  subst he
  have HL4 := Lib.hid hl4
  obtain ⟨A4, c4, rfl, _, _⟩ := hl4
  have k4 := K1.out.below hb4 K1.out.lt
  have p4 := (k4.cell 0).trans rfl
  have q4 := (k4.cell 1).trans rfl
  have K4 := Lib.hid k4
  have HB4 := Lib.hid (HB1.out.trans (hb4.mono HB1.out.size))
  clear p1 q1
  clear hb4 k4
  go_wp2_with fail
  refine (errorIs_err (check words hs) (check words hs) w4 (HG.out.below HB4.out HG.out.lt)).mono ?_
  rw [decide_eq_true rfl]
  rintro e w5 ⟨rfl, hb5⟩
  have HL5 := Lib.hid (HL4.out.below hb5 (Nat.le_refl _))
  have k5 := K4.out.below hb5 K4.out.lt
  have p5 := (k5.cell 0).trans rfl
  have q5 := (k5.cell 1).trans rfl
  have K5 := Lib.hid k5
  have HB5 := Lib.hid (HB4.out.trans (hb5.mono HB4.out.size))
  clear p4 q4 HL4
  clear hb5 k5
  go_wp2_with fail
  refine (rows_mix [] _ _ _ 0 w5 HL5.out ⟨none, 0, rfl, by simp, fun h => by simp at h⟩).mono ?_
  rintro e w6 ⟨rfl, m, hw6⟩
  have hb6 : Below w5.heap.size w5 w6 := by rw [hw6]; exact below_drewN (Below.refl _ _) m
  clear hw6
  have k6 := K5.out.below hb6 K5.out.lt
  have p6 := (k6.cell 0).trans rfl
  have q6 := (k6.cell 1).trans rfl
  have K6 := Lib.hid k6
  have HB6 := Lib.hid (HB5.out.trans (hb6.mono HB5.out.size))
  clear p5 q5 HL5
  clear hb6 k6
  go_wp2_with fail
  refine (races_any words _ hs w6 ((HH.out.below HB6.out (Nat.le_refl _)).more HB6.out.size)).mono ?_
  rintro e w7 ⟨he, hb7⟩
  rw [show errV 67 (check words hs) = .iface 67 (.int .i64 (check words hs)) from if_neg HC.out, show (decide (check words hs = 0) && scRace hs) = false by simp [HC.out]] at he
  subst he
  have k7 := K6.out.below hb7 K6.out.lt
  have p7 := (k7.cell 0).trans rfl
  have q7 := (k7.cell 1).trans rfl
  have K7 := Lib.hid k7
  have HB7 := Lib.hid (HB6.out.trans (hb7.mono HB6.out.size))
  clear p6 q6
  clear hb7 k7
  go_wp2_with fail
  refine (errorIs_err (check words hs) (check words hs) w7 (HG.out.below HB7.out HG.out.lt)).mono ?_
  rw [decide_eq_true rfl]
  rintro e w8 ⟨rfl, hb8⟩
  have k8 := K7.out.below hb8 K7.out.lt
  have p8 := (k8.cell 0).trans rfl
  have q8 := (k8.cell 1).trans rfl
  have K8 := Lib.hid k8
  have HB8 := Lib.hid (HB7.out.trans (hb8.mono HB7.out.size))
  clear p7 q7
  clear hb8 k8
  go_wp2
  go_ret
  exact ⟨rfl, HB8.out⟩

theorem scsays_law (words : Int) (hv : Value) (hs : List (List Ln)) (w : World) (hh : Hands w w.heap.size hv hs) (hg : ErrVar w) :
    Calls Tryd.prog 3 #[.agg #[.int .i64 words, hv]] w fun e w' => e = .returned (.bool true) ∧ Below w.heap.size w w' := by
  by_cases hc : check words hs = 0
  · exact scsays_good words hv hs w hh hg hc
  · exact scsays_bad words hv hs w hh hg hc
end Go.Proofs.YthpnnmkpbkbanaaDoor
