/-
  The walk of latchgarthlaw1.TsoSays: it answers true, whatever the program.
-/
import Derived.Test.YthpnnmkpbkbanaaDoorRefRes2
import Derived.Test.YthpnnmkpbkbanaaDoorRowsMix
import Derived.Test.YthpnnmkpbkbanaaDoorTsoResults
import Derived.Test.YthpnnmkpbkbanaaDoorAsAs
namespace Go.Proofs.YthpnnmkpbkbanaaDoor
open Go.RowKit

set_option maxRecDepth 100000 in
set_option maxHeartbeats 4000000 in
theorem tsosays_good (words : Int) (hv : Value) (hs : List (List Ln)) (w : World) (hh : Hands w w.heap.size hv hs) (hg : ErrVar w) (hc : check words hs = 0) :
    Calls Tryd.prog 4 #[.agg #[.int .i64 words, hv]] w fun e w' => e = .returned (.bool true) ∧ Below w.heap.size w w' := by
  have HH := Lib.hid hh
  have HC := Lib.hid hc
  have HG := Lib.hid hg
  obtain ⟨A, c, rfl, hlen, _⟩ := hh
  have K0 := Lib.hid (Block.made w 24 #[.int .i64 words, .slice A hs.length c])
  have HB0 := Lib.hid ((Below.refl w.heap.size w).alloc (Nat.le_refl _) (.cells #[.int .i64 words, .slice A hs.length c] 24))
  clear hc hg
  go_enter Tryd.func4, Tryd.ntmps4
  go_wp2_with fail
  refine (refCheck_any words _ hs _ ((HH.out.below HB0.out (Nat.le_refl _)).more HB0.out.size)).mono ?_
  rintro e w1 ⟨rfl, hb1⟩
  rw [HC.out]
  have k1 := K0.out.below hb1 K0.out.lt
  have p1 := (k1.cell 0).trans rfl
  have q1 := (k1.cell 1).trans rfl
  have K1 := Lib.hid k1
  have HB1 := Lib.hid (HB0.out.trans (hb1.mono HB0.out.size))
  clear hb1 k1
  go_wp2_with fail
  refine (refres_true words _ hs w1 ((HH.out.below HB1.out (Nat.le_refl _)).more HB1.out.size) HC.out).mono ?_
  rintro e w2 ⟨v2, ts, rfl, hr2, hto, hb2⟩
  have HR2 := Lib.hid hr2
  have HTO := Lib.hid hto
  obtain ⟨A2, c2, rfl, _, _⟩ := hr2
  have k2 := K1.out.below hb2 K1.out.lt
  have p2 := (k2.cell 0).trans rfl
  have q2 := (k2.cell 1).trans rfl
  have K2 := Lib.hid k2
  have HB2 := Lib.hid (HB1.out.trans (hb2.mono HB1.out.size))
  clear p1 q1 hto
  clear hb2 k2
  go_wp2_with fail
  refine (tresults_good words _ hs w2 ((HH.out.below HB2.out (Nat.le_refl _)).more HB2.out.size) HC.out).mono ?_
  rintro e w4 ⟨v4, ts', rfl, hl4, hto4, hb4⟩
  obtain rfl : ts' = ts := tsoOf_ext hto4 HTO.out
  have HL4 := Lib.hid hl4
  obtain ⟨A4, c4, rfl, _, _⟩ := hl4
  have hs4 := Lib.hid hb4.size
  have HR4 := Lib.hid (RwsP.keep (P' := fun b => b < w2.heap.size) HR2.out (fun _ h => h) fun p hp => hb4.cell hp)
  have k4 := K2.out.below hb4 K2.out.lt
  have p4 := (k4.cell 0).trans rfl
  have q4 := (k4.cell 1).trans rfl
  have K4 := Lib.hid k4
  have HB4 := Lib.hid (HB2.out.trans (hb4.mono HB2.out.size))
  clear p2 q2 HR2 hto4
  clear hb4 k4
  go_wp2_with fail
  refine (errorIs_nil 0 w4).mono ?_
  rw [decide_eq_true rfl]
  rintro e w5 ⟨rfl, hb5⟩
  have HL5 := Lib.hid (HL4.out.below hb5 (Nat.le_refl _))
  have HR5 := Lib.hid (RwsP.keep (P' := fun b => b < w2.heap.size) HR4.out (fun _ h => h) fun p hp => hb5.cell (Nat.lt_of_lt_of_le hp hs4.out))
  have k5 := K4.out.below hb5 K4.out.lt
  have p5 := (k5.cell 0).trans rfl
  have q5 := (k5.cell 1).trans rfl
  have K5 := Lib.hid k5
  have HB5 := Lib.hid (HB4.out.trans (hb5.mono HB4.out.size))
  clear p4 q4 HR4 HL4
  clear hb5 k5
  go_wp2_with fail
  refine (rows_mix _ _ _ _ _ w5 HL5.out HR5.out).mono ?_
  rintro e w6 ⟨rfl, m, hw6⟩
  have hb6 : Below w5.heap.size w5 w6 := by rw [hw6]; exact below_drewN (Below.refl _ _) m
  clear hw6
  have k6 := K5.out.below hb6 K5.out.lt
  have p6 := (k6.cell 0).trans rfl
  have q6 := (k6.cell 1).trans rfl
  have K6 := Lib.hid k6
  have HB6 := Lib.hid (HB5.out.trans (hb6.mono HB5.out.size))
  clear p5 q5 HR5 HL5
  clear hb6 k6
  go_wp2
  go_ret
  exact ⟨rfl, HB6.out⟩

set_option maxRecDepth 100000 in
set_option maxHeartbeats 4000000 in
theorem tsosays_bad (words : Int) (hv : Value) (hs : List (List Ln)) (w : World) (hh : Hands w w.heap.size hv hs) (hg : ErrVar w) (hc : check words hs ≠ 0) :
    Calls Tryd.prog 4 #[.agg #[.int .i64 words, hv]] w fun e w' => e = .returned (.bool true) ∧ Below w.heap.size w w' := by
  have HH := Lib.hid hh
  have HC := Lib.hid hc
  have HG := Lib.hid hg
  obtain ⟨A, c, rfl, hlen, _⟩ := hh
  have K0 := Lib.hid (Block.made w 24 #[.int .i64 words, .slice A hs.length c])
  have HB0 := Lib.hid ((Below.refl w.heap.size w).alloc (Nat.le_refl _) (.cells #[.int .i64 words, .slice A hs.length c] 24))
  clear hc hg
  go_enter Tryd.func4, Tryd.ntmps4
  go_wp2_with fail
  refine (refCheck_any words _ hs _ ((HH.out.below HB0.out (Nat.le_refl _)).more HB0.out.size)).mono ?_
  rintro e w1 ⟨rfl, hb1⟩
  have ec : (check words hs == 0) = false := beq_eq_false_iff_ne.2 HC.out
  have k1 := K0.out.below hb1 K0.out.lt
  have p1 := (k1.cell 0).trans rfl
  have q1 := (k1.cell 1).trans rfl
  have K1 := Lib.hid k1
  have HB1 := Lib.hid (HB0.out.trans (hb1.mono HB0.out.size))
  clear hb1 k1
  go_wp2_with fail
  refine (tresults_bad words _ hs w1 ((HH.out.below HB1.out (Nat.le_refl _)).more HB1.out.size) HC.out).mono ?_
  rintro e w4 ⟨rfl, hb4⟩
  have k4 := K1.out.below hb4 K1.out.lt
  have p4 := (k4.cell 0).trans rfl
  have q4 := (k4.cell 1).trans rfl
  have K4 := Lib.hid k4
  have HB4 := Lib.hid (HB1.out.trans (hb4.mono HB1.out.size))
  clear p1 q1
  clear hb4 k4
  go_wp2_with fail
  refine (errorIs_err (check words hs) (check words hs) w4 (HG.out.below HB4.out HG.out.lt)).mono ?_
  rw [decide_eq_true rfl]
  rintro e w5 ⟨rfl, hb5⟩
  have k5 := K4.out.below hb5 K4.out.lt
  have p5 := (k5.cell 0).trans rfl
  have q5 := (k5.cell 1).trans rfl
  have K5 := Lib.hid k5
  have HB5 := Lib.hid (HB4.out.trans (hb5.mono HB4.out.size))
  clear p4 q4
  clear hb5 k5
  go_wp2_with fail
  refine (rows_mix [] _ _ 0 0 w5 ⟨none, 0, rfl, by simp, fun h => by simp at h⟩ ⟨none, 0, rfl, by simp, fun h => by simp at h⟩).mono ?_
  rintro e w6 ⟨rfl, m, hw6⟩
  have hb6 : Below w5.heap.size w5 w6 := by rw [hw6]; exact below_drewN (Below.refl _ _) m
  clear hw6
  have k6 := K5.out.below hb6 K5.out.lt
  have p6 := (k6.cell 0).trans rfl
  have q6 := (k6.cell 1).trans rfl
  have K6 := Lib.hid k6
  have HB6 := Lib.hid (HB5.out.trans (hb6.mono HB5.out.size))
  clear p5 q5
  clear hb6 k6
  go_wp2
  go_ret
  exact ⟨rfl, HB6.out⟩

theorem tsosays_law (words : Int) (hv : Value) (hs : List (List Ln)) (w : World) (hh : Hands w w.heap.size hv hs) (hg : ErrVar w) :
    Calls Tryd.prog 4 #[.agg #[.int .i64 words, hv]] w fun e w' => e = .returned (.bool true) ∧ Below w.heap.size w w' := by
  by_cases hc : check words hs = 0
  · exact tsosays_good words hv hs w hh hg hc
  · exact tsosays_bad words hv hs w hh hg hc
end Go.Proofs.YthpnnmkpbkbanaaDoor
