/-
  What latchgarthref1.done answers: a walk for each kind of line, and all of them together.
-/
import Derived.Test.YtkohobbjnafljaaDoorRefRow
import Derived.RegionTactic
namespace Go.Proofs.YtkohobbjnafljaaDoor
open Go.RowKit

set_option maxRecDepth 100000 in
set_option maxHeartbeats 2000000 in
theorem refdone_put (ys : List Int) (sv : Value) (B h n : Nat) (r : Nat) (d v : Int) (w : World) (hs : Nums w B sv ys) (hB : B ≤ w.heap.size) (hl : ys.length = 46) (hh : h ≤ 2) (hp : ys[h * 3]? = some (n : Int)) (hn : n ≤ 1000) (hr : r ≤ 1) :
    Calls Tryd.prog 23 #[sv, .int .i64 h, .agg #[.int .i64 0, .int .i64 r, .int .i64 d, .int .i64 v]] w fun e w' => ∃ g c, e = .returned (.slice (some ⟨g, 0, none⟩) 46 c) ∧ 46 ≤ c ∧ w.heap.size ≤ g ∧ g < w'.heap.size ∧ RowAt w' g ((ys.set (h * 3) (n + 1)).set (h * 3 + 1 + r) v) ∧ Below w.heap.size w w' := by
  have HS := Lib.hid hs
  have HL := Lib.hid hl
  have HP := Lib.hid hp
  have L46 := Lib.hid (show (ys.set (h * 3) ((n : Int) + 1)).length = 46 by rw [List.length_set, hl])
  obtain ⟨A, cA, rfl, hA, _⟩ := hs
  clear hl hp
  have k0 := Block.made w 50 #[.int .i64 0, .int .i64 r, .int .i64 d, .int .i64 v]
  have K0 := Lib.hid k0
  have HB0 := Lib.hid ((Below.refl w.heap.size w).alloc (Nat.le_refl _) (.cells #[.int .i64 0, .int .i64 r, .int .i64 d, .int .i64 v] 50))
  clear k0
  have i1 : (0 : Int) ≤ (h : Int) * 3 := by omega
  have i2 : (h : Int) * 3 < 46 := by omega
  have i3 : (h : Int) * 3 + 1 < 46 := by omega
  go_enter Tryd.func23, Tryd.ntmps23
  go_wp2_with fail
  refine (copied_any _ ys B _ (HS.out.keep (fun p hp => World.cell?_alloc_lt _ _ p (Nat.lt_of_lt_of_le hp hB))) (by rw [HL.out]; omega) (by rw [HL.out]; omega)).mono ?_
  rintro e w1 ⟨g, c, rfl, hc46, hg1, hg2, hr1, hb1⟩
  rw [HL.out]
  rw [HL.out] at hc46
  simp at hg1
  have HR1 := Lib.hid hr1
  have HB1 := Lib.hid (HB0.out.trans (hb1.mono (by simp)))
  have k1 : Block w1 w.heap.size 50 #[.int .i64 0, .int .i64 r, .int .i64 d, .int .i64 v] := K0.out.below hb1 (by simp)
  have p0 := (hr1 (h * 3) n HP.out).1
  have K1 := Lib.hid k1
  clear hr1 hb1 k1
  go_wp2_with (refine wpList_store_num rfl 3 (.tmp 17) (.tmp 16) rfl g (h * 3) rfl (n + 1) rfl Tin2.size ys HR1.out (Nat.lt_of_lt_of_eq (by omega) HL.out.symm) ?_; intro w2 hr2 hb2 hs2 hf2; have k2 : ∀ i, w2.cell? ⟨w.heap.size, i, none⟩ = w1.cell? ⟨w.heap.size, i, none⟩ := fun i => hf2 _ (show w.heap.size ≠ g by omega); have y0 := (k2 0).trans (K1.out.cell 0); have y1 := (k2 1).trans (K1.out.cell 1); have y2 := (k2 2).trans (K1.out.cell 2); have y3 := (k2 3).trans (K1.out.cell 3); simp at y0 y1 y2 y3; have HR2 := Lib.hid hr2; have HB2 := Lib.hid (HB1.out.trans (hb2 _ (by omega))); obtain ⟨c1, c2⟩ := HR2.out.get (i := h * 3 + 1 + r) (Nat.lt_of_lt_of_eq (by omega) L46.out.symm); have j1 : (h : Int) * 3 + 1 + r < 46 := (by omega); clear p0 k2 hr2 hb2 hf2)
  go_ret
  exact ⟨g, c, rfl, hc46, by omega, by simp [World.setCell]; omega, HR2.out.put _ _, HB2.out.setCell (by simp; omega) _⟩

set_option maxRecDepth 100000 in
set_option maxHeartbeats 2000000 in
theorem refdone_load (ys : List Int) (sv : Value) (B h n : Nat) (r d : Nat) (v : Int) (w : World) (hs : Nums w B sv ys) (hB : B ≤ w.heap.size) (hl : ys.length = 46) (hh : h ≤ 2) (hp : ys[h * 3]? = some (n : Int)) (hn : n ≤ 1000) (hr : r ≤ 1) (hd : d ≤ 3) :
    Calls Tryd.prog 23 #[sv, .int .i64 h, .agg #[.int .i64 1, .int .i64 r, .int .i64 d, .int .i64 v]] w fun e w' => ∃ g c, e = .returned (.slice (some ⟨g, 0, none⟩) 46 c) ∧ 46 ≤ c ∧ w.heap.size ≤ g ∧ g < w'.heap.size ∧ RowAt w' g ((ys.set (h * 3) (n + 1)).set (h * 3 + 1 + r) ((ys.set (h * 3) (n + 1)).getD (9 + d) 0)) ∧ Below w.heap.size w w' := by
  have HS := Lib.hid hs
  have HL := Lib.hid hl
  have HP := Lib.hid hp
  have L46 := Lib.hid (show (ys.set (h * 3) ((n : Int) + 1)).length = 46 by rw [List.length_set, hl])
  obtain ⟨A, cA, rfl, hA, _⟩ := hs
  clear hl hp
  have k0 := Block.made w 50 #[.int .i64 1, .int .i64 r, .int .i64 d, .int .i64 v]
  have K0 := Lib.hid k0
  have HB0 := Lib.hid ((Below.refl w.heap.size w).alloc (Nat.le_refl _) (.cells #[.int .i64 1, .int .i64 r, .int .i64 d, .int .i64 v] 50))
  clear k0
  have i1 : (0 : Int) ≤ (h : Int) * 3 := by omega
  have i2 : (h : Int) * 3 < 46 := by omega
  have i3 : (h : Int) * 3 + 1 < 46 := by omega
  go_enter Tryd.func23, Tryd.ntmps23
  go_wp2_with fail
  refine (copied_any _ ys B _ (HS.out.keep (fun p hp => World.cell?_alloc_lt _ _ p (Nat.lt_of_lt_of_le hp hB))) (by rw [HL.out]; omega) (by rw [HL.out]; omega)).mono ?_
  rintro e w1 ⟨g, c, rfl, hc46, hg1, hg2, hr1, hb1⟩
  rw [HL.out]
  rw [HL.out] at hc46
  simp at hg1
  have HR1 := Lib.hid hr1
  have HB1 := Lib.hid (HB0.out.trans (hb1.mono (by simp)))
  have k1 : Block w1 w.heap.size 50 #[.int .i64 1, .int .i64 r, .int .i64 d, .int .i64 v] := K0.out.below hb1 (by simp)
  have p0 := (hr1 (h * 3) n HP.out).1
  have K1 := Lib.hid k1
  clear hr1 hb1 k1
  go_wp2_with (refine wpList_store_num rfl 3 (.tmp 17) (.tmp 16) rfl g (h * 3) rfl (n + 1) rfl Tin2.size ys HR1.out (Nat.lt_of_lt_of_eq (by omega) HL.out.symm) ?_; intro w2 hr2 hb2 hs2 hf2; have k2 : ∀ i, w2.cell? ⟨w.heap.size, i, none⟩ = w1.cell? ⟨w.heap.size, i, none⟩ := fun i => hf2 _ (show w.heap.size ≠ g by omega); have y0 := (k2 0).trans (K1.out.cell 0); have y1 := (k2 1).trans (K1.out.cell 1); have y2 := (k2 2).trans (K1.out.cell 2); have y3 := (k2 3).trans (K1.out.cell 3); simp at y0 y1 y2 y3; have HR2 := Lib.hid hr2; have HB2 := Lib.hid (HB1.out.trans (hb2 _ (by omega))); obtain ⟨c1, c2⟩ := HR2.out.get (i := h * 3 + 1 + r) (Nat.lt_of_lt_of_eq (by omega) L46.out.symm); have j1 : (h : Int) * 3 + 1 + r < 46 := (by omega); obtain ⟨c3, c4⟩ := HR2.out.get (i := 9 + d) (Nat.lt_of_lt_of_eq (by omega) L46.out.symm); have j2 : (9 : Int) + d < 46 := (by omega); clear p0 k2 hr2 hb2 hf2)
  go_ret
  exact ⟨g, c, rfl, hc46, by omega, by simp [World.setCell]; omega, HR2.out.put _ _, HB2.out.setCell (by simp; omega) _⟩

set_option maxRecDepth 100000 in
set_option maxHeartbeats 2000000 in
theorem refdone_store (ys : List Int) (sv : Value) (B h n : Nat) (r d : Nat) (v : Int) (w : World) (hs : Nums w B sv ys) (hB : B ≤ w.heap.size) (hl : ys.length = 46) (hh : h ≤ 2) (hp : ys[h * 3]? = some (n : Int)) (hn : n ≤ 1000) (hr : r ≤ 1) (hd : d ≤ 3) :
    Calls Tryd.prog 23 #[sv, .int .i64 h, .agg #[.int .i64 2, .int .i64 r, .int .i64 d, .int .i64 v]] w fun e w' => ∃ g c, e = .returned (.slice (some ⟨g, 0, none⟩) 46 c) ∧ 46 ≤ c ∧ w.heap.size ≤ g ∧ g < w'.heap.size ∧ RowAt w' g ((ys.set (h * 3) (n + 1)).set (9 + d) ((ys.set (h * 3) (n + 1)).getD (h * 3 + 1 + r) 0)) ∧ Below w.heap.size w w' := by
  have HS := Lib.hid hs
  have HL := Lib.hid hl
  have HP := Lib.hid hp
  have L46 := Lib.hid (show (ys.set (h * 3) ((n : Int) + 1)).length = 46 by rw [List.length_set, hl])
  obtain ⟨A, cA, rfl, hA, _⟩ := hs
  clear hl hp
  have k0 := Block.made w 50 #[.int .i64 2, .int .i64 r, .int .i64 d, .int .i64 v]
  have K0 := Lib.hid k0
  have HB0 := Lib.hid ((Below.refl w.heap.size w).alloc (Nat.le_refl _) (.cells #[.int .i64 2, .int .i64 r, .int .i64 d, .int .i64 v] 50))
  clear k0
  have i1 : (0 : Int) ≤ (h : Int) * 3 := by omega
  have i2 : (h : Int) * 3 < 46 := by omega
  have i3 : (h : Int) * 3 + 1 < 46 := by omega
  go_enter Tryd.func23, Tryd.ntmps23
  go_wp2_with fail
  refine (copied_any _ ys B _ (HS.out.keep (fun p hp => World.cell?_alloc_lt _ _ p (Nat.lt_of_lt_of_le hp hB))) (by rw [HL.out]; omega) (by rw [HL.out]; omega)).mono ?_
  rintro e w1 ⟨g, c, rfl, hc46, hg1, hg2, hr1, hb1⟩
  rw [HL.out]
  rw [HL.out] at hc46
  simp at hg1
  have HR1 := Lib.hid hr1
  have HB1 := Lib.hid (HB0.out.trans (hb1.mono (by simp)))
  have k1 : Block w1 w.heap.size 50 #[.int .i64 2, .int .i64 r, .int .i64 d, .int .i64 v] := K0.out.below hb1 (by simp)
  have p0 := (hr1 (h * 3) n HP.out).1
  have K1 := Lib.hid k1
  clear hr1 hb1 k1
  go_wp2_with (refine wpList_store_num rfl 3 (.tmp 17) (.tmp 16) rfl g (h * 3) rfl (n + 1) rfl Tin2.size ys HR1.out (Nat.lt_of_lt_of_eq (by omega) HL.out.symm) ?_; intro w2 hr2 hb2 hs2 hf2; have k2 : ∀ i, w2.cell? ⟨w.heap.size, i, none⟩ = w1.cell? ⟨w.heap.size, i, none⟩ := fun i => hf2 _ (show w.heap.size ≠ g by omega); have y0 := (k2 0).trans (K1.out.cell 0); have y1 := (k2 1).trans (K1.out.cell 1); have y2 := (k2 2).trans (K1.out.cell 2); have y3 := (k2 3).trans (K1.out.cell 3); simp at y0 y1 y2 y3; have HR2 := Lib.hid hr2; have HB2 := Lib.hid (HB1.out.trans (hb2 _ (by omega))); obtain ⟨c1, c2⟩ := HR2.out.get (i := h * 3 + 1 + r) (Nat.lt_of_lt_of_eq (by omega) L46.out.symm); have j1 : (h : Int) * 3 + 1 + r < 46 := (by omega); obtain ⟨c3, c4⟩ := HR2.out.get (i := 9 + d) (Nat.lt_of_lt_of_eq (by omega) L46.out.symm); have j2 : (9 : Int) + d < 46 := (by omega); clear p0 k2 hr2 hb2 hf2)
  go_ret
  exact ⟨g, c, rfl, hc46, by omega, by simp [World.setCell]; omega, HR2.out.put _ _, HB2.out.setCell (by simp; omega) _⟩

set_option maxRecDepth 100000 in
set_option maxHeartbeats 2000000 in
theorem refdone_swap (ys : List Int) (sv : Value) (B h n : Nat) (r d : Nat) (v : Int) (w : World) (hs : Nums w B sv ys) (hB : B ≤ w.heap.size) (hl : ys.length = 46) (hh : h ≤ 2) (hp : ys[h * 3]? = some (n : Int)) (hn : n ≤ 1000) (hr : r ≤ 1) (hd : d ≤ 3) :
    Calls Tryd.prog 23 #[sv, .int .i64 h, .agg #[.int .i64 3, .int .i64 r, .int .i64 d, .int .i64 v]] w fun e w' => ∃ g c, e = .returned (.slice (some ⟨g, 0, none⟩) 46 c) ∧ 46 ≤ c ∧ w.heap.size ≤ g ∧ g < w'.heap.size ∧ RowAt w' g (((ys.set (h * 3) (n + 1)).set (h * 3 + 1 + r) ((ys.set (h * 3) (n + 1)).getD (9 + d) 0)).set (9 + d) ((ys.set (h * 3) (n + 1)).getD (h * 3 + 1 + r) 0)) ∧ Below w.heap.size w w' := by
  have HS := Lib.hid hs
  have HL := Lib.hid hl
  have HP := Lib.hid hp
  have L46 := Lib.hid (show (ys.set (h * 3) ((n : Int) + 1)).length = 46 by rw [List.length_set, hl])
  obtain ⟨A, cA, rfl, hA, _⟩ := hs
  clear hl hp
  have k0 := Block.made w 50 #[.int .i64 3, .int .i64 r, .int .i64 d, .int .i64 v]
  have K0 := Lib.hid k0
  have HB0 := Lib.hid ((Below.refl w.heap.size w).alloc (Nat.le_refl _) (.cells #[.int .i64 3, .int .i64 r, .int .i64 d, .int .i64 v] 50))
  clear k0
  have i1 : (0 : Int) ≤ (h : Int) * 3 := by omega
  have i2 : (h : Int) * 3 < 46 := by omega
  have i3 : (h : Int) * 3 + 1 < 46 := by omega
  go_enter Tryd.func23, Tryd.ntmps23
  go_wp2_with fail
  refine (copied_any _ ys B _ (HS.out.keep (fun p hp => World.cell?_alloc_lt _ _ p (Nat.lt_of_lt_of_le hp hB))) (by rw [HL.out]; omega) (by rw [HL.out]; omega)).mono ?_
  rintro e w1 ⟨g, c, rfl, hc46, hg1, hg2, hr1, hb1⟩
  rw [HL.out]
  rw [HL.out] at hc46
  simp at hg1
  have HR1 := Lib.hid hr1
  have HB1 := Lib.hid (HB0.out.trans (hb1.mono (by simp)))
  have k1 : Block w1 w.heap.size 50 #[.int .i64 3, .int .i64 r, .int .i64 d, .int .i64 v] := K0.out.below hb1 (by simp)
  have p0 := (hr1 (h * 3) n HP.out).1
  have K1 := Lib.hid k1
  clear hr1 hb1 k1
  go_wp2_with (refine wpList_store_num rfl 3 (.tmp 17) (.tmp 16) rfl g (h * 3) rfl (n + 1) rfl Tin2.size ys HR1.out (Nat.lt_of_lt_of_eq (by omega) HL.out.symm) ?_; intro w2 hr2 hb2 hs2 hf2; have k2 : ∀ i, w2.cell? ⟨w.heap.size, i, none⟩ = w1.cell? ⟨w.heap.size, i, none⟩ := fun i => hf2 _ (show w.heap.size ≠ g by omega); have y0 := (k2 0).trans (K1.out.cell 0); have y1 := (k2 1).trans (K1.out.cell 1); have y2 := (k2 2).trans (K1.out.cell 2); have y3 := (k2 3).trans (K1.out.cell 3); simp at y0 y1 y2 y3; have HR2 := Lib.hid hr2; have HB2 := Lib.hid (HB1.out.trans (hb2 _ (by omega))); obtain ⟨c1, c2⟩ := HR2.out.get (i := h * 3 + 1 + r) (Nat.lt_of_lt_of_eq (by omega) L46.out.symm); have j1 : (h : Int) * 3 + 1 + r < 46 := (by omega); obtain ⟨c3, c4⟩ := HR2.out.get (i := 9 + d) (Nat.lt_of_lt_of_eq (by omega) L46.out.symm); have j2 : (9 : Int) + d < 46 := (by omega); have hne : ¬ g = w.heap.size := (by omega); have hne2 : ¬ w.heap.size = g := (by omega); have hne3 : ¬ (9 + d = h * 3 + 1 + r) := (by omega); have hne4 : ¬ (h * 3 + 1 + r = 9 + d) := (by omega); clear p0 k2 hr2 hb2 hf2)
  go_ret
  exact ⟨g, c, rfl, hc46, by omega, by simp [World.setCell]; omega, RowAt.put (RowAt.put HR2.out _ _) _ _, (HB2.out.setCell (by simp; omega) _).setCell (by simp; omega) _⟩

set_option maxRecDepth 100000 in
set_option maxHeartbeats 2000000 in
theorem refdone_fence (ys : List Int) (sv : Value) (B h n : Nat) (r d v : Int) (w : World) (hs : Nums w B sv ys) (hB : B ≤ w.heap.size) (hl : ys.length = 46) (hh : h ≤ 2) (hp : ys[h * 3]? = some (n : Int)) (hn : n ≤ 1000) :
    Calls Tryd.prog 23 #[sv, .int .i64 h, .agg #[.int .i64 4, .int .i64 r, .int .i64 d, .int .i64 v]] w fun e w' => ∃ g c, e = .returned (.slice (some ⟨g, 0, none⟩) 46 c) ∧ 46 ≤ c ∧ w.heap.size ≤ g ∧ g < w'.heap.size ∧ RowAt w' g (ys.set (h * 3) (n + 1)) ∧ Below w.heap.size w w' := by
  have HS := Lib.hid hs
  have HL := Lib.hid hl
  have HP := Lib.hid hp
  have L46 := Lib.hid (show (ys.set (h * 3) ((n : Int) + 1)).length = 46 by rw [List.length_set, hl])
  obtain ⟨A, cA, rfl, hA, _⟩ := hs
  clear hl hp
  have k0 := Block.made w 50 #[.int .i64 4, .int .i64 r, .int .i64 d, .int .i64 v]
  have K0 := Lib.hid k0
  have HB0 := Lib.hid ((Below.refl w.heap.size w).alloc (Nat.le_refl _) (.cells #[.int .i64 4, .int .i64 r, .int .i64 d, .int .i64 v] 50))
  clear k0
  have i1 : (0 : Int) ≤ (h : Int) * 3 := by omega
  have i2 : (h : Int) * 3 < 46 := by omega
  have i3 : (h : Int) * 3 + 1 < 46 := by omega
  go_enter Tryd.func23, Tryd.ntmps23
  go_wp2_with fail
  refine (copied_any _ ys B _ (HS.out.keep (fun p hp => World.cell?_alloc_lt _ _ p (Nat.lt_of_lt_of_le hp hB))) (by rw [HL.out]; omega) (by rw [HL.out]; omega)).mono ?_
  rintro e w1 ⟨g, c, rfl, hc46, hg1, hg2, hr1, hb1⟩
  rw [HL.out]
  rw [HL.out] at hc46
  simp at hg1
  have HR1 := Lib.hid hr1
  have HB1 := Lib.hid (HB0.out.trans (hb1.mono (by simp)))
  have k1 : Block w1 w.heap.size 50 #[.int .i64 4, .int .i64 r, .int .i64 d, .int .i64 v] := K0.out.below hb1 (by simp)
  have p0 := (hr1 (h * 3) n HP.out).1
  have K1 := Lib.hid k1
  clear hr1 hb1 k1
  go_wp2_with (refine wpList_store_num rfl 3 (.tmp 17) (.tmp 16) rfl g (h * 3) rfl (n + 1) rfl Tin2.size ys HR1.out (Nat.lt_of_lt_of_eq (by omega) HL.out.symm) ?_; intro w2 hr2 hb2 hs2 hf2; have k2 : ∀ i, w2.cell? ⟨w.heap.size, i, none⟩ = w1.cell? ⟨w.heap.size, i, none⟩ := fun i => hf2 _ (show w.heap.size ≠ g by omega); have y0 := (k2 0).trans (K1.out.cell 0); have y1 := (k2 1).trans (K1.out.cell 1); have y2 := (k2 2).trans (K1.out.cell 2); have y3 := (k2 3).trans (K1.out.cell 3); simp at y0 y1 y2 y3; have HR2 := Lib.hid hr2; have HB2 := Lib.hid (HB1.out.trans (hb2 _ (by omega))); obtain ⟨c1, c2⟩ := HR2.out.get (i := h * 3 + 1) (Nat.lt_of_lt_of_eq (by omega) L46.out.symm); clear p0 k2 hr2 hb2 hf2)
  go_ret
  exact ⟨g, c, rfl, hc46, by omega, by omega, HR2.out, HB2.out⟩

set_option maxRecDepth 100000 in
set_option maxHeartbeats 2000000 in
theorem refdone_skip0 (ys : List Int) (sv : Value) (B h n : Nat) (r v : Nat) (d : Int) (w : World) (hs : Nums w B sv ys) (hB : B ≤ w.heap.size) (hl : ys.length = 46) (hh : h ≤ 2) (hp : ys[h * 3]? = some (n : Int)) (hn : n ≤ 1000) (hr : r ≤ 1) (hv : v ≤ 5) (hx : (ys.set (h * 3) (n + 1)).getD (h * 3 + 1 + r) 0 = 0) :
    Calls Tryd.prog 23 #[sv, .int .i64 h, .agg #[.int .i64 5, .int .i64 r, .int .i64 d, .int .i64 v]] w fun e w' => ∃ g c, e = .returned (.slice (some ⟨g, 0, none⟩) 46 c) ∧ 46 ≤ c ∧ w.heap.size ≤ g ∧ g < w'.heap.size ∧ RowAt w' g ((ys.set (h * 3) (n + 1)).set (h * 3) (n + 1 + v)) ∧ Below w.heap.size w w' := by
  have HS := Lib.hid hs
  have HL := Lib.hid hl
  have HP := Lib.hid hp
  have L46 := Lib.hid (show (ys.set (h * 3) ((n : Int) + 1)).length = 46 by rw [List.length_set, hl])
  have HX := Lib.hid hx; clear hx
  obtain ⟨A, cA, rfl, hA, _⟩ := hs
  clear hl hp
  have k0 := Block.made w 50 #[.int .i64 5, .int .i64 r, .int .i64 d, .int .i64 v]
  have K0 := Lib.hid k0
  have HB0 := Lib.hid ((Below.refl w.heap.size w).alloc (Nat.le_refl _) (.cells #[.int .i64 5, .int .i64 r, .int .i64 d, .int .i64 v] 50))
  clear k0
  have i1 : (0 : Int) ≤ (h : Int) * 3 := by omega
  have i2 : (h : Int) * 3 < 46 := by omega
  have i3 : (h : Int) * 3 + 1 < 46 := by omega
  go_enter Tryd.func23, Tryd.ntmps23
  go_wp2_with fail
  refine (copied_any _ ys B _ (HS.out.keep (fun p hp => World.cell?_alloc_lt _ _ p (Nat.lt_of_lt_of_le hp hB))) (by rw [HL.out]; omega) (by rw [HL.out]; omega)).mono ?_
  rintro e w1 ⟨g, c, rfl, hc46, hg1, hg2, hr1, hb1⟩
  rw [HL.out]
  rw [HL.out] at hc46
  simp at hg1
  have HR1 := Lib.hid hr1
  have HB1 := Lib.hid (HB0.out.trans (hb1.mono (by simp)))
  have k1 : Block w1 w.heap.size 50 #[.int .i64 5, .int .i64 r, .int .i64 d, .int .i64 v] := K0.out.below hb1 (by simp)
  have p0 := (hr1 (h * 3) n HP.out).1
  have K1 := Lib.hid k1
  clear hr1 hb1 k1
  go_wp2_with (refine wpList_store_num rfl 3 (.tmp 17) (.tmp 16) rfl g (h * 3) rfl (n + 1) rfl Tin2.size ys HR1.out (Nat.lt_of_lt_of_eq (by omega) HL.out.symm) ?_; intro w2 hr2 hb2 hs2 hf2; have k2 : ∀ i, w2.cell? ⟨w.heap.size, i, none⟩ = w1.cell? ⟨w.heap.size, i, none⟩ := fun i => hf2 _ (show w.heap.size ≠ g by omega); have y0 := (k2 0).trans (K1.out.cell 0); have y1 := (k2 1).trans (K1.out.cell 1); have y2 := (k2 2).trans (K1.out.cell 2); have y3 := (k2 3).trans (K1.out.cell 3); simp at y0 y1 y2 y3; have HR2 := Lib.hid hr2; have HB2 := Lib.hid (HB1.out.trans (hb2 _ (by omega))); obtain ⟨c1, c2⟩ := HR2.out.get (i := h * 3 + 1 + r) (Nat.lt_of_lt_of_eq (by omega) L46.out.symm); have j1 : (h : Int) * 3 + 1 + r < 46 := (by omega); rw [HX.out] at c1; obtain ⟨c3, c4⟩ := HR2.out (h * 3) ((n : Int) + 1) (List.getElem?_set_self (Nat.lt_of_lt_of_eq (by omega) HL.out.symm)); clear p0 k2 hr2 hb2 hf2)
  go_region
  go_wp2
  go_ret
  exact ⟨g, c, rfl, hc46, by omega, by simp [World.setCell]; omega, RowAt.put HR2.out _ _, (HB2.out.setCell (by simp; omega) _).drew⟩

set_option maxRecDepth 100000 in
set_option maxHeartbeats 2000000 in
theorem refdone_skip1 (ys : List Int) (sv : Value) (B h n : Nat) (r v : Nat) (d x : Int) (w : World) (hs : Nums w B sv ys) (hB : B ≤ w.heap.size) (hl : ys.length = 46) (hh : h ≤ 2) (hp : ys[h * 3]? = some (n : Int)) (hn : n ≤ 1000) (hr : r ≤ 1) (hx : (ys.set (h * 3) (n + 1)).getD (h * 3 + 1 + r) 0 = x) (hx0 : (x == 0) = false) :
    Calls Tryd.prog 23 #[sv, .int .i64 h, .agg #[.int .i64 5, .int .i64 r, .int .i64 d, .int .i64 v]] w fun e w' => ∃ g c, e = .returned (.slice (some ⟨g, 0, none⟩) 46 c) ∧ 46 ≤ c ∧ w.heap.size ≤ g ∧ g < w'.heap.size ∧ RowAt w' g (ys.set (h * 3) (n + 1)) ∧ Below w.heap.size w w' := by
  have HS := Lib.hid hs
  have HL := Lib.hid hl
  have HP := Lib.hid hp
  have L46 := Lib.hid (show (ys.set (h * 3) ((n : Int) + 1)).length = 46 by rw [List.length_set, hl])
  have HX := Lib.hid hx; clear hx
  obtain ⟨A, cA, rfl, hA, _⟩ := hs
  clear hl hp
  have k0 := Block.made w 50 #[.int .i64 5, .int .i64 r, .int .i64 d, .int .i64 v]
  have K0 := Lib.hid k0
  have HB0 := Lib.hid ((Below.refl w.heap.size w).alloc (Nat.le_refl _) (.cells #[.int .i64 5, .int .i64 r, .int .i64 d, .int .i64 v] 50))
  clear k0
  have i1 : (0 : Int) ≤ (h : Int) * 3 := by omega
  have i2 : (h : Int) * 3 < 46 := by omega
  have i3 : (h : Int) * 3 + 1 < 46 := by omega
  go_enter Tryd.func23, Tryd.ntmps23
  go_wp2_with fail
  refine (copied_any _ ys B _ (HS.out.keep (fun p hp => World.cell?_alloc_lt _ _ p (Nat.lt_of_lt_of_le hp hB))) (by rw [HL.out]; omega) (by rw [HL.out]; omega)).mono ?_
  rintro e w1 ⟨g, c, rfl, hc46, hg1, hg2, hr1, hb1⟩
  rw [HL.out]
  rw [HL.out] at hc46
  simp at hg1
  have HR1 := Lib.hid hr1
  have HB1 := Lib.hid (HB0.out.trans (hb1.mono (by simp)))
  have k1 : Block w1 w.heap.size 50 #[.int .i64 5, .int .i64 r, .int .i64 d, .int .i64 v] := K0.out.below hb1 (by simp)
  have p0 := (hr1 (h * 3) n HP.out).1
  have K1 := Lib.hid k1
  clear hr1 hb1 k1
  go_wp2_with (refine wpList_store_num rfl 3 (.tmp 17) (.tmp 16) rfl g (h * 3) rfl (n + 1) rfl Tin2.size ys HR1.out (Nat.lt_of_lt_of_eq (by omega) HL.out.symm) ?_; intro w2 hr2 hb2 hs2 hf2; have k2 : ∀ i, w2.cell? ⟨w.heap.size, i, none⟩ = w1.cell? ⟨w.heap.size, i, none⟩ := fun i => hf2 _ (show w.heap.size ≠ g by omega); have y0 := (k2 0).trans (K1.out.cell 0); have y1 := (k2 1).trans (K1.out.cell 1); have y2 := (k2 2).trans (K1.out.cell 2); have y3 := (k2 3).trans (K1.out.cell 3); simp at y0 y1 y2 y3; have HR2 := Lib.hid hr2; have HB2 := Lib.hid (HB1.out.trans (hb2 _ (by omega))); obtain ⟨c1, c2⟩ := HR2.out.get (i := h * 3 + 1 + r) (Nat.lt_of_lt_of_eq (by omega) L46.out.symm); have j1 : (h : Int) * 3 + 1 + r < 46 := (by omega); rw [HX.out] at c1; clear p0 k2 hr2 hb2 hf2)
  go_ret
  exact ⟨g, c, rfl, hc46, by omega, by omega, HR2.out, HB2.out⟩


def DonePost (w : World) (zs : List Int) (e : Ending) (w' : World) : Prop := ∃ g c, e = .returned (.slice (some ⟨g, 0, none⟩) 46 c) ∧ 46 ≤ c ∧ w.heap.size ≤ g ∧ g < w'.heap.size ∧ RowAt w' g zs ∧ Below w.heap.size w w'
theorem refdone_any (ys : List Int) (sv : Value) (B h n : Nat) (words : Int) (l : Ln) (w : World) (hs : Nums w B sv ys) (hB : B ≤ w.heap.size) (hl : ys.length = 46) (hh : h ≤ 2) (hp : ys[h * 3]? = some (n : Int)) (hn : n ≤ 20) (hw : words ≤ 4) (hok : okLn words l = true) :
    Calls Tryd.prog 23 #[sv, .int .i64 h, lnV l] w (DonePost w (refDone ys h l)) := by
  obtain ⟨k, r, d, v⟩ := l
  have hg : ys.getD (h * 3) 0 = (n : Int) := by rw [List.getD_eq_getElem?_getD, hp]; rfl
  simp only [refDone, hg]
  simp only [okLn] at hok
  have hn' : n ≤ 1000 := by omega
  by_cases k0 : k = 0
  · subst k0
    simp [inR] at hok
    obtain ⟨⟨hr1, hr2⟩, _⟩ := hok
    obtain ⟨r, rfl⟩ := Int.eq_ofNat_of_zero_le hr1
    exact refdone_put ys sv B h n r d v w hs hB hl hh hp hn' (by omega)
  by_cases k1 : k = 1
  · subst k1
    simp [inR] at hok
    obtain ⟨⟨hr1, hr2⟩, hd1, hd2⟩ := hok
    obtain ⟨r, rfl⟩ := Int.eq_ofNat_of_zero_le hr1
    obtain ⟨d, rfl⟩ := Int.eq_ofNat_of_zero_le hd1
    exact refdone_load ys sv B h n r d v w hs hB hl hh hp hn' (by omega) (by omega)
  by_cases k2 : k = 2
  · subst k2
    simp [inR] at hok
    obtain ⟨⟨hr1, hr2⟩, hd1, hd2⟩ := hok
    obtain ⟨r, rfl⟩ := Int.eq_ofNat_of_zero_le hr1
    obtain ⟨d, rfl⟩ := Int.eq_ofNat_of_zero_le hd1
    exact refdone_store ys sv B h n r d v w hs hB hl hh hp hn' (by omega) (by omega)
  by_cases k3 : k = 3
  · subst k3
    simp [inR] at hok
    obtain ⟨⟨hr1, hr2⟩, hd1, hd2⟩ := hok
    obtain ⟨r, rfl⟩ := Int.eq_ofNat_of_zero_le hr1
    obtain ⟨d, rfl⟩ := Int.eq_ofNat_of_zero_le hd1
    exact refdone_swap ys sv B h n r d v w hs hB hl hh hp hn' (by omega) (by omega)
  by_cases k5 : k = 5
  · subst k5
    simp [inR] at hok
    obtain ⟨⟨hr1, hr2⟩, hv1, hv2⟩ := hok
    obtain ⟨r, rfl⟩ := Int.eq_ofNat_of_zero_le hr1
    obtain ⟨v, rfl⟩ := Int.eq_ofNat_of_zero_le hv1
    simp only [Int.toNat_natCast, Int.reduceEq, reduceIte]
    by_cases hx : (ys.set (h * 3) ((n : Int) + 1)).getD (h * 3 + 1 + r) 0 = 0
    · rw [if_pos hx]
      exact refdone_skip0 ys sv B h n r v d w hs hB hl hh hp hn' (by omega) (by omega) hx
    · rw [if_neg hx]
      exact refdone_skip1 ys sv B h n r v d _ w hs hB hl hh hp hn' (by omega) rfl (beq_eq_false_iff_ne.2 hx)
  · have k4 : k = 4 := by simp [k0, k1, k2, k3, k5] at hok; exact hok
    subst k4
    exact refdone_fence ys sv B h n r d v w hs hB hl hh hp hn'
end Go.Proofs.YtkohobbjnafljaaDoor
