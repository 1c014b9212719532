/-
  What (prog.state).step answers: a walk for each kind of line, and all of them together.
-/
import Derived.Test.YthpnnmkpbkbanaaDoorState
import Derived.RegionTactic
namespace Go.Proofs.YthpnnmkpbkbanaaDoor
open Go.RowKit

set_option maxRecDepth 100000 in
set_option maxHeartbeats 2000000 in
theorem step_stay (zs : List Int) (words : Int) (hv : Value) (hs : List (List Ln)) (p : Nat) (ls : List Ln) (n : Nat) (w : World) (hh : Hands w w.heap.size hv hs) (hl : hs[p]? = some ls) (h3 : hs.length ≤ 3)
    (hp : zs[p * 4 + 2]? = some (n : Int)) (hz : zs.length = 16) (hnl : ls.length ≤ n) :
    Calls Tryd.prog 47 #[.agg (row zs), .agg #[.int .i64 words, hv], .int .i64 p] w fun e w' => e = .returned (.agg (row (zs))) ∧ Below w.heap.size w w' := by
  have hh0 := hh
  obtain ⟨A, c, rfl, hlen, hh⟩ := hh
  have hlt : p < hs.length := (List.getElem?_eq_some_iff.1 hl).1
  obtain ⟨b, o, rfl, hb, hc⟩ := hh (by omega)
  obtain ⟨u, hu, hL⟩ := hc p ls hl
  obtain ⟨A', c', rfl, hl2, hL⟩ := hL
  have hr1 := row_get hp
  have HSZ := Lib.hid ((row_size zs).trans hz)
  have HH := Lib.hid hh0
  have HL := Lib.hid hl
  have HP := Lib.hid hp
  clear hh hh0 hc hL hl hp hz
  have k1 : Block (((w.alloc (.cells (row zs) 63)).alloc (.cells #[.int .i64 words, .slice (some ⟨b, o, none⟩) hs.length c] 24)).alloc (.cells #[.int .i64 0, .int .i64 0, .int .i64 0, .int .i64 0, .int .i64 0, .int .i64 0, .int .i64 0, .int .i64 0, .int .i64 0, .int .i64 0, .int .i64 0, .int .i64 0, .int .i64 0, .int .i64 0, .int .i64 0, .int .i64 0] 63)) w.heap.size 63 (row zs) := ((Block.made _ _ _).alloc _).alloc _
  have K1 := Lib.hid k1
  clear k1
  go_enter Tryd.func47, Tryd.ntmps47
  go_wp2_with (first | (refine wpList_load_row rfl 63 (.tmp 3) rfl w.heap.size rfl _ (row zs) _ _ K1.out Tryd.underlying63 rfl (by rw [HSZ.out]; exact Tst.info) ?_) | fail)
  obtain ⟨W, B1, B2, B3, hW, hS, hWW⟩ : ∃ W, Block W w.heap.size 63 (row zs) ∧ Block W (w.heap.size + 1) 24 #[.int .i64 words, .slice (some ⟨b, o, none⟩) hs.length c] ∧ Block W (w.heap.size + 2) 63 #[.int .i64 0, .int .i64 0, .int .i64 0, .int .i64 0, .int .i64 0, .int .i64 0, .int .i64 0, .int .i64 0, .int .i64 0, .int .i64 0, .int .i64 0, .int .i64 0, .int .i64 0, .int .i64 0, .int .i64 0, .int .i64 0] ∧ Below w.heap.size w W ∧ W.heap.size = w.heap.size + 3 ∧ W = (((w.alloc (.cells (row zs) 63)).alloc (.cells #[.int .i64 words, .slice (some ⟨b, o, none⟩) hs.length c] 24)).alloc (.cells #[.int .i64 0, .int .i64 0, .int .i64 0, .int .i64 0, .int .i64 0, .int .i64 0, .int .i64 0, .int .i64 0, .int .i64 0, .int .i64 0, .int .i64 0, .int .i64 0, .int .i64 0, .int .i64 0, .int .i64 0, .int .i64 0] 63)) :=
    ⟨_, K1.out, (by simpa using (Block.made (w.alloc _) _ _).alloc _), (by simpa using Block.made ((w.alloc _).alloc _) _ _), (((Below.refl _ _).alloc (Nat.le_refl _) _).alloc (by simp) _).alloc (by simp; omega) _, (by simp), rfl⟩
  rw [← hWW]
  clear hWW K1
  refine (next_none zs words _ hs p ls n _ ((HH.out.below hW (Nat.le_refl _)).more (by omega)) HL.out h3 HP.out hnl).mono ?_
  rintro e V ⟨rfl, hV⟩
  have C1 : Block V w.heap.size 63 (row zs) := B1.below hV (by omega)
  have C2 := B2.below hV (by omega)
  have C3 := B3.below hV (by omega)
  have hWV : Below w.heap.size w V := hW.trans (hV.mono (by omega))
  have hVS : w.heap.size + 3 ≤ V.heap.size := by have := hV.size; omega
  have HC1 := Lib.hid (C1.alloc (.cells #[.int .i64 0, .int .i64 0, .int .i64 0, .int .i64 0] 40))
  have HC3 := Lib.hid (C3.alloc (.cells #[.int .i64 0, .int .i64 0, .int .i64 0, .int .i64 0] 40))
  clear C1 C2 C3 B1 B2 B3 hV hW hS hu
  go_wp2_with (first | (refine wpList_load_row rfl 63 (.tmp 3) rfl w.heap.size rfl _ (row zs) _ _ HC1.out Tryd.underlying63 rfl (by rw [HSZ.out]; exact Tst.info) ?_) | (refine wpList_store_row rfl 63 (.tmp 6) (.tmp 20) rfl (w.heap.size + 2) (row zs) rfl rfl _ _ HC3.out (by rw [HSZ.out]; exact Tst.info) (by rw [HSZ.out]; rfl) (row_one _) ?_))
  refine bodyPost_ret (v := .agg (row zs)) (results_cell_row rfl _ _ (w.heap.size + 2) 63 _ (0, 0) _ rfl (setRow_heap _ _ _ _ _ _ HC3.out) Tryd.underlying63 rfl (by rw [HSZ.out]; exact Tst.info)) rfl ⟨rfl, below_setRow (hWV.alloc (by omega) _) (by omega) _⟩

set_option maxRecDepth 100000 in
set_option maxHeartbeats 2000000 in
theorem step_put (zs : List Int) (words : Int) (hv : Value) (hs : List (List Ln)) (p : Nat) (ls : List Ln) (n : Nat) (w : World) (hh : Hands w w.heap.size hv hs) (hl : hs[p]? = some ls) (h3 : hs.length ≤ 3)
    (hp : zs[p * 4 + 2]? = some (n : Int)) (hz : zs.length = 16) (hnl : n < ls.length) (r : Nat) (v d : Int) (hln : ls[n]? = some ⟨0, r, d, v⟩) (hr : r ≤ 1) :
    Calls Tryd.prog 47 #[.agg (row zs), .agg #[.int .i64 words, hv], .int .i64 p] w fun e w' => e = .returned (.agg (row ((zs.set (p * 4 + 2) (n + 1)).set (p * 4 + r) v))) ∧ Below w.heap.size w w' := by
  have hh0 := hh
  obtain ⟨A, c, rfl, hlen, hh⟩ := hh
  have hlt : p < hs.length := (List.getElem?_eq_some_iff.1 hl).1
  obtain ⟨b, o, rfl, hb, hc⟩ := hh (by omega)
  obtain ⟨u, hu, hL⟩ := hc p ls hl
  obtain ⟨A', c', rfl, hl2, hL⟩ := hL
  obtain ⟨b2, o2, rfl, hb2, hc2⟩ := hL (by omega)
  obtain ⟨f0, f1, f2, f3⟩ := hc2 _ _ hln
  have hr1 := row_get hp
  have HSZ := Lib.hid ((row_size zs).trans hz)
  have HZ := Lib.hid hz
  have HH := Lib.hid hh0
  have HL := Lib.hid hl
  have HP := Lib.hid hp
  clear hh hh0 hc hL hl hp hc2 hz
  have i1 : (0 : Int) ≤ (p : Int) := by omega
  have i2 : (p : Int) < 4 := by omega
  have i3 : (p : Int) < hs.length := by omega
  have HLN := Lib.hid hln
  clear hln
  simp only at f0 f1 f2 f3
  have k1 : Block (((w.alloc (.cells (row zs) 63)).alloc (.cells #[.int .i64 words, .slice (some ⟨b, o, none⟩) hs.length c] 24)).alloc (.cells #[.int .i64 0, .int .i64 0, .int .i64 0, .int .i64 0, .int .i64 0, .int .i64 0, .int .i64 0, .int .i64 0, .int .i64 0, .int .i64 0, .int .i64 0, .int .i64 0, .int .i64 0, .int .i64 0, .int .i64 0, .int .i64 0] 63)) w.heap.size 63 (row zs) := ((Block.made _ _ _).alloc _).alloc _
  have K1 := Lib.hid k1
  clear k1
  go_enter Tryd.func47, Tryd.ntmps47
  go_wp2_with (first | (refine wpList_load_row rfl 63 (.tmp 3) rfl w.heap.size rfl _ (row zs) _ _ K1.out Tryd.underlying63 rfl (by rw [HSZ.out]; exact Tst.info) ?_) | fail)
  obtain ⟨W, B1, B2, B3, hW, hS, hWW⟩ : ∃ W, Block W w.heap.size 63 (row zs) ∧ Block W (w.heap.size + 1) 24 #[.int .i64 words, .slice (some ⟨b, o, none⟩) hs.length c] ∧ Block W (w.heap.size + 2) 63 #[.int .i64 0, .int .i64 0, .int .i64 0, .int .i64 0, .int .i64 0, .int .i64 0, .int .i64 0, .int .i64 0, .int .i64 0, .int .i64 0, .int .i64 0, .int .i64 0, .int .i64 0, .int .i64 0, .int .i64 0, .int .i64 0] ∧ Below w.heap.size w W ∧ W.heap.size = w.heap.size + 3 ∧ W = (((w.alloc (.cells (row zs) 63)).alloc (.cells #[.int .i64 words, .slice (some ⟨b, o, none⟩) hs.length c] 24)).alloc (.cells #[.int .i64 0, .int .i64 0, .int .i64 0, .int .i64 0, .int .i64 0, .int .i64 0, .int .i64 0, .int .i64 0, .int .i64 0, .int .i64 0, .int .i64 0, .int .i64 0, .int .i64 0, .int .i64 0, .int .i64 0, .int .i64 0] 63)) :=
    ⟨_, K1.out, (by simpa using (Block.made (w.alloc _) _ _).alloc _), (by simpa using Block.made ((w.alloc _).alloc _) _ _), (((Below.refl _ _).alloc (Nat.le_refl _) _).alloc (by simp) _).alloc (by simp; omega) _, (by simp), rfl⟩
  rw [← hWW]
  clear hWW K1
  refine (next_some zs words _ hs p ls n ⟨0, r, d, v⟩ _ ((HH.out.below hW (Nat.le_refl _)).more (by omega)) HL.out h3 HP.out HLN.out).mono ?_
  rintro e V ⟨rfl, hV⟩
  have C1 : Block V w.heap.size 63 (row zs) := B1.below hV (by omega)
  have C2 := B2.below hV (by omega)
  have C3 := B3.below hV (by omega)
  have hWV : Below w.heap.size w V := hW.trans (hV.mono (by omega))
  have hVS : w.heap.size + 3 ≤ V.heap.size := by have := hV.size; omega
  have HC1 := Lib.hid C1
  have HC2 := Lib.hid C2
  have HC3 := Lib.hid C3
  clear C1 C2 C3 B1 B2 B3 hV hW hS f0 f1 f2 f3
  go_wp2
  obtain ⟨X, hX⟩ : ∃ X, X = V.alloc (.cells #[.int .i64 0, .int .i64 r, .int .i64 d, .int .i64 v] 40) := ⟨_, rfl⟩
  rw [← hX]
  have E1 : Block X w.heap.size 63 (row zs) := by rw [hX]; exact HC1.out.alloc _
  have E2 : Block X (w.heap.size + 1) 24 #[.int .i64 words, .slice (some ⟨b, o, none⟩) hs.length c] := by rw [hX]; exact HC2.out.alloc _
  have E3 : Block X (w.heap.size + 2) 63 #[.int .i64 0, .int .i64 0, .int .i64 0, .int .i64 0, .int .i64 0, .int .i64 0, .int .i64 0, .int .i64 0, .int .i64 0, .int .i64 0, .int .i64 0, .int .i64 0, .int .i64 0, .int .i64 0, .int .i64 0, .int .i64 0] := by rw [hX]; exact HC3.out.alloc _
  have E4 : Block X V.heap.size 40 #[.int .i64 0, .int .i64 r, .int .i64 d, .int .i64 v] := by rw [hX]; exact Block.made _ _ _
  have hWX : Below w.heap.size w X := by rw [hX]; exact hWV.alloc (by omega) _
  have t1 := (E1.cell (p * 4 + 2)).trans hr1
  have t2 := E1.free (p * 4 + 2)
  have HE1 := Lib.hid E1
  have HE2 := Lib.hid E2
  have HE3 := Lib.hid E3
  have HE4 := Lib.hid E4
  have hn1 : (n : Int) + 1 ≤ 9223372036854775807 := by omega
  clear hX HC1 HC2 HC3 hWV E1 E2 E3 E4
  go_region
  obtain ⟨Y, hY⟩ : ∃ Y, Y = (X.setCell ⟨w.heap.size, p * 4 + 2, none⟩ (.int .i64 (n + 1))).drew := ⟨_, rfl⟩
  rw [← hY]
  have F1 : Block Y w.heap.size 63 (row (zs.set (p * 4 + 2) (n + 1))) := by rw [hY, ← row_set]; exact (HE1.out.put _ _).drew
  have hne : V.heap.size ≠ w.heap.size := by omega
  have F3 : Block Y (w.heap.size + 2) 63 #[.int .i64 0, .int .i64 0, .int .i64 0, .int .i64 0, .int .i64 0, .int .i64 0, .int .i64 0, .int .i64 0, .int .i64 0, .int .i64 0, .int .i64 0, .int .i64 0, .int .i64 0, .int .i64 0, .int .i64 0, .int .i64 0] := by rw [hY]; exact (HE3.out.far (by simp) _).drew
  have F4 : Block Y V.heap.size 40 #[.int .i64 0, .int .i64 r, .int .i64 d, .int .i64 v] := by rw [hY]; exact (HE4.out.far hne _).drew
  have hWY : Below w.heap.size w Y := by rw [hY]; exact (hWX.setCell (by simp) _).drew
  have F2 : Block Y (w.heap.size + 1) 24 #[.int .i64 words, .slice (some ⟨b, o, none⟩) hs.length c] := by rw [hY]; exact (HE2.out.far (by simp) _).drew
  have y4 := F2.cell 1
  have y5 := (hWY.cell (p := ⟨b, o + p, none⟩) hb).trans hu
  simp at y4
  have y0 := F4.cell 0
  have y1 := F4.cell 1
  have y2 := F4.cell 2
  have y3 := F4.cell 3
  simp at y0 y1 y2 y3
  have HF1 := Lib.hid F1
  have HF3 := Lib.hid F3
  clear hY HE1 HE2 HE3 HE4 t1 t2 hWX F1 F2 F3 F4 hne hu
  have a1 : ∃ x, (row (zs.set (p * 4 + 2) (n + 1)))[p * 4 + r]? = some (.int .i64 x) := row_at _ _ (by rw [List.length_set, HZ.out]; omega)
  obtain ⟨x, a1⟩ := a1
  have t1 := (HF1.out.cell (p * 4 + r)).trans a1
  have t2 := HF1.out.free (p * 4 + r)
  have j1 : (0 : Int) ≤ (r : Int) := by omega
  have j2 : (r : Int) < 4 := by omega
  go_wp2
  go_region
  clear t1 t2 a1
  obtain ⟨Z, hZ⟩ : ∃ Z, Z = (Y.setCell ⟨w.heap.size, p * 4 + r, none⟩ (.int .i64 v)).drew := ⟨_, rfl⟩
  rw [← hZ]
  have G1 : Block Z w.heap.size 63 (row ((zs.set (p * 4 + 2) (n + 1)).set (p * 4 + r) v)) := by rw [hZ, ← row_set (zs.set (p * 4 + 2) (n + 1))]; exact (HF1.out.put _ _).drew
  have G3 : Block Z (w.heap.size + 2) 63 #[.int .i64 0, .int .i64 0, .int .i64 0, .int .i64 0, .int .i64 0, .int .i64 0, .int .i64 0, .int .i64 0, .int .i64 0, .int .i64 0, .int .i64 0, .int .i64 0, .int .i64 0, .int .i64 0, .int .i64 0, .int .i64 0] := by rw [hZ]; exact (HF3.out.far (by simp) _).drew
  have hWZ : Below w.heap.size w Z := by rw [hZ]; exact (hWY.setCell (by simp) _).drew
  have HG1 := Lib.hid G1
  have HG3 := Lib.hid G3
  have HRS := Lib.hid (show (row ((zs.set (p * 4 + 2) (n + 1)).set (p * 4 + r) v)).size = 16 by rw [row_size]; simp [HZ.out])
  clear hZ HF1 HF3 G1 G3 hWY
  go_wp2_with (first | (refine wpList_load_row rfl 63 (.tmp 3) rfl w.heap.size rfl _ (row ((zs.set (p * 4 + 2) (n + 1)).set (p * 4 + r) v)) _ _ HG1.out Tryd.underlying63 rfl (by rw [HRS.out]; exact Tst.info) ?_) | (refine wpList_store_row rfl 63 (.tmp 6) (.tmp 118) rfl (w.heap.size + 2) (row ((zs.set (p * 4 + 2) (n + 1)).set (p * 4 + r) v)) rfl rfl _ _ HG3.out (by rw [HRS.out]; exact Tst.info) (by rw [HRS.out]; rfl) (row_one _) ?_))
  refine bodyPost_ret (v := .agg (row ((zs.set (p * 4 + 2) (n + 1)).set (p * 4 + r) v))) (results_cell_row rfl _ _ (w.heap.size + 2) 63 _ (0, 0) _ rfl (setRow_heap _ _ _ _ _ _ HG3.out) Tryd.underlying63 rfl (by rw [HRS.out]; exact Tst.info)) rfl ⟨rfl, below_setRow hWZ (by omega) _⟩

set_option maxRecDepth 100000 in
set_option maxHeartbeats 2000000 in
theorem step_load (zs : List Int) (words : Int) (hv : Value) (hs : List (List Ln)) (p : Nat) (ls : List Ln) (n : Nat) (w : World) (hh : Hands w w.heap.size hv hs) (hl : hs[p]? = some ls) (h3 : hs.length ≤ 3)
    (hp : zs[p * 4 + 2]? = some (n : Int)) (hz : zs.length = 16) (hnl : n < ls.length) (r d : Nat) (v x y : Int) (hln : ls[n]? = some ⟨1, r, d, v⟩) (hr : r ≤ 1) (hd : d ≤ 3) (hx : (zs.set (p * 4 + 2) (n + 1))[p * 4 + r]? = some x) (hy : (zs.set (p * 4 + 2) (n + 1))[12 + d]? = some y) :
    Calls Tryd.prog 47 #[.agg (row zs), .agg #[.int .i64 words, hv], .int .i64 p] w fun e w' => e = .returned (.agg (row ((zs.set (p * 4 + 2) (n + 1)).set (p * 4 + r) y))) ∧ Below w.heap.size w w' := by
  have hh0 := hh
  obtain ⟨A, c, rfl, hlen, hh⟩ := hh
  have hlt : p < hs.length := (List.getElem?_eq_some_iff.1 hl).1
  obtain ⟨b, o, rfl, hb, hc⟩ := hh (by omega)
  obtain ⟨u, hu, hL⟩ := hc p ls hl
  obtain ⟨A', c', rfl, hl2, hL⟩ := hL
  obtain ⟨b2, o2, rfl, hb2, hc2⟩ := hL (by omega)
  obtain ⟨f0, f1, f2, f3⟩ := hc2 _ _ hln
  have hr1 := row_get hp
  have HSZ := Lib.hid ((row_size zs).trans hz)
  have HZ := Lib.hid hz
  have HH := Lib.hid hh0
  have HL := Lib.hid hl
  have HP := Lib.hid hp
  clear hh hh0 hc hL hl hp hc2 hz
  have i1 : (0 : Int) ≤ (p : Int) := by omega
  have i2 : (p : Int) < 4 := by omega
  have i3 : (p : Int) < hs.length := by omega
  have HLN := Lib.hid hln
  clear hln
  simp only at f0 f1 f2 f3
  have k1 : Block (((w.alloc (.cells (row zs) 63)).alloc (.cells #[.int .i64 words, .slice (some ⟨b, o, none⟩) hs.length c] 24)).alloc (.cells #[.int .i64 0, .int .i64 0, .int .i64 0, .int .i64 0, .int .i64 0, .int .i64 0, .int .i64 0, .int .i64 0, .int .i64 0, .int .i64 0, .int .i64 0, .int .i64 0, .int .i64 0, .int .i64 0, .int .i64 0, .int .i64 0] 63)) w.heap.size 63 (row zs) := ((Block.made _ _ _).alloc _).alloc _
  have K1 := Lib.hid k1
  clear k1
  go_enter Tryd.func47, Tryd.ntmps47
  go_wp2_with (first | (refine wpList_load_row rfl 63 (.tmp 3) rfl w.heap.size rfl _ (row zs) _ _ K1.out Tryd.underlying63 rfl (by rw [HSZ.out]; exact Tst.info) ?_) | fail)
  obtain ⟨W, B1, B2, B3, hW, hS, hWW⟩ : ∃ W, Block W w.heap.size 63 (row zs) ∧ Block W (w.heap.size + 1) 24 #[.int .i64 words, .slice (some ⟨b, o, none⟩) hs.length c] ∧ Block W (w.heap.size + 2) 63 #[.int .i64 0, .int .i64 0, .int .i64 0, .int .i64 0, .int .i64 0, .int .i64 0, .int .i64 0, .int .i64 0, .int .i64 0, .int .i64 0, .int .i64 0, .int .i64 0, .int .i64 0, .int .i64 0, .int .i64 0, .int .i64 0] ∧ Below w.heap.size w W ∧ W.heap.size = w.heap.size + 3 ∧ W = (((w.alloc (.cells (row zs) 63)).alloc (.cells #[.int .i64 words, .slice (some ⟨b, o, none⟩) hs.length c] 24)).alloc (.cells #[.int .i64 0, .int .i64 0, .int .i64 0, .int .i64 0, .int .i64 0, .int .i64 0, .int .i64 0, .int .i64 0, .int .i64 0, .int .i64 0, .int .i64 0, .int .i64 0, .int .i64 0, .int .i64 0, .int .i64 0, .int .i64 0] 63)) :=
    ⟨_, K1.out, (by simpa using (Block.made (w.alloc _) _ _).alloc _), (by simpa using Block.made ((w.alloc _).alloc _) _ _), (((Below.refl _ _).alloc (Nat.le_refl _) _).alloc (by simp) _).alloc (by simp; omega) _, (by simp), rfl⟩
  rw [← hWW]
  clear hWW K1
  refine (next_some zs words _ hs p ls n ⟨1, r, d, v⟩ _ ((HH.out.below hW (Nat.le_refl _)).more (by omega)) HL.out h3 HP.out HLN.out).mono ?_
  rintro e V ⟨rfl, hV⟩
  have C1 : Block V w.heap.size 63 (row zs) := B1.below hV (by omega)
  have C2 := B2.below hV (by omega)
  have C3 := B3.below hV (by omega)
  have hWV : Below w.heap.size w V := hW.trans (hV.mono (by omega))
  have hVS : w.heap.size + 3 ≤ V.heap.size := by have := hV.size; omega
  have HC1 := Lib.hid C1
  have HC2 := Lib.hid C2
  have HC3 := Lib.hid C3
  clear C1 C2 C3 B1 B2 B3 hV hW hS f0 f1 f2 f3
  go_wp2
  obtain ⟨X, hX⟩ : ∃ X, X = V.alloc (.cells #[.int .i64 1, .int .i64 r, .int .i64 d, .int .i64 v] 40) := ⟨_, rfl⟩
  rw [← hX]
  have E1 : Block X w.heap.size 63 (row zs) := by rw [hX]; exact HC1.out.alloc _
  have E2 : Block X (w.heap.size + 1) 24 #[.int .i64 words, .slice (some ⟨b, o, none⟩) hs.length c] := by rw [hX]; exact HC2.out.alloc _
  have E3 : Block X (w.heap.size + 2) 63 #[.int .i64 0, .int .i64 0, .int .i64 0, .int .i64 0, .int .i64 0, .int .i64 0, .int .i64 0, .int .i64 0, .int .i64 0, .int .i64 0, .int .i64 0, .int .i64 0, .int .i64 0, .int .i64 0, .int .i64 0, .int .i64 0] := by rw [hX]; exact HC3.out.alloc _
  have E4 : Block X V.heap.size 40 #[.int .i64 1, .int .i64 r, .int .i64 d, .int .i64 v] := by rw [hX]; exact Block.made _ _ _
  have hWX : Below w.heap.size w X := by rw [hX]; exact hWV.alloc (by omega) _
  have t1 := (E1.cell (p * 4 + 2)).trans hr1
  have t2 := E1.free (p * 4 + 2)
  have HE1 := Lib.hid E1
  have HE2 := Lib.hid E2
  have HE3 := Lib.hid E3
  have HE4 := Lib.hid E4
  have hn1 : (n : Int) + 1 ≤ 9223372036854775807 := by omega
  clear hX HC1 HC2 HC3 hWV E1 E2 E3 E4
  go_region
  obtain ⟨Y, hY⟩ : ∃ Y, Y = (X.setCell ⟨w.heap.size, p * 4 + 2, none⟩ (.int .i64 (n + 1))).drew := ⟨_, rfl⟩
  rw [← hY]
  have F1 : Block Y w.heap.size 63 (row (zs.set (p * 4 + 2) (n + 1))) := by rw [hY, ← row_set]; exact (HE1.out.put _ _).drew
  have hne : V.heap.size ≠ w.heap.size := by omega
  have F3 : Block Y (w.heap.size + 2) 63 #[.int .i64 0, .int .i64 0, .int .i64 0, .int .i64 0, .int .i64 0, .int .i64 0, .int .i64 0, .int .i64 0, .int .i64 0, .int .i64 0, .int .i64 0, .int .i64 0, .int .i64 0, .int .i64 0, .int .i64 0, .int .i64 0] := by rw [hY]; exact (HE3.out.far (by simp) _).drew
  have F4 : Block Y V.heap.size 40 #[.int .i64 1, .int .i64 r, .int .i64 d, .int .i64 v] := by rw [hY]; exact (HE4.out.far hne _).drew
  have hWY : Below w.heap.size w Y := by rw [hY]; exact (hWX.setCell (by simp) _).drew
  have F2 : Block Y (w.heap.size + 1) 24 #[.int .i64 words, .slice (some ⟨b, o, none⟩) hs.length c] := by rw [hY]; exact (HE2.out.far (by simp) _).drew
  have y4 := F2.cell 1
  have y5 := (hWY.cell (p := ⟨b, o + p, none⟩) hb).trans hu
  simp at y4
  have y0 := F4.cell 0
  have y1 := F4.cell 1
  have y2 := F4.cell 2
  have y3 := F4.cell 3
  simp at y0 y1 y2 y3
  have HF1 := Lib.hid F1
  have HF3 := Lib.hid F3
  clear hY HE1 HE2 HE3 HE4 t1 t2 hWX F1 F2 F3 F4 hne hu
  have j1 : (0 : Int) ≤ (r : Int) := by omega
  have j2 : (r : Int) < 4 := by omega
  have j3 : (0 : Int) ≤ (d : Int) := by omega
  have j4 : (d : Int) < 4 := by omega
  have hne : ¬ (12 + d = p * 4 + r) := by omega
  have hne2 : ¬ (p * 4 + r = 12 + d) := by omega
  have t1 := (HF1.out.cell (p * 4 + r)).trans (row_get hx)
  have u1 := HF1.out.free (p * 4 + r)
  have t2 := (HF1.out.cell (12 + d)).trans (row_get hy)
  have u2 := HF1.out.free (12 + d)
  clear hx hy
  go_wp2
  go_region
  clear t1 t2 u1 u2
  obtain ⟨Z, hZ⟩ : ∃ Z, Z = (Y.setCell ⟨w.heap.size, p * 4 + r, none⟩ (.int .i64 y)).drew := ⟨_, rfl⟩
  rw [← hZ]
  have G1 : Block Z w.heap.size 63 (row ((zs.set (p * 4 + 2) (n + 1)).set (p * 4 + r) y)) := by rw [hZ, ← row_set (zs.set (p * 4 + 2) (n + 1))]; exact (HF1.out.put _ _).drew
  have G3 : Block Z (w.heap.size + 2) 63 #[.int .i64 0, .int .i64 0, .int .i64 0, .int .i64 0, .int .i64 0, .int .i64 0, .int .i64 0, .int .i64 0, .int .i64 0, .int .i64 0, .int .i64 0, .int .i64 0, .int .i64 0, .int .i64 0, .int .i64 0, .int .i64 0] := by rw [hZ]; exact (HF3.out.far (by simp) _).drew
  have hWZ : Below w.heap.size w Z := by rw [hZ]; exact (hWY.setCell (by simp) _).drew
  have HG1 := Lib.hid G1
  have HG3 := Lib.hid G3
  have HRS := Lib.hid (show (row ((zs.set (p * 4 + 2) (n + 1)).set (p * 4 + r) y)).size = 16 by rw [row_size]; simp [HZ.out])
  clear hZ HF1 HF3 G1 G3 hWY
  go_wp2_with (first | (refine wpList_load_row rfl 63 (.tmp 3) rfl w.heap.size rfl _ (row ((zs.set (p * 4 + 2) (n + 1)).set (p * 4 + r) y)) _ _ HG1.out Tryd.underlying63 rfl (by rw [HRS.out]; exact Tst.info) ?_) | (refine wpList_store_row rfl 63 (.tmp 6) (.tmp 118) rfl (w.heap.size + 2) (row ((zs.set (p * 4 + 2) (n + 1)).set (p * 4 + r) y)) rfl rfl _ _ HG3.out (by rw [HRS.out]; exact Tst.info) (by rw [HRS.out]; rfl) (row_one _) ?_))
  refine bodyPost_ret (v := .agg (row ((zs.set (p * 4 + 2) (n + 1)).set (p * 4 + r) y))) (results_cell_row rfl _ _ (w.heap.size + 2) 63 _ (0, 0) _ rfl (setRow_heap _ _ _ _ _ _ HG3.out) Tryd.underlying63 rfl (by rw [HRS.out]; exact Tst.info)) rfl ⟨rfl, below_setRow hWZ (by omega) _⟩

set_option maxRecDepth 100000 in
set_option maxHeartbeats 2000000 in
theorem step_store (zs : List Int) (words : Int) (hv : Value) (hs : List (List Ln)) (p : Nat) (ls : List Ln) (n : Nat) (w : World) (hh : Hands w w.heap.size hv hs) (hl : hs[p]? = some ls) (h3 : hs.length ≤ 3)
    (hp : zs[p * 4 + 2]? = some (n : Int)) (hz : zs.length = 16) (hnl : n < ls.length) (r d : Nat) (v x y : Int) (hln : ls[n]? = some ⟨2, r, d, v⟩) (hr : r ≤ 1) (hd : d ≤ 3) (hx : (zs.set (p * 4 + 2) (n + 1))[p * 4 + r]? = some x) (hy : (zs.set (p * 4 + 2) (n + 1))[12 + d]? = some y) :
    Calls Tryd.prog 47 #[.agg (row zs), .agg #[.int .i64 words, hv], .int .i64 p] w fun e w' => e = .returned (.agg (row ((zs.set (p * 4 + 2) (n + 1)).set (12 + d) x))) ∧ Below w.heap.size w w' := by
  have hh0 := hh
  obtain ⟨A, c, rfl, hlen, hh⟩ := hh
  have hlt : p < hs.length := (List.getElem?_eq_some_iff.1 hl).1
  obtain ⟨b, o, rfl, hb, hc⟩ := hh (by omega)
  obtain ⟨u, hu, hL⟩ := hc p ls hl
  obtain ⟨A', c', rfl, hl2, hL⟩ := hL
  obtain ⟨b2, o2, rfl, hb2, hc2⟩ := hL (by omega)
  obtain ⟨f0, f1, f2, f3⟩ := hc2 _ _ hln
  have hr1 := row_get hp
  have HSZ := Lib.hid ((row_size zs).trans hz)
  have HZ := Lib.hid hz
  have HH := Lib.hid hh0
  have HL := Lib.hid hl
  have HP := Lib.hid hp
  clear hh hh0 hc hL hl hp hc2 hz
  have i1 : (0 : Int) ≤ (p : Int) := by omega
  have i2 : (p : Int) < 4 := by omega
  have i3 : (p : Int) < hs.length := by omega
  have HLN := Lib.hid hln
  clear hln
  simp only at f0 f1 f2 f3
  have k1 : Block (((w.alloc (.cells (row zs) 63)).alloc (.cells #[.int .i64 words, .slice (some ⟨b, o, none⟩) hs.length c] 24)).alloc (.cells #[.int .i64 0, .int .i64 0, .int .i64 0, .int .i64 0, .int .i64 0, .int .i64 0, .int .i64 0, .int .i64 0, .int .i64 0, .int .i64 0, .int .i64 0, .int .i64 0, .int .i64 0, .int .i64 0, .int .i64 0, .int .i64 0] 63)) w.heap.size 63 (row zs) := ((Block.made _ _ _).alloc _).alloc _
  have K1 := Lib.hid k1
  clear k1
  go_enter Tryd.func47, Tryd.ntmps47
  go_wp2_with (first | (refine wpList_load_row rfl 63 (.tmp 3) rfl w.heap.size rfl _ (row zs) _ _ K1.out Tryd.underlying63 rfl (by rw [HSZ.out]; exact Tst.info) ?_) | fail)
  obtain ⟨W, B1, B2, B3, hW, hS, hWW⟩ : ∃ W, Block W w.heap.size 63 (row zs) ∧ Block W (w.heap.size + 1) 24 #[.int .i64 words, .slice (some ⟨b, o, none⟩) hs.length c] ∧ Block W (w.heap.size + 2) 63 #[.int .i64 0, .int .i64 0, .int .i64 0, .int .i64 0, .int .i64 0, .int .i64 0, .int .i64 0, .int .i64 0, .int .i64 0, .int .i64 0, .int .i64 0, .int .i64 0, .int .i64 0, .int .i64 0, .int .i64 0, .int .i64 0] ∧ Below w.heap.size w W ∧ W.heap.size = w.heap.size + 3 ∧ W = (((w.alloc (.cells (row zs) 63)).alloc (.cells #[.int .i64 words, .slice (some ⟨b, o, none⟩) hs.length c] 24)).alloc (.cells #[.int .i64 0, .int .i64 0, .int .i64 0, .int .i64 0, .int .i64 0, .int .i64 0, .int .i64 0, .int .i64 0, .int .i64 0, .int .i64 0, .int .i64 0, .int .i64 0, .int .i64 0, .int .i64 0, .int .i64 0, .int .i64 0] 63)) :=
    ⟨_, K1.out, (by simpa using (Block.made (w.alloc _) _ _).alloc _), (by simpa using Block.made ((w.alloc _).alloc _) _ _), (((Below.refl _ _).alloc (Nat.le_refl _) _).alloc (by simp) _).alloc (by simp; omega) _, (by simp), rfl⟩
  rw [← hWW]
  clear hWW K1
  refine (next_some zs words _ hs p ls n ⟨2, r, d, v⟩ _ ((HH.out.below hW (Nat.le_refl _)).more (by omega)) HL.out h3 HP.out HLN.out).mono ?_
  rintro e V ⟨rfl, hV⟩
  have C1 : Block V w.heap.size 63 (row zs) := B1.below hV (by omega)
  have C2 := B2.below hV (by omega)
  have C3 := B3.below hV (by omega)
  have hWV : Below w.heap.size w V := hW.trans (hV.mono (by omega))
  have hVS : w.heap.size + 3 ≤ V.heap.size := by have := hV.size; omega
  have HC1 := Lib.hid C1
  have HC2 := Lib.hid C2
  have HC3 := Lib.hid C3
  clear C1 C2 C3 B1 B2 B3 hV hW hS f0 f1 f2 f3
  go_wp2
  obtain ⟨X, hX⟩ : ∃ X, X = V.alloc (.cells #[.int .i64 2, .int .i64 r, .int .i64 d, .int .i64 v] 40) := ⟨_, rfl⟩
  rw [← hX]
  have E1 : Block X w.heap.size 63 (row zs) := by rw [hX]; exact HC1.out.alloc _
  have E2 : Block X (w.heap.size + 1) 24 #[.int .i64 words, .slice (some ⟨b, o, none⟩) hs.length c] := by rw [hX]; exact HC2.out.alloc _
  have E3 : Block X (w.heap.size + 2) 63 #[.int .i64 0, .int .i64 0, .int .i64 0, .int .i64 0, .int .i64 0, .int .i64 0, .int .i64 0, .int .i64 0, .int .i64 0, .int .i64 0, .int .i64 0, .int .i64 0, .int .i64 0, .int .i64 0, .int .i64 0, .int .i64 0] := by rw [hX]; exact HC3.out.alloc _
  have E4 : Block X V.heap.size 40 #[.int .i64 2, .int .i64 r, .int .i64 d, .int .i64 v] := by rw [hX]; exact Block.made _ _ _
  have hWX : Below w.heap.size w X := by rw [hX]; exact hWV.alloc (by omega) _
  have t1 := (E1.cell (p * 4 + 2)).trans hr1
  have t2 := E1.free (p * 4 + 2)
  have HE1 := Lib.hid E1
  have HE2 := Lib.hid E2
  have HE3 := Lib.hid E3
  have HE4 := Lib.hid E4
  have hn1 : (n : Int) + 1 ≤ 9223372036854775807 := by omega
  clear hX HC1 HC2 HC3 hWV E1 E2 E3 E4
  go_region
  obtain ⟨Y, hY⟩ : ∃ Y, Y = (X.setCell ⟨w.heap.size, p * 4 + 2, none⟩ (.int .i64 (n + 1))).drew := ⟨_, rfl⟩
  rw [← hY]
  have F1 : Block Y w.heap.size 63 (row (zs.set (p * 4 + 2) (n + 1))) := by rw [hY, ← row_set]; exact (HE1.out.put _ _).drew
  have hne : V.heap.size ≠ w.heap.size := by omega
  have F3 : Block Y (w.heap.size + 2) 63 #[.int .i64 0, .int .i64 0, .int .i64 0, .int .i64 0, .int .i64 0, .int .i64 0, .int .i64 0, .int .i64 0, .int .i64 0, .int .i64 0, .int .i64 0, .int .i64 0, .int .i64 0, .int .i64 0, .int .i64 0, .int .i64 0] := by rw [hY]; exact (HE3.out.far (by simp) _).drew
  have F4 : Block Y V.heap.size 40 #[.int .i64 2, .int .i64 r, .int .i64 d, .int .i64 v] := by rw [hY]; exact (HE4.out.far hne _).drew
  have hWY : Below w.heap.size w Y := by rw [hY]; exact (hWX.setCell (by simp) _).drew
  have F2 : Block Y (w.heap.size + 1) 24 #[.int .i64 words, .slice (some ⟨b, o, none⟩) hs.length c] := by rw [hY]; exact (HE2.out.far (by simp) _).drew
  have y4 := F2.cell 1
  have y5 := (hWY.cell (p := ⟨b, o + p, none⟩) hb).trans hu
  simp at y4
  have y0 := F4.cell 0
  have y1 := F4.cell 1
  have y2 := F4.cell 2
  have y3 := F4.cell 3
  simp at y0 y1 y2 y3
  have HF1 := Lib.hid F1
  have HF3 := Lib.hid F3
  clear hY HE1 HE2 HE3 HE4 t1 t2 hWX F1 F2 F3 F4 hne hu
  have j1 : (0 : Int) ≤ (r : Int) := by omega
  have j2 : (r : Int) < 4 := by omega
  have j3 : (0 : Int) ≤ (d : Int) := by omega
  have j4 : (d : Int) < 4 := by omega
  have hne : ¬ (12 + d = p * 4 + r) := by omega
  have hne2 : ¬ (p * 4 + r = 12 + d) := by omega
  have t1 := (HF1.out.cell (p * 4 + r)).trans (row_get hx)
  have u1 := HF1.out.free (p * 4 + r)
  have t2 := (HF1.out.cell (12 + d)).trans (row_get hy)
  have u2 := HF1.out.free (12 + d)
  clear hx hy
  go_wp2
  go_region
  clear t1 t2 u1 u2
  obtain ⟨Z, hZ⟩ : ∃ Z, Z = (Y.setCell ⟨w.heap.size, 12 + d, none⟩ (.int .i64 x)).drew := ⟨_, rfl⟩
  rw [← hZ]
  have G1 : Block Z w.heap.size 63 (row ((zs.set (p * 4 + 2) (n + 1)).set (12 + d) x)) := by rw [hZ, ← row_set (zs.set (p * 4 + 2) (n + 1))]; exact (HF1.out.put _ _).drew
  have G3 : Block Z (w.heap.size + 2) 63 #[.int .i64 0, .int .i64 0, .int .i64 0, .int .i64 0, .int .i64 0, .int .i64 0, .int .i64 0, .int .i64 0, .int .i64 0, .int .i64 0, .int .i64 0, .int .i64 0, .int .i64 0, .int .i64 0, .int .i64 0, .int .i64 0] := by rw [hZ]; exact (HF3.out.far (by simp) _).drew
  have hWZ : Below w.heap.size w Z := by rw [hZ]; exact (hWY.setCell (by simp) _).drew
  have HG1 := Lib.hid G1
  have HG3 := Lib.hid G3
  have HRS := Lib.hid (show (row ((zs.set (p * 4 + 2) (n + 1)).set (12 + d) x)).size = 16 by rw [row_size]; simp [HZ.out])
  clear hZ HF1 HF3 G1 G3 hWY
  go_wp2_with (first | (refine wpList_load_row rfl 63 (.tmp 3) rfl w.heap.size rfl _ (row ((zs.set (p * 4 + 2) (n + 1)).set (12 + d) x)) _ _ HG1.out Tryd.underlying63 rfl (by rw [HRS.out]; exact Tst.info) ?_) | (refine wpList_store_row rfl 63 (.tmp 6) (.tmp 118) rfl (w.heap.size + 2) (row ((zs.set (p * 4 + 2) (n + 1)).set (12 + d) x)) rfl rfl _ _ HG3.out (by rw [HRS.out]; exact Tst.info) (by rw [HRS.out]; rfl) (row_one _) ?_))
  refine bodyPost_ret (v := .agg (row ((zs.set (p * 4 + 2) (n + 1)).set (12 + d) x))) (results_cell_row rfl _ _ (w.heap.size + 2) 63 _ (0, 0) _ rfl (setRow_heap _ _ _ _ _ _ HG3.out) Tryd.underlying63 rfl (by rw [HRS.out]; exact Tst.info)) rfl ⟨rfl, below_setRow hWZ (by omega) _⟩

set_option maxRecDepth 100000 in
set_option maxHeartbeats 2000000 in
theorem step_swap (zs : List Int) (words : Int) (hv : Value) (hs : List (List Ln)) (p : Nat) (ls : List Ln) (n : Nat) (w : World) (hh : Hands w w.heap.size hv hs) (hl : hs[p]? = some ls) (h3 : hs.length ≤ 3)
    (hp : zs[p * 4 + 2]? = some (n : Int)) (hz : zs.length = 16) (hnl : n < ls.length) (r d : Nat) (v x y : Int) (hln : ls[n]? = some ⟨3, r, d, v⟩) (hr : r ≤ 1) (hd : d ≤ 3) (hx : (zs.set (p * 4 + 2) (n + 1))[p * 4 + r]? = some x) (hy : (zs.set (p * 4 + 2) (n + 1))[12 + d]? = some y) :
    Calls Tryd.prog 47 #[.agg (row zs), .agg #[.int .i64 words, hv], .int .i64 p] w fun e w' => e = .returned (.agg (row (((zs.set (p * 4 + 2) (n + 1)).set (p * 4 + r) y).set (12 + d) x))) ∧ Below w.heap.size w w' := by
  have hh0 := hh
  obtain ⟨A, c, rfl, hlen, hh⟩ := hh
  have hlt : p < hs.length := (List.getElem?_eq_some_iff.1 hl).1
  obtain ⟨b, o, rfl, hb, hc⟩ := hh (by omega)
  obtain ⟨u, hu, hL⟩ := hc p ls hl
  obtain ⟨A', c', rfl, hl2, hL⟩ := hL
  obtain ⟨b2, o2, rfl, hb2, hc2⟩ := hL (by omega)
  obtain ⟨f0, f1, f2, f3⟩ := hc2 _ _ hln
  have hr1 := row_get hp
  have HSZ := Lib.hid ((row_size zs).trans hz)
  have HZ := Lib.hid hz
  have HH := Lib.hid hh0
  have HL := Lib.hid hl
  have HP := Lib.hid hp
  clear hh hh0 hc hL hl hp hc2 hz
  have i1 : (0 : Int) ≤ (p : Int) := by omega
  have i2 : (p : Int) < 4 := by omega
  have i3 : (p : Int) < hs.length := by omega
  have HLN := Lib.hid hln
  clear hln
  simp only at f0 f1 f2 f3
  have k1 : Block (((w.alloc (.cells (row zs) 63)).alloc (.cells #[.int .i64 words, .slice (some ⟨b, o, none⟩) hs.length c] 24)).alloc (.cells #[.int .i64 0, .int .i64 0, .int .i64 0, .int .i64 0, .int .i64 0, .int .i64 0, .int .i64 0, .int .i64 0, .int .i64 0, .int .i64 0, .int .i64 0, .int .i64 0, .int .i64 0, .int .i64 0, .int .i64 0, .int .i64 0] 63)) w.heap.size 63 (row zs) := ((Block.made _ _ _).alloc _).alloc _
  have K1 := Lib.hid k1
  clear k1
  go_enter Tryd.func47, Tryd.ntmps47
  go_wp2_with (first | (refine wpList_load_row rfl 63 (.tmp 3) rfl w.heap.size rfl _ (row zs) _ _ K1.out Tryd.underlying63 rfl (by rw [HSZ.out]; exact Tst.info) ?_) | fail)
  obtain ⟨W, B1, B2, B3, hW, hS, hWW⟩ : ∃ W, Block W w.heap.size 63 (row zs) ∧ Block W (w.heap.size + 1) 24 #[.int .i64 words, .slice (some ⟨b, o, none⟩) hs.length c] ∧ Block W (w.heap.size + 2) 63 #[.int .i64 0, .int .i64 0, .int .i64 0, .int .i64 0, .int .i64 0, .int .i64 0, .int .i64 0, .int .i64 0, .int .i64 0, .int .i64 0, .int .i64 0, .int .i64 0, .int .i64 0, .int .i64 0, .int .i64 0, .int .i64 0] ∧ Below w.heap.size w W ∧ W.heap.size = w.heap.size + 3 ∧ W = (((w.alloc (.cells (row zs) 63)).alloc (.cells #[.int .i64 words, .slice (some ⟨b, o, none⟩) hs.length c] 24)).alloc (.cells #[.int .i64 0, .int .i64 0, .int .i64 0, .int .i64 0, .int .i64 0, .int .i64 0, .int .i64 0, .int .i64 0, .int .i64 0, .int .i64 0, .int .i64 0, .int .i64 0, .int .i64 0, .int .i64 0, .int .i64 0, .int .i64 0] 63)) :=
    ⟨_, K1.out, (by simpa using (Block.made (w.alloc _) _ _).alloc _), (by simpa using Block.made ((w.alloc _).alloc _) _ _), (((Below.refl _ _).alloc (Nat.le_refl _) _).alloc (by simp) _).alloc (by simp; omega) _, (by simp), rfl⟩
  rw [← hWW]
  clear hWW K1
  refine (next_some zs words _ hs p ls n ⟨3, r, d, v⟩ _ ((HH.out.below hW (Nat.le_refl _)).more (by omega)) HL.out h3 HP.out HLN.out).mono ?_
  rintro e V ⟨rfl, hV⟩
  have C1 : Block V w.heap.size 63 (row zs) := B1.below hV (by omega)
  have C2 := B2.below hV (by omega)
  have C3 := B3.below hV (by omega)
  have hWV : Below w.heap.size w V := hW.trans (hV.mono (by omega))
  have hVS : w.heap.size + 3 ≤ V.heap.size := by have := hV.size; omega
  have HC1 := Lib.hid C1
  have HC2 := Lib.hid C2
  have HC3 := Lib.hid C3
  clear C1 C2 C3 B1 B2 B3 hV hW hS f0 f1 f2 f3
  go_wp2
  obtain ⟨X, hX⟩ : ∃ X, X = V.alloc (.cells #[.int .i64 3, .int .i64 r, .int .i64 d, .int .i64 v] 40) := ⟨_, rfl⟩
  rw [← hX]
  have E1 : Block X w.heap.size 63 (row zs) := by rw [hX]; exact HC1.out.alloc _
  have E2 : Block X (w.heap.size + 1) 24 #[.int .i64 words, .slice (some ⟨b, o, none⟩) hs.length c] := by rw [hX]; exact HC2.out.alloc _
  have E3 : Block X (w.heap.size + 2) 63 #[.int .i64 0, .int .i64 0, .int .i64 0, .int .i64 0, .int .i64 0, .int .i64 0, .int .i64 0, .int .i64 0, .int .i64 0, .int .i64 0, .int .i64 0, .int .i64 0, .int .i64 0, .int .i64 0, .int .i64 0, .int .i64 0] := by rw [hX]; exact HC3.out.alloc _
  have E4 : Block X V.heap.size 40 #[.int .i64 3, .int .i64 r, .int .i64 d, .int .i64 v] := by rw [hX]; exact Block.made _ _ _
  have hWX : Below w.heap.size w X := by rw [hX]; exact hWV.alloc (by omega) _
  have t1 := (E1.cell (p * 4 + 2)).trans hr1
  have t2 := E1.free (p * 4 + 2)
  have HE1 := Lib.hid E1
  have HE2 := Lib.hid E2
  have HE3 := Lib.hid E3
  have HE4 := Lib.hid E4
  have hn1 : (n : Int) + 1 ≤ 9223372036854775807 := by omega
  clear hX HC1 HC2 HC3 hWV E1 E2 E3 E4
  go_region
  obtain ⟨Y, hY⟩ : ∃ Y, Y = (X.setCell ⟨w.heap.size, p * 4 + 2, none⟩ (.int .i64 (n + 1))).drew := ⟨_, rfl⟩
  rw [← hY]
  have F1 : Block Y w.heap.size 63 (row (zs.set (p * 4 + 2) (n + 1))) := by rw [hY, ← row_set]; exact (HE1.out.put _ _).drew
  have hne : V.heap.size ≠ w.heap.size := by omega
  have F3 : Block Y (w.heap.size + 2) 63 #[.int .i64 0, .int .i64 0, .int .i64 0, .int .i64 0, .int .i64 0, .int .i64 0, .int .i64 0, .int .i64 0, .int .i64 0, .int .i64 0, .int .i64 0, .int .i64 0, .int .i64 0, .int .i64 0, .int .i64 0, .int .i64 0] := by rw [hY]; exact (HE3.out.far (by simp) _).drew
  have F4 : Block Y V.heap.size 40 #[.int .i64 3, .int .i64 r, .int .i64 d, .int .i64 v] := by rw [hY]; exact (HE4.out.far hne _).drew
  have hWY : Below w.heap.size w Y := by rw [hY]; exact (hWX.setCell (by simp) _).drew
  have F2 : Block Y (w.heap.size + 1) 24 #[.int .i64 words, .slice (some ⟨b, o, none⟩) hs.length c] := by rw [hY]; exact (HE2.out.far (by simp) _).drew
  have y4 := F2.cell 1
  have y5 := (hWY.cell (p := ⟨b, o + p, none⟩) hb).trans hu
  simp at y4
  have y0 := F4.cell 0
  have y1 := F4.cell 1
  have y2 := F4.cell 2
  have y3 := F4.cell 3
  simp at y0 y1 y2 y3
  have HF1 := Lib.hid F1
  have HF3 := Lib.hid F3
  clear hY HE1 HE2 HE3 HE4 t1 t2 hWX F1 F2 F3 F4 hne hu
  have j1 : (0 : Int) ≤ (r : Int) := by omega
  have j2 : (r : Int) < 4 := by omega
  have j3 : (0 : Int) ≤ (d : Int) := by omega
  have j4 : (d : Int) < 4 := by omega
  have hne : ¬ (12 + d = p * 4 + r) := by omega
  have hne2 : ¬ (p * 4 + r = 12 + d) := by omega
  have t1 := (HF1.out.cell (p * 4 + r)).trans (row_get hx)
  have u1 := HF1.out.free (p * 4 + r)
  have t2 := (HF1.out.cell (12 + d)).trans (row_get hy)
  have u2 := HF1.out.free (12 + d)
  clear hx hy
  go_wp2
  go_region
  clear t1 t2 u1 u2
  obtain ⟨Z, hZ⟩ : ∃ Z, Z = ((Y.setCell ⟨w.heap.size, p * 4 + r, none⟩ (.int .i64 y)).setCell ⟨w.heap.size, 12 + d, none⟩ (.int .i64 x)).drew := ⟨_, rfl⟩
  rw [← hZ]
  have G1 : Block Z w.heap.size 63 (row (((zs.set (p * 4 + 2) (n + 1)).set (p * 4 + r) y).set (12 + d) x)) := by rw [hZ, ← row_set ((zs.set (p * 4 + 2) (n + 1)).set (p * 4 + r) y), ← row_set (zs.set (p * 4 + 2) (n + 1))]; exact ((HF1.out.put _ _).put _ _).drew
  have G3 : Block Z (w.heap.size + 2) 63 #[.int .i64 0, .int .i64 0, .int .i64 0, .int .i64 0, .int .i64 0, .int .i64 0, .int .i64 0, .int .i64 0, .int .i64 0, .int .i64 0, .int .i64 0, .int .i64 0, .int .i64 0, .int .i64 0, .int .i64 0, .int .i64 0] := by rw [hZ]; exact ((HF3.out.far (by simp) _).far (by simp) _).drew
  have hWZ : Below w.heap.size w Z := by rw [hZ]; exact ((hWY.setCell (by simp) _).setCell (by simp) _).drew
  have HG1 := Lib.hid G1
  have HG3 := Lib.hid G3
  have HRS := Lib.hid (show (row (((zs.set (p * 4 + 2) (n + 1)).set (p * 4 + r) y).set (12 + d) x)).size = 16 by rw [row_size]; simp [HZ.out])
  clear hZ HF1 HF3 G1 G3 hWY
  go_wp2_with (first | (refine wpList_load_row rfl 63 (.tmp 3) rfl w.heap.size rfl _ (row (((zs.set (p * 4 + 2) (n + 1)).set (p * 4 + r) y).set (12 + d) x)) _ _ HG1.out Tryd.underlying63 rfl (by rw [HRS.out]; exact Tst.info) ?_) | (refine wpList_store_row rfl 63 (.tmp 6) (.tmp 118) rfl (w.heap.size + 2) (row (((zs.set (p * 4 + 2) (n + 1)).set (p * 4 + r) y).set (12 + d) x)) rfl rfl _ _ HG3.out (by rw [HRS.out]; exact Tst.info) (by rw [HRS.out]; rfl) (row_one _) ?_))
  refine bodyPost_ret (v := .agg (row (((zs.set (p * 4 + 2) (n + 1)).set (p * 4 + r) y).set (12 + d) x))) (results_cell_row rfl _ _ (w.heap.size + 2) 63 _ (0, 0) _ rfl (setRow_heap _ _ _ _ _ _ HG3.out) Tryd.underlying63 rfl (by rw [HRS.out]; exact Tst.info)) rfl ⟨rfl, below_setRow hWZ (by omega) _⟩

set_option maxRecDepth 100000 in
set_option maxHeartbeats 2000000 in
theorem step_fence (zs : List Int) (words : Int) (hv : Value) (hs : List (List Ln)) (p : Nat) (ls : List Ln) (n : Nat) (w : World) (hh : Hands w w.heap.size hv hs) (hl : hs[p]? = some ls) (h3 : hs.length ≤ 3)
    (hp : zs[p * 4 + 2]? = some (n : Int)) (hz : zs.length = 16) (hnl : n < ls.length) (r d v : Int) (hln : ls[n]? = some ⟨4, r, d, v⟩) :
    Calls Tryd.prog 47 #[.agg (row zs), .agg #[.int .i64 words, hv], .int .i64 p] w fun e w' => e = .returned (.agg (row (zs.set (p * 4 + 2) (n + 1)))) ∧ Below w.heap.size w w' := by
  have hh0 := hh
  obtain ⟨A, c, rfl, hlen, hh⟩ := hh
  have hlt : p < hs.length := (List.getElem?_eq_some_iff.1 hl).1
  obtain ⟨b, o, rfl, hb, hc⟩ := hh (by omega)
  obtain ⟨u, hu, hL⟩ := hc p ls hl
  obtain ⟨A', c', rfl, hl2, hL⟩ := hL
  obtain ⟨b2, o2, rfl, hb2, hc2⟩ := hL (by omega)
  obtain ⟨f0, f1, f2, f3⟩ := hc2 _ _ hln
  have hr1 := row_get hp
  have HSZ := Lib.hid ((row_size zs).trans hz)
  have HZ := Lib.hid hz
  have HH := Lib.hid hh0
  have HL := Lib.hid hl
  have HP := Lib.hid hp
  clear hh hh0 hc hL hl hp hc2 hz
  have i1 : (0 : Int) ≤ (p : Int) := by omega
  have i2 : (p : Int) < 4 := by omega
  have i3 : (p : Int) < hs.length := by omega
  have HLN := Lib.hid hln
  clear hln
  simp only at f0 f1 f2 f3
  have k1 : Block (((w.alloc (.cells (row zs) 63)).alloc (.cells #[.int .i64 words, .slice (some ⟨b, o, none⟩) hs.length c] 24)).alloc (.cells #[.int .i64 0, .int .i64 0, .int .i64 0, .int .i64 0, .int .i64 0, .int .i64 0, .int .i64 0, .int .i64 0, .int .i64 0, .int .i64 0, .int .i64 0, .int .i64 0, .int .i64 0, .int .i64 0, .int .i64 0, .int .i64 0] 63)) w.heap.size 63 (row zs) := ((Block.made _ _ _).alloc _).alloc _
  have K1 := Lib.hid k1
  clear k1
  go_enter Tryd.func47, Tryd.ntmps47
  go_wp2_with (first | (refine wpList_load_row rfl 63 (.tmp 3) rfl w.heap.size rfl _ (row zs) _ _ K1.out Tryd.underlying63 rfl (by rw [HSZ.out]; exact Tst.info) ?_) | fail)
  obtain ⟨W, B1, B2, B3, hW, hS, hWW⟩ : ∃ W, Block W w.heap.size 63 (row zs) ∧ Block W (w.heap.size + 1) 24 #[.int .i64 words, .slice (some ⟨b, o, none⟩) hs.length c] ∧ Block W (w.heap.size + 2) 63 #[.int .i64 0, .int .i64 0, .int .i64 0, .int .i64 0, .int .i64 0, .int .i64 0, .int .i64 0, .int .i64 0, .int .i64 0, .int .i64 0, .int .i64 0, .int .i64 0, .int .i64 0, .int .i64 0, .int .i64 0, .int .i64 0] ∧ Below w.heap.size w W ∧ W.heap.size = w.heap.size + 3 ∧ W = (((w.alloc (.cells (row zs) 63)).alloc (.cells #[.int .i64 words, .slice (some ⟨b, o, none⟩) hs.length c] 24)).alloc (.cells #[.int .i64 0, .int .i64 0, .int .i64 0, .int .i64 0, .int .i64 0, .int .i64 0, .int .i64 0, .int .i64 0, .int .i64 0, .int .i64 0, .int .i64 0, .int .i64 0, .int .i64 0, .int .i64 0, .int .i64 0, .int .i64 0] 63)) :=
    ⟨_, K1.out, (by simpa using (Block.made (w.alloc _) _ _).alloc _), (by simpa using Block.made ((w.alloc _).alloc _) _ _), (((Below.refl _ _).alloc (Nat.le_refl _) _).alloc (by simp) _).alloc (by simp; omega) _, (by simp), rfl⟩
  rw [← hWW]
  clear hWW K1
  refine (next_some zs words _ hs p ls n ⟨4, r, d, v⟩ _ ((HH.out.below hW (Nat.le_refl _)).more (by omega)) HL.out h3 HP.out HLN.out).mono ?_
  rintro e V ⟨rfl, hV⟩
  have C1 : Block V w.heap.size 63 (row zs) := B1.below hV (by omega)
  have C2 := B2.below hV (by omega)
  have C3 := B3.below hV (by omega)
  have hWV : Below w.heap.size w V := hW.trans (hV.mono (by omega))
  have hVS : w.heap.size + 3 ≤ V.heap.size := by have := hV.size; omega
  have HC1 := Lib.hid C1
  have HC2 := Lib.hid C2
  have HC3 := Lib.hid C3
  clear C1 C2 C3 B1 B2 B3 hV hW hS f0 f1 f2 f3
  go_wp2
  obtain ⟨X, hX⟩ : ∃ X, X = V.alloc (.cells #[.int .i64 4, .int .i64 r, .int .i64 d, .int .i64 v] 40) := ⟨_, rfl⟩
  rw [← hX]
  have E1 : Block X w.heap.size 63 (row zs) := by rw [hX]; exact HC1.out.alloc _
  have E2 : Block X (w.heap.size + 1) 24 #[.int .i64 words, .slice (some ⟨b, o, none⟩) hs.length c] := by rw [hX]; exact HC2.out.alloc _
  have E3 : Block X (w.heap.size + 2) 63 #[.int .i64 0, .int .i64 0, .int .i64 0, .int .i64 0, .int .i64 0, .int .i64 0, .int .i64 0, .int .i64 0, .int .i64 0, .int .i64 0, .int .i64 0, .int .i64 0, .int .i64 0, .int .i64 0, .int .i64 0, .int .i64 0] := by rw [hX]; exact HC3.out.alloc _
  have E4 : Block X V.heap.size 40 #[.int .i64 4, .int .i64 r, .int .i64 d, .int .i64 v] := by rw [hX]; exact Block.made _ _ _
  have hWX : Below w.heap.size w X := by rw [hX]; exact hWV.alloc (by omega) _
  have t1 := (E1.cell (p * 4 + 2)).trans hr1
  have t2 := E1.free (p * 4 + 2)
  have HE1 := Lib.hid E1
  have HE2 := Lib.hid E2
  have HE3 := Lib.hid E3
  have HE4 := Lib.hid E4
  have hn1 : (n : Int) + 1 ≤ 9223372036854775807 := by omega
  clear hX HC1 HC2 HC3 hWV E1 E2 E3 E4
  go_region
  obtain ⟨Y, hY⟩ : ∃ Y, Y = (X.setCell ⟨w.heap.size, p * 4 + 2, none⟩ (.int .i64 (n + 1))).drew := ⟨_, rfl⟩
  rw [← hY]
  have F1 : Block Y w.heap.size 63 (row (zs.set (p * 4 + 2) (n + 1))) := by rw [hY, ← row_set]; exact (HE1.out.put _ _).drew
  have hne : V.heap.size ≠ w.heap.size := by omega
  have F3 : Block Y (w.heap.size + 2) 63 #[.int .i64 0, .int .i64 0, .int .i64 0, .int .i64 0, .int .i64 0, .int .i64 0, .int .i64 0, .int .i64 0, .int .i64 0, .int .i64 0, .int .i64 0, .int .i64 0, .int .i64 0, .int .i64 0, .int .i64 0, .int .i64 0] := by rw [hY]; exact (HE3.out.far (by simp) _).drew
  have F4 : Block Y V.heap.size 40 #[.int .i64 4, .int .i64 r, .int .i64 d, .int .i64 v] := by rw [hY]; exact (HE4.out.far hne _).drew
  have hWY : Below w.heap.size w Y := by rw [hY]; exact (hWX.setCell (by simp) _).drew
  have F2 : Block Y (w.heap.size + 1) 24 #[.int .i64 words, .slice (some ⟨b, o, none⟩) hs.length c] := by rw [hY]; exact (HE2.out.far (by simp) _).drew
  have y4 := F2.cell 1
  have y5 := (hWY.cell (p := ⟨b, o + p, none⟩) hb).trans hu
  simp at y4
  have y0 := F4.cell 0
  have y1 := F4.cell 1
  have y2 := F4.cell 2
  have y3 := F4.cell 3
  simp at y0 y1 y2 y3
  have HF1 := Lib.hid F1
  have HF3 := Lib.hid F3
  clear hY HE1 HE2 HE3 HE4 t1 t2 hWX F1 F2 F3 F4 hne hu
  have HRS := Lib.hid (show (row (zs.set (p * 4 + 2) (n + 1))).size = 16 by rw [row_size]; simp [HZ.out])
  go_wp2_with (first | (refine wpList_load_row rfl 63 (.tmp 3) rfl w.heap.size rfl _ (row (zs.set (p * 4 + 2) (n + 1))) _ _ HF1.out Tryd.underlying63 rfl (by rw [HRS.out]; exact Tst.info) ?_) | (refine wpList_store_row rfl 63 (.tmp 6) (.tmp 118) rfl (w.heap.size + 2) (row (zs.set (p * 4 + 2) (n + 1))) rfl rfl _ _ HF3.out (by rw [HRS.out]; exact Tst.info) (by rw [HRS.out]; rfl) (row_one _) ?_))
  refine bodyPost_ret (v := .agg (row (zs.set (p * 4 + 2) (n + 1)))) (results_cell_row rfl _ _ (w.heap.size + 2) 63 _ (0, 0) _ rfl (setRow_heap _ _ _ _ _ _ HF3.out) Tryd.underlying63 rfl (by rw [HRS.out]; exact Tst.info)) rfl ⟨rfl, below_setRow hWY (by omega) _⟩

set_option maxRecDepth 100000 in
set_option maxHeartbeats 2000000 in
theorem step_skip0 (zs : List Int) (words : Int) (hv : Value) (hs : List (List Ln)) (p : Nat) (ls : List Ln) (n : Nat) (w : World) (hh : Hands w w.heap.size hv hs) (hl : hs[p]? = some ls) (h3 : hs.length ≤ 3)
    (hp : zs[p * 4 + 2]? = some (n : Int)) (hz : zs.length = 16) (hnl : n < ls.length) (r v : Nat) (d m : Int) (hln : ls[n]? = some ⟨5, r, d, v⟩) (hr : r ≤ 1) (hv5 : v ≤ 5) (hl5 : ls.length ≤ 5) (hm : m = if (ls.length : Int) < n + 1 + v then (ls.length : Int) else n + 1 + v) (hx : (zs.set (p * 4 + 2) (n + 1))[p * 4 + r]? = some 0) :
    Calls Tryd.prog 47 #[.agg (row zs), .agg #[.int .i64 words, hv], .int .i64 p] w fun e w' => e = .returned (.agg (row ((zs.set (p * 4 + 2) (n + 1)).set (p * 4 + 2) m))) ∧ Below w.heap.size w w' := by
  have HM := Lib.hid hm; clear hm
  have hh0 := hh
  obtain ⟨A, c, rfl, hlen, hh⟩ := hh
  have hlt : p < hs.length := (List.getElem?_eq_some_iff.1 hl).1
  obtain ⟨b, o, rfl, hb, hc⟩ := hh (by omega)
  obtain ⟨u, hu, hL⟩ := hc p ls hl
  obtain ⟨A', c', rfl, hl2, hL⟩ := hL
  obtain ⟨b2, o2, rfl, hb2, hc2⟩ := hL (by omega)
  obtain ⟨f0, f1, f2, f3⟩ := hc2 _ _ hln
  have hr1 := row_get hp
  have HSZ := Lib.hid ((row_size zs).trans hz)
  have HZ := Lib.hid hz
  have HH := Lib.hid hh0
  have HL := Lib.hid hl
  have HP := Lib.hid hp
  clear hh hh0 hc hL hl hp hc2 hz
  have i1 : (0 : Int) ≤ (p : Int) := by omega
  have i2 : (p : Int) < 4 := by omega
  have i3 : (p : Int) < hs.length := by omega
  have HLN := Lib.hid hln
  clear hln
  simp only at f0 f1 f2 f3
  have k1 : Block (((w.alloc (.cells (row zs) 63)).alloc (.cells #[.int .i64 words, .slice (some ⟨b, o, none⟩) hs.length c] 24)).alloc (.cells #[.int .i64 0, .int .i64 0, .int .i64 0, .int .i64 0, .int .i64 0, .int .i64 0, .int .i64 0, .int .i64 0, .int .i64 0, .int .i64 0, .int .i64 0, .int .i64 0, .int .i64 0, .int .i64 0, .int .i64 0, .int .i64 0] 63)) w.heap.size 63 (row zs) := ((Block.made _ _ _).alloc _).alloc _
  have K1 := Lib.hid k1
  clear k1
  go_enter Tryd.func47, Tryd.ntmps47
  go_wp2_with (first | (refine wpList_load_row rfl 63 (.tmp 3) rfl w.heap.size rfl _ (row zs) _ _ K1.out Tryd.underlying63 rfl (by rw [HSZ.out]; exact Tst.info) ?_) | fail)
  obtain ⟨W, B1, B2, B3, hW, hS, hWW⟩ : ∃ W, Block W w.heap.size 63 (row zs) ∧ Block W (w.heap.size + 1) 24 #[.int .i64 words, .slice (some ⟨b, o, none⟩) hs.length c] ∧ Block W (w.heap.size + 2) 63 #[.int .i64 0, .int .i64 0, .int .i64 0, .int .i64 0, .int .i64 0, .int .i64 0, .int .i64 0, .int .i64 0, .int .i64 0, .int .i64 0, .int .i64 0, .int .i64 0, .int .i64 0, .int .i64 0, .int .i64 0, .int .i64 0] ∧ Below w.heap.size w W ∧ W.heap.size = w.heap.size + 3 ∧ W = (((w.alloc (.cells (row zs) 63)).alloc (.cells #[.int .i64 words, .slice (some ⟨b, o, none⟩) hs.length c] 24)).alloc (.cells #[.int .i64 0, .int .i64 0, .int .i64 0, .int .i64 0, .int .i64 0, .int .i64 0, .int .i64 0, .int .i64 0, .int .i64 0, .int .i64 0, .int .i64 0, .int .i64 0, .int .i64 0, .int .i64 0, .int .i64 0, .int .i64 0] 63)) :=
    ⟨_, K1.out, (by simpa using (Block.made (w.alloc _) _ _).alloc _), (by simpa using Block.made ((w.alloc _).alloc _) _ _), (((Below.refl _ _).alloc (Nat.le_refl _) _).alloc (by simp) _).alloc (by simp; omega) _, (by simp), rfl⟩
  rw [← hWW]
  clear hWW K1
  refine (next_some zs words _ hs p ls n ⟨5, r, d, v⟩ _ ((HH.out.below hW (Nat.le_refl _)).more (by omega)) HL.out h3 HP.out HLN.out).mono ?_
  rintro e V ⟨rfl, hV⟩
  have C1 : Block V w.heap.size 63 (row zs) := B1.below hV (by omega)
  have C2 := B2.below hV (by omega)
  have C3 := B3.below hV (by omega)
  have hWV : Below w.heap.size w V := hW.trans (hV.mono (by omega))
  have hVS : w.heap.size + 3 ≤ V.heap.size := by have := hV.size; omega
  have HC1 := Lib.hid C1
  have HC2 := Lib.hid C2
  have HC3 := Lib.hid C3
  clear C1 C2 C3 B1 B2 B3 hV hW hS f0 f1 f2 f3
  go_wp2
  obtain ⟨X, hX⟩ : ∃ X, X = V.alloc (.cells #[.int .i64 5, .int .i64 r, .int .i64 d, .int .i64 v] 40) := ⟨_, rfl⟩
  rw [← hX]
  have E1 : Block X w.heap.size 63 (row zs) := by rw [hX]; exact HC1.out.alloc _
  have E2 : Block X (w.heap.size + 1) 24 #[.int .i64 words, .slice (some ⟨b, o, none⟩) hs.length c] := by rw [hX]; exact HC2.out.alloc _
  have E3 : Block X (w.heap.size + 2) 63 #[.int .i64 0, .int .i64 0, .int .i64 0, .int .i64 0, .int .i64 0, .int .i64 0, .int .i64 0, .int .i64 0, .int .i64 0, .int .i64 0, .int .i64 0, .int .i64 0, .int .i64 0, .int .i64 0, .int .i64 0, .int .i64 0] := by rw [hX]; exact HC3.out.alloc _
  have E4 : Block X V.heap.size 40 #[.int .i64 5, .int .i64 r, .int .i64 d, .int .i64 v] := by rw [hX]; exact Block.made _ _ _
  have hWX : Below w.heap.size w X := by rw [hX]; exact hWV.alloc (by omega) _
  have t1 := (E1.cell (p * 4 + 2)).trans hr1
  have t2 := E1.free (p * 4 + 2)
  have HE1 := Lib.hid E1
  have HE2 := Lib.hid E2
  have HE3 := Lib.hid E3
  have HE4 := Lib.hid E4
  have hn1 : (n : Int) + 1 ≤ 9223372036854775807 := by omega
  clear hX HC1 HC2 HC3 hWV E1 E2 E3 E4
  go_region
  obtain ⟨Y, hY⟩ : ∃ Y, Y = (X.setCell ⟨w.heap.size, p * 4 + 2, none⟩ (.int .i64 (n + 1))).drew := ⟨_, rfl⟩
  rw [← hY]
  have F1 : Block Y w.heap.size 63 (row (zs.set (p * 4 + 2) (n + 1))) := by rw [hY, ← row_set]; exact (HE1.out.put _ _).drew
  have hne : V.heap.size ≠ w.heap.size := by omega
  have F3 : Block Y (w.heap.size + 2) 63 #[.int .i64 0, .int .i64 0, .int .i64 0, .int .i64 0, .int .i64 0, .int .i64 0, .int .i64 0, .int .i64 0, .int .i64 0, .int .i64 0, .int .i64 0, .int .i64 0, .int .i64 0, .int .i64 0, .int .i64 0, .int .i64 0] := by rw [hY]; exact (HE3.out.far (by simp) _).drew
  have F4 : Block Y V.heap.size 40 #[.int .i64 5, .int .i64 r, .int .i64 d, .int .i64 v] := by rw [hY]; exact (HE4.out.far hne _).drew
  have hWY : Below w.heap.size w Y := by rw [hY]; exact (hWX.setCell (by simp) _).drew
  have F2 : Block Y (w.heap.size + 1) 24 #[.int .i64 words, .slice (some ⟨b, o, none⟩) hs.length c] := by rw [hY]; exact (HE2.out.far (by simp) _).drew
  have y4 := F2.cell 1
  have y5 := (hWY.cell (p := ⟨b, o + p, none⟩) hb).trans hu
  simp at y4
  have y0 := F4.cell 0
  have y1 := F4.cell 1
  have y2 := F4.cell 2
  have y3 := F4.cell 3
  simp at y0 y1 y2 y3
  have HF1 := Lib.hid F1
  have HF3 := Lib.hid F3
  clear hY HE1 HE2 HE3 HE4 t1 t2 hWX F1 F2 F3 F4 hne hu
  have j1 : (0 : Int) ≤ (r : Int) := by omega
  have j2 : (r : Int) < 4 := by omega
  have t1 := (HF1.out.cell (p * 4 + r)).trans (row_get hx)
  have u1 := HF1.out.free (p * 4 + r)
  have hy : (zs.set (p * 4 + 2) (n + 1))[p * 4 + 2]? = some ((n : Int) + 1) := by rw [List.getElem?_set_self (by rw [HZ.out]; omega)]
  have t2 := (HF1.out.cell (p * 4 + 2)).trans (row_get hy)
  have u2 := HF1.out.free (p * 4 + 2)
  clear hx hy
  go_wp2
  go_quiet (fail)
  go_wp2
  go_region
  rw [← HM.out]
  clear t1 t2 u1 u2
  obtain ⟨Z, hZ⟩ : ∃ Z, Z = (Y.drewN (nq + 1)).setCell ⟨w.heap.size, p * 4 + 2, none⟩ (.int .i64 m) := ⟨_, rfl⟩
  rw [← hZ]
  have G1 : Block Z w.heap.size 63 (row ((zs.set (p * 4 + 2) (n + 1)).set (p * 4 + 2) m)) := by rw [hZ, ← row_set (zs.set (p * 4 + 2) (n + 1))]; exact (HF1.out.drewN _).put _ _
  have G3 : Block Z (w.heap.size + 2) 63 #[.int .i64 0, .int .i64 0, .int .i64 0, .int .i64 0, .int .i64 0, .int .i64 0, .int .i64 0, .int .i64 0, .int .i64 0, .int .i64 0, .int .i64 0, .int .i64 0, .int .i64 0, .int .i64 0, .int .i64 0, .int .i64 0] := by rw [hZ]; exact (HF3.out.drewN _).far (by simp) _
  have hWZ : Below w.heap.size w Z := by rw [hZ]; exact (below_drewN hWY _).setCell (by simp) _
  have HG1 := Lib.hid G1
  have HG3 := Lib.hid G3
  have HRS := Lib.hid (show (row ((zs.set (p * 4 + 2) (n + 1)).set (p * 4 + 2) m)).size = 16 by rw [row_size]; simp [HZ.out])
  clear hZ HF1 HF3 G1 G3 hWY
  go_wp2_with (first | (refine wpList_load_row rfl 63 (.tmp 3) rfl w.heap.size rfl _ (row ((zs.set (p * 4 + 2) (n + 1)).set (p * 4 + 2) m)) _ _ HG1.out Tryd.underlying63 rfl (by rw [HRS.out]; exact Tst.info) ?_) | (refine wpList_store_row rfl 63 (.tmp 6) (.tmp 118) rfl (w.heap.size + 2) (row ((zs.set (p * 4 + 2) (n + 1)).set (p * 4 + 2) m)) rfl rfl _ _ HG3.out (by rw [HRS.out]; exact Tst.info) (by rw [HRS.out]; rfl) (row_one _) ?_))
  refine bodyPost_ret (v := .agg (row ((zs.set (p * 4 + 2) (n + 1)).set (p * 4 + 2) m))) (results_cell_row rfl _ _ (w.heap.size + 2) 63 _ (0, 0) _ rfl (setRow_heap _ _ _ _ _ _ HG3.out) Tryd.underlying63 rfl (by rw [HRS.out]; exact Tst.info)) rfl ⟨rfl, below_setRow hWZ (by omega) _⟩

set_option maxRecDepth 100000 in
set_option maxHeartbeats 2000000 in
theorem step_skip1 (zs : List Int) (words : Int) (hv : Value) (hs : List (List Ln)) (p : Nat) (ls : List Ln) (n : Nat) (w : World) (hh : Hands w w.heap.size hv hs) (hl : hs[p]? = some ls) (h3 : hs.length ≤ 3)
    (hp : zs[p * 4 + 2]? = some (n : Int)) (hz : zs.length = 16) (hnl : n < ls.length) (r v : Nat) (d x : Int) (hln : ls[n]? = some ⟨5, r, d, v⟩) (hr : r ≤ 1) (hx : (zs.set (p * 4 + 2) (n + 1))[p * 4 + r]? = some x) (hx0 : (x == 0) = false) :
    Calls Tryd.prog 47 #[.agg (row zs), .agg #[.int .i64 words, hv], .int .i64 p] w fun e w' => e = .returned (.agg (row (zs.set (p * 4 + 2) (n + 1)))) ∧ Below w.heap.size w w' := by
  have hh0 := hh
  obtain ⟨A, c, rfl, hlen, hh⟩ := hh
  have hlt : p < hs.length := (List.getElem?_eq_some_iff.1 hl).1
  obtain ⟨b, o, rfl, hb, hc⟩ := hh (by omega)
  obtain ⟨u, hu, hL⟩ := hc p ls hl
  obtain ⟨A', c', rfl, hl2, hL⟩ := hL
  obtain ⟨b2, o2, rfl, hb2, hc2⟩ := hL (by omega)
  obtain ⟨f0, f1, f2, f3⟩ := hc2 _ _ hln
  have hr1 := row_get hp
  have HSZ := Lib.hid ((row_size zs).trans hz)
  have HZ := Lib.hid hz
  have HH := Lib.hid hh0
  have HL := Lib.hid hl
  have HP := Lib.hid hp
  clear hh hh0 hc hL hl hp hc2 hz
  have i1 : (0 : Int) ≤ (p : Int) := by omega
  have i2 : (p : Int) < 4 := by omega
  have i3 : (p : Int) < hs.length := by omega
  have HLN := Lib.hid hln
  clear hln
  simp only at f0 f1 f2 f3
  have k1 : Block (((w.alloc (.cells (row zs) 63)).alloc (.cells #[.int .i64 words, .slice (some ⟨b, o, none⟩) hs.length c] 24)).alloc (.cells #[.int .i64 0, .int .i64 0, .int .i64 0, .int .i64 0, .int .i64 0, .int .i64 0, .int .i64 0, .int .i64 0, .int .i64 0, .int .i64 0, .int .i64 0, .int .i64 0, .int .i64 0, .int .i64 0, .int .i64 0, .int .i64 0] 63)) w.heap.size 63 (row zs) := ((Block.made _ _ _).alloc _).alloc _
  have K1 := Lib.hid k1
  clear k1
  go_enter Tryd.func47, Tryd.ntmps47
  go_wp2_with (first | (refine wpList_load_row rfl 63 (.tmp 3) rfl w.heap.size rfl _ (row zs) _ _ K1.out Tryd.underlying63 rfl (by rw [HSZ.out]; exact Tst.info) ?_) | fail)
  obtain ⟨W, B1, B2, B3, hW, hS, hWW⟩ : ∃ W, Block W w.heap.size 63 (row zs) ∧ Block W (w.heap.size + 1) 24 #[.int .i64 words, .slice (some ⟨b, o, none⟩) hs.length c] ∧ Block W (w.heap.size + 2) 63 #[.int .i64 0, .int .i64 0, .int .i64 0, .int .i64 0, .int .i64 0, .int .i64 0, .int .i64 0, .int .i64 0, .int .i64 0, .int .i64 0, .int .i64 0, .int .i64 0, .int .i64 0, .int .i64 0, .int .i64 0, .int .i64 0] ∧ Below w.heap.size w W ∧ W.heap.size = w.heap.size + 3 ∧ W = (((w.alloc (.cells (row zs) 63)).alloc (.cells #[.int .i64 words, .slice (some ⟨b, o, none⟩) hs.length c] 24)).alloc (.cells #[.int .i64 0, .int .i64 0, .int .i64 0, .int .i64 0, .int .i64 0, .int .i64 0, .int .i64 0, .int .i64 0, .int .i64 0, .int .i64 0, .int .i64 0, .int .i64 0, .int .i64 0, .int .i64 0, .int .i64 0, .int .i64 0] 63)) :=
    ⟨_, K1.out, (by simpa using (Block.made (w.alloc _) _ _).alloc _), (by simpa using Block.made ((w.alloc _).alloc _) _ _), (((Below.refl _ _).alloc (Nat.le_refl _) _).alloc (by simp) _).alloc (by simp; omega) _, (by simp), rfl⟩
  rw [← hWW]
  clear hWW K1
  refine (next_some zs words _ hs p ls n ⟨5, r, d, v⟩ _ ((HH.out.below hW (Nat.le_refl _)).more (by omega)) HL.out h3 HP.out HLN.out).mono ?_
  rintro e V ⟨rfl, hV⟩
  have C1 : Block V w.heap.size 63 (row zs) := B1.below hV (by omega)
  have C2 := B2.below hV (by omega)
  have C3 := B3.below hV (by omega)
  have hWV : Below w.heap.size w V := hW.trans (hV.mono (by omega))
  have hVS : w.heap.size + 3 ≤ V.heap.size := by have := hV.size; omega
  have HC1 := Lib.hid C1
  have HC2 := Lib.hid C2
  have HC3 := Lib.hid C3
  clear C1 C2 C3 B1 B2 B3 hV hW hS f0 f1 f2 f3
  go_wp2
  obtain ⟨X, hX⟩ : ∃ X, X = V.alloc (.cells #[.int .i64 5, .int .i64 r, .int .i64 d, .int .i64 v] 40) := ⟨_, rfl⟩
  rw [← hX]
  have E1 : Block X w.heap.size 63 (row zs) := by rw [hX]; exact HC1.out.alloc _
  have E2 : Block X (w.heap.size + 1) 24 #[.int .i64 words, .slice (some ⟨b, o, none⟩) hs.length c] := by rw [hX]; exact HC2.out.alloc _
  have E3 : Block X (w.heap.size + 2) 63 #[.int .i64 0, .int .i64 0, .int .i64 0, .int .i64 0, .int .i64 0, .int .i64 0, .int .i64 0, .int .i64 0, .int .i64 0, .int .i64 0, .int .i64 0, .int .i64 0, .int .i64 0, .int .i64 0, .int .i64 0, .int .i64 0] := by rw [hX]; exact HC3.out.alloc _
  have E4 : Block X V.heap.size 40 #[.int .i64 5, .int .i64 r, .int .i64 d, .int .i64 v] := by rw [hX]; exact Block.made _ _ _
  have hWX : Below w.heap.size w X := by rw [hX]; exact hWV.alloc (by omega) _
  have t1 := (E1.cell (p * 4 + 2)).trans hr1
  have t2 := E1.free (p * 4 + 2)
  have HE1 := Lib.hid E1
  have HE2 := Lib.hid E2
  have HE3 := Lib.hid E3
  have HE4 := Lib.hid E4
  have hn1 : (n : Int) + 1 ≤ 9223372036854775807 := by omega
  clear hX HC1 HC2 HC3 hWV E1 E2 E3 E4
  go_region
  obtain ⟨Y, hY⟩ : ∃ Y, Y = (X.setCell ⟨w.heap.size, p * 4 + 2, none⟩ (.int .i64 (n + 1))).drew := ⟨_, rfl⟩
  rw [← hY]
  have F1 : Block Y w.heap.size 63 (row (zs.set (p * 4 + 2) (n + 1))) := by rw [hY, ← row_set]; exact (HE1.out.put _ _).drew
  have hne : V.heap.size ≠ w.heap.size := by omega
  have F3 : Block Y (w.heap.size + 2) 63 #[.int .i64 0, .int .i64 0, .int .i64 0, .int .i64 0, .int .i64 0, .int .i64 0, .int .i64 0, .int .i64 0, .int .i64 0, .int .i64 0, .int .i64 0, .int .i64 0, .int .i64 0, .int .i64 0, .int .i64 0, .int .i64 0] := by rw [hY]; exact (HE3.out.far (by simp) _).drew
  have F4 : Block Y V.heap.size 40 #[.int .i64 5, .int .i64 r, .int .i64 d, .int .i64 v] := by rw [hY]; exact (HE4.out.far hne _).drew
  have hWY : Below w.heap.size w Y := by rw [hY]; exact (hWX.setCell (by simp) _).drew
  have F2 : Block Y (w.heap.size + 1) 24 #[.int .i64 words, .slice (some ⟨b, o, none⟩) hs.length c] := by rw [hY]; exact (HE2.out.far (by simp) _).drew
  have y4 := F2.cell 1
  have y5 := (hWY.cell (p := ⟨b, o + p, none⟩) hb).trans hu
  simp at y4
  have y0 := F4.cell 0
  have y1 := F4.cell 1
  have y2 := F4.cell 2
  have y3 := F4.cell 3
  simp at y0 y1 y2 y3
  have HF1 := Lib.hid F1
  have HF3 := Lib.hid F3
  clear hY HE1 HE2 HE3 HE4 t1 t2 hWX F1 F2 F3 F4 hne hu
  have j1 : (0 : Int) ≤ (r : Int) := by omega
  have j2 : (r : Int) < 4 := by omega
  have t1 := (HF1.out.cell (p * 4 + r)).trans (row_get hx)
  have u1 := HF1.out.free (p * 4 + r)
  clear hx
  go_wp2
  go_quiet (fail)
  clear t1 u1
  obtain ⟨Z, hZ⟩ : ∃ Z, Z = Y.drewN nq := ⟨_, rfl⟩
  rw [← hZ]
  have G1 : Block Z w.heap.size 63 (row (zs.set (p * 4 + 2) (n + 1))) := by rw [hZ]; exact HF1.out.drewN _
  have G3 : Block Z (w.heap.size + 2) 63 #[.int .i64 0, .int .i64 0, .int .i64 0, .int .i64 0, .int .i64 0, .int .i64 0, .int .i64 0, .int .i64 0, .int .i64 0, .int .i64 0, .int .i64 0, .int .i64 0, .int .i64 0, .int .i64 0, .int .i64 0, .int .i64 0] := by rw [hZ]; exact HF3.out.drewN _
  have hWZ : Below w.heap.size w Z := by rw [hZ]; exact below_drewN hWY _
  have HG1 := Lib.hid G1
  have HG3 := Lib.hid G3
  have HRS := Lib.hid (show (row (zs.set (p * 4 + 2) (n + 1))).size = 16 by rw [row_size]; simp [HZ.out])
  clear hZ HF1 HF3 G1 G3 hWY
  go_wp2_with (first | (refine wpList_load_row rfl 63 (.tmp 3) rfl w.heap.size rfl _ (row (zs.set (p * 4 + 2) (n + 1))) _ _ HG1.out Tryd.underlying63 rfl (by rw [HRS.out]; exact Tst.info) ?_) | (refine wpList_store_row rfl 63 (.tmp 6) (.tmp 118) rfl (w.heap.size + 2) (row (zs.set (p * 4 + 2) (n + 1))) rfl rfl _ _ HG3.out (by rw [HRS.out]; exact Tst.info) (by rw [HRS.out]; rfl) (row_one _) ?_))
  refine bodyPost_ret (v := .agg (row (zs.set (p * 4 + 2) (n + 1)))) (results_cell_row rfl _ _ (w.heap.size + 2) 63 _ (0, 0) _ rfl (setRow_heap _ _ _ _ _ _ HG3.out) Tryd.underlying63 rfl (by rw [HRS.out]; exact Tst.info)) rfl ⟨rfl, below_setRow hWZ (by omega) _⟩

/-- ANY STEP OF A PROGRAM THAT IS WELL. -/
theorem step_any (zs : List Int) (words : Int) (hv : Value) (hs : List (List Ln)) (p : Nat) (ls : List Ln) (n : Nat) (w : World) (hh : Hands w w.heap.size hv hs) (hl : hs[p]? = some ls) (h3 : hs.length ≤ 3)
    (hp : zs[p * 4 + 2]? = some (n : Int)) (hz : zs.length = 16) (hw : words ≤ 4) (h5 : ls.length ≤ 5) (hok : ls.all (okLn words) = true) :
    Calls Tryd.prog 47 #[.agg (row zs), .agg #[.int .i64 words, hv], .int .i64 p] w fun e w' => e = .returned (.agg (row (stp hs zs p))) ∧ Below w.heap.size w w' := by
  have hp3 : p < 3 := by have := (List.getElem?_eq_some_iff.1 hl).1; omega
  rcases Nat.lt_or_ge n ls.length with hn | hn
  · have hl1 : ls[n]? = some ls[n] := List.getElem?_eq_getElem hn
    have hk := List.all_eq_true.1 hok _ (List.mem_of_getElem? hl1)
    generalize ls[n] = l at hl1 hk
    rw [stp_go hs zs p ls n l hl hp hl1]
    obtain ⟨k, r, d, v⟩ := l
    have hlen : (zs.set (p * 4 + 2) ((n : Int) + 1)).length = 16 := by simp [hz]
    have get : ∀ i, i < 16 → (zs.set (p * 4 + 2) ((n : Int) + 1))[i]? = some ((zs.set (p * 4 + 2) ((n : Int) + 1)).getD i 0) := fun i hi => by
      rw [List.getD_eq_getElem?_getD, List.getElem?_eq_getElem (by omega)]; rfl
    simp only [okLn] at hk
    dsimp only
    by_cases k0 : k = 0
    · subst k0
      simp [inR] at hk
      obtain ⟨⟨hr1, hr2⟩, hv1, hv2⟩ := hk
      obtain ⟨r, rfl⟩ := Int.eq_ofNat_of_zero_le hr1
      simpa using step_put zs words hv hs p ls n w hh hl h3 hp hz hn r v d hl1 (by omega)
    by_cases k1 : k = 1
    · subst k1
      simp [inR] at hk
      obtain ⟨⟨hr1, hr2⟩, hd1, hd2⟩ := hk
      obtain ⟨r, rfl⟩ := Int.eq_ofNat_of_zero_le hr1
      obtain ⟨d, rfl⟩ := Int.eq_ofNat_of_zero_le hd1
      exact step_load zs words hv hs p ls n w hh hl h3 hp hz hn r d v _ _ hl1 (by omega) (by omega) (get _ (by omega)) (get _ (by omega))
    by_cases k2 : k = 2
    · subst k2
      simp [inR] at hk
      obtain ⟨⟨hr1, hr2⟩, hd1, hd2⟩ := hk
      obtain ⟨r, rfl⟩ := Int.eq_ofNat_of_zero_le hr1
      obtain ⟨d, rfl⟩ := Int.eq_ofNat_of_zero_le hd1
      exact step_store zs words hv hs p ls n w hh hl h3 hp hz hn r d v _ _ hl1 (by omega) (by omega) (get _ (by omega)) (get _ (by omega))
    by_cases k3 : k = 3
    · subst k3
      simp [inR] at hk
      obtain ⟨⟨hr1, hr2⟩, hd1, hd2⟩ := hk
      obtain ⟨r, rfl⟩ := Int.eq_ofNat_of_zero_le hr1
      obtain ⟨d, rfl⟩ := Int.eq_ofNat_of_zero_le hd1
      exact step_swap zs words hv hs p ls n w hh hl h3 hp hz hn r d v _ _ hl1 (by omega) (by omega) (get _ (by omega)) (get _ (by omega))
    by_cases k5 : k = 5
    · subst k5
      simp [inR] at hk
      obtain ⟨⟨hr1, hr2⟩, hv1, hv2⟩ := hk
      obtain ⟨r, rfl⟩ := Int.eq_ofNat_of_zero_le hr1
      obtain ⟨v, rfl⟩ := Int.eq_ofNat_of_zero_le hv1
      simp only [Int.toNat_natCast, Int.reduceEq, reduceIte]
      have hx := get (p * 4 + r) (by omega)
      by_cases hx0 : (zs.set (p * 4 + 2) ((n : Int) + 1)).getD (p * 4 + r) 0 = 0
      · rw [if_pos hx0]
        rw [hx0] at hx
        exact step_skip0 zs words hv hs p ls n w hh hl h3 hp hz hn r v d _ hl1 (by omega) (by omega) h5 (by split <;> omega) hx
      · rw [if_neg hx0]
        exact step_skip1 zs words hv hs p ls n w hh hl h3 hp hz hn r v d _ hl1 (by omega) hx (beq_eq_false_iff_ne.2 hx0)
    · have k4 : k = 4 := by simp [k0, k1, k2, k3, k5] at hk; exact hk
      subst k4
      exact step_fence zs words hv hs p ls n w hh hl h3 hp hz hn r d v hl1
  · rw [stp_stay hs zs p ls n hl hp hn]
    exact step_stay zs words hv hs p ls n w hh hl h3 hp hz hn
end Go.Proofs.YthpnnmkpbkbanaaDoor
