/-
  Texts merged: TsoWords, TsoCome.
-/
import Derived.Test.YthpnnmkpbkbanaaDoorTsoMem
import Derived.Deep.DeepCutAuto
/-
  What (prog.State).Words and WithWords answer.
-/
namespace Go.Proofs.YthpnnmkpbkbanaaDoor
open Go.RowKit

theorem l16w (l : List Int) (h : l.length = 16) : ∃ z0 z1 z2 z3 z4 z5 z6 z7 z8 z9 z10 z11 z12 z13 z14 z15, l = [z0, z1, z2, z3, z4, z5, z6, z7, z8, z9, z10, z11, z12, z13, z14, z15] := by
  match l, h with
  | [z0, z1, z2, z3, z4, z5, z6, z7, z8, z9, z10, z11, z12, z13, z14, z15], _ => exact ⟨z0, z1, z2, z3, z4, z5, z6, z7, z8, z9, z10, z11, z12, z13, z14, z15, rfl⟩
theorem getD_at' {zs : List Int} {i : Nat} (h : i < zs.length) : zs[i]? = some (zs.getD i 0) := by simp [List.getD_eq_getElem?_getD, List.getElem?_eq_getElem h]
theorem T4.at_ (a : Addr) (w : World) : (Instr.arrayAt 61 (.slice (some a) 4 4)).run Tryd.prog w = .ok (.pointer (some a)) w := by
  simp [Instr.arrayAt, run_underlying Tryd.underlying61, go_sem]
theorem T1.info : (Tryd.prog.info? 3).map (·.size) = some 1 := by kernel_rfl

set_option maxRecDepth 100000 in
set_option maxHeartbeats 1000000 in
theorem words_any (zs : List Int) (w : World) (hz : zs.length = 16) :
    Calls Tryd.prog 54 #[.agg (row zs)] w fun e w' => e = .returned (.agg (row (zs.drop 12))) ∧ Below w.heap.size w w' := by
  have HZ := Lib.hid hz
  have h1 : Block ((w.alloc (.cells (row zs) 63)).alloc (.cells #[.int .i64 0, .int .i64 0, .int .i64 0, .int .i64 0] 61)) w.heap.size 63 (row zs) := (Block.made _ _ _).alloc _
  have h2 : Block ((w.alloc (.cells (row zs) 63)).alloc (.cells #[.int .i64 0, .int .i64 0, .int .i64 0, .int .i64 0] 61)) (w.heap.size + 1) 61 #[.int .i64 0, .int .i64 0, .int .i64 0, .int .i64 0] := by
    have := Block.made (w.alloc (.cells (row zs) 63)) 61 #[.int .i64 0, .int .i64 0, .int .i64 0, .int .i64 0]
    rwa [World.size_alloc] at this
  have hr : World.rangeAt ((w.alloc (.cells (row zs) 63)).alloc (.cells #[.int .i64 0, .int .i64 0, .int .i64 0, .int .i64 0] 61)) w.heap.size 12 ((zs.drop 12).map (Value.int .i64)) := by
    intro j u hj
    rw [List.getElem?_map, List.getElem?_drop] at hj
    cases e : zs[12 + j]? with
    | none => rw [e] at hj; cases hj
    | some z =>
      rw [e] at hj
      obtain rfl := Option.some.inj hj
      exact (h1.cell _).trans (row_get e)
  have HR := Lib.hid hr
  have H2 := Lib.hid h2
  have HL := Lib.hid (show ((zs.drop 12).map (Value.int .i64)).length = 4 by rw [List.length_map, List.length_drop, hz])
  clear hz h1 h2 hr
  have hat := T4.at_ ⟨w.heap.size, 12, none⟩
  go_enter Tryd.func54, Tryd.ntmps54
  go_wp2_with (first | (refine wpList_load_mid rfl 61 _ rfl w.heap.size 12 rfl ((zs.drop 12).map (Value.int .i64)) _ HR.out Tryd.underlying61 rfl (by rw [HL.out]; exact T4.info) ?_) | (refine wpList_store_row rfl 61 (.tmp 2) (.tmp 6) rfl (w.heap.size + 1) (row (zs.drop 12)) rfl rfl _ _ H2.out (by rw [row_size, ← List.length_map (f := Value.int .i64), HL.out]; exact T4.info) (by rw [row_size, ← List.length_map (f := Value.int .i64), HL.out]; rfl) (row_one _) ?_))
  have hB := setRow_heap _ (w.heap.size + 1) _ (row (zs.drop 12)) 61 _ H2.out
  exact bodyPost_ret (v := .agg (row (zs.drop 12))) (results_cell_row rfl _ _ (w.heap.size + 1) _ _ _ _ rfl hB Tryd.underlying61 rfl (by rw [row_size, ← List.length_map (f := Value.int .i64), HL.out]; exact T4.info)) rfl ⟨rfl, below_setRow (((Below.refl _ _).alloc (Nat.le_refl _) _).alloc (by simp) _) (by omega) _⟩

theorem paste16 (zs ws : List Int) (hz : zs.length = 16) (hw : ws.length = 4) : pasteAt zs 12 ws = zs.take 12 ++ ws := by
  obtain ⟨z0, z1, z2, z3, z4, z5, z6, z7, z8, z9, z10, z11, z12, z13, z14, z15, rfl⟩ := l16w zs hz
  obtain ⟨a, b, c, d, rfl⟩ := l4w ws hw
  rfl

set_option maxRecDepth 100000 in
set_option maxHeartbeats 1000000 in
theorem with_any (zs ws : List Int) (w : World) (hz : zs.length = 16) (hw : ws.length = 4) :
    Calls Tryd.prog 55 #[.agg (row zs), .agg (row ws)] w fun e w' => e = .returned (.agg (row (zs.take 12 ++ ws))) ∧ Below w.heap.size w w' := by
  have HP := Lib.hid (paste16 zs ws hz hw)
  have HZ := Lib.hid hz
  have HW := Lib.hid hw
  clear hz hw
  go_enter Tryd.func55, Tryd.ntmps55
  go_wp2_with fail
  obtain ⟨W, hW⟩ : ∃ W, W = ((w.alloc (.cells (row zs) 63)).alloc (.cells (row ws) 61)).alloc (.cells #[.int .i64 0, .int .i64 0, .int .i64 0, .int .i64 0, .int .i64 0, .int .i64 0, .int .i64 0, .int .i64 0, .int .i64 0, .int .i64 0, .int .i64 0, .int .i64 0, .int .i64 0, .int .i64 0, .int .i64 0, .int .i64 0] 63) := ⟨_, rfl⟩
  rw [← hW]
  have h2 : Block W w.heap.size 63 (row zs) := by rw [hW]; exact ((Block.made _ _ _).alloc _).alloc _
  have h3 : Block W (w.heap.size + 1) 61 (row ws) := by
    rw [hW]
    have := Block.made (w.alloc (.cells (row zs) 63)) 61 (row ws)
    rw [World.size_alloc] at this
    exact this.alloc _
  have h4 : Block W (w.heap.size + 1 + 1) 63 #[.int .i64 0, .int .i64 0, .int .i64 0, .int .i64 0, .int .i64 0, .int .i64 0, .int .i64 0, .int .i64 0, .int .i64 0, .int .i64 0, .int .i64 0, .int .i64 0, .int .i64 0, .int .i64 0, .int .i64 0, .int .i64 0] := by
    rw [hW]
    have := Block.made ((w.alloc (.cells (row zs) 63)).alloc (.cells (row ws) 61)) 63 #[.int .i64 0, .int .i64 0, .int .i64 0, .int .i64 0, .int .i64 0, .int .i64 0, .int .i64 0, .int .i64 0, .int .i64 0, .int .i64 0, .int .i64 0, .int .i64 0, .int .i64 0, .int .i64 0, .int .i64 0, .int .i64 0]
    rwa [World.size_alloc, World.size_alloc] at this
  have hbe : Below w.heap.size w W := by rw [hW]; exact (((Below.refl _ _).alloc (Nat.le_refl _) _).alloc (by simp) _).alloc (by simp; omega) _
  have hrun : (Builtin.copy_ #[47, 47] 3 #[.slice (some ⟨w.heap.size, 12, none⟩) 4 4, .slice (some ⟨w.heap.size + 1, 0, none⟩) 4 4]).run Tryd.prog W.drew = .ok (goInt (Nat.min 4 4)) (W.drew.setCells w.heap.size 12 (ws.map (Value.int .i64))) := by
    refine run_copy_wide W.drew _ _ _ 3 1 w.heap.size 12 4 4 ⟨w.heap.size + 1, 0, none⟩ 4 4 (ws.map (Value.int .i64)) Tryd.underlying47 T1.info (by rw [List.length_map, HW.out]; rfl) (fun j u hj => ?_) (fun j hj => ?_) (fun j _ => h2.free _) (fun u hu => ?_)
    · rw [List.getElem?_map] at hj
      cases e : ws[j]? with
      | none => rw [e] at hj; cases hj
      | some z =>
        rw [e] at hj
        obtain rfl := Option.some.inj hj
        rw [Addr.add_lit, Nat.zero_add]
        exact (h3.cell j).trans (row_get e)
    · rw [List.length_map, HW.out] at hj
      rw [show W.drew.cell? ⟨w.heap.size, 12 + j, none⟩ = _ from (h2.cell (12 + j)).trans (row_get (getD_at' (zs := zs) (i := 12 + j) (by have := HZ.out; omega)))]
      rfl
    · obtain ⟨z, _, rfl⟩ := List.mem_map.1 hu
      rfl
  have HRUN := Lib.hid hrun
  have hX : Block (W.drew.setCells w.heap.size 12 (ws.map (Value.int .i64))) w.heap.size 63 (row (zs.take 12 ++ ws)) := by
    have := Block.pasteMid (pre := []) (post := []) ws zs W.drew 12 (by have h2' : Block W.drew w.heap.size 63 (row zs) := h2; simpa using h2') (by rw [HW.out, HZ.out]; omega)
    simpa [HP.out] using this
  have hX4 : Block (W.drew.setCells w.heap.size 12 (ws.map (Value.int .i64))) (w.heap.size + 1 + 1) 63 #[.int .i64 0, .int .i64 0, .int .i64 0, .int .i64 0, .int .i64 0, .int .i64 0, .int .i64 0, .int .i64 0, .int .i64 0, .int .i64 0, .int .i64 0, .int .i64 0, .int .i64 0, .int .i64 0, .int .i64 0, .int .i64 0] :=
    h4.touch (touch_setCells (O := fun k => k = w.heap.size) ((Touch.refl _ W).drew) (Or.inl rfl) _ _) (by omega)
  have hbx : Below w.heap.size w (W.drew.setCells w.heap.size 12 (ws.map (Value.int .i64))) :=
    hbe.trans ((touch_setCells (O := fun k => k = w.heap.size) ((Touch.refl _ W).drew) (Or.inl rfl) _ _).below hbe.size (fun i h => by omega))
  have HX := Lib.hid hX
  have HX4 := Lib.hid hX4
  have HBX := Lib.hid hbx
  have HL := Lib.hid (show (row (zs.take 12 ++ ws)).size = 16 by rw [row_size, List.length_append, List.length_take, HZ.out, HW.out]; rfl)
  clear hW h2 h3 h4 hbe hrun hX hX4 hbx
  go_still_tail 3, (by kernel_rfl)
  change wpList _ _ _ _ _ W.drew
  refine Lib.wpList_copy_run _ rfl _ _ 47 47 rfl _ _ rfl rfl HRUN.out ?_
  obtain ⟨X, hXX⟩ : ∃ X, X = W.drew.setCells w.heap.size 12 (ws.map (Value.int .i64)) := ⟨_, rfl⟩
  rw [← hXX] at HX HX4 HBX ⊢
  clear hXX HRUN
  go_wp2_with (first | (refine wpList_load_row rfl 63 (.tmp 2) rfl w.heap.size rfl _ (row (zs.take 12 ++ ws)) _ _ HX.out Tryd.underlying63 rfl (by rw [HL.out]; exact Tst.info) ?_) | (refine wpList_store_row rfl 63 (.tmp 4) (.tmp 9) rfl (w.heap.size + 1 + 1) (row (zs.take 12 ++ ws)) rfl rfl _ _ HX4.out (by rw [HL.out]; exact Tst.info) (by rw [HL.out]; rfl) (row_one _) ?_))
  have hB := setRow_heap X (w.heap.size + 1 + 1) _ (row (zs.take 12 ++ ws)) 63 _ HX4.out
  exact bodyPost_ret (v := .agg (row (zs.take 12 ++ ws))) (results_cell_row rfl _ _ (w.heap.size + 1 + 1) _ _ _ _ rfl hB Tryd.underlying63 rfl (by rw [HL.out]; exact Tst.info)) rfl ⟨rfl, below_setRow HBX.out (by omega) _⟩
end Go.Proofs.YthpnnmkpbkbanaaDoor

/-
  What (tso.state).come answers.
-/
namespace Go.Proofs.YthpnnmkpbkbanaaDoor
open Go.RowKit

theorem T64.info : (Tryd.prog.info? 80).map (·.size) = some 49 := by kernel_rfl
theorem paste_all (z y : List Int) (hz : z.length = 16) (hy : y.length = 16) : pasteAt z 0 y = y := by
  obtain ⟨z0, z1, z2, z3, z4, z5, z6, z7, z8, z9, z10, z11, z12, z13, z14, z15, rfl⟩ := l16w z hz
  obtain ⟨y0, y1, y2, y3, y4, y5, y6, y7, y8, y9, y10, y11, y12, y13, y14, y15, rfl⟩ := l16w y hy
  rfl
/-- The first sixteen of a state's numbers. -/
theorem Block.range16 {w : World} {g T : Nat} {z rest : List Int} (h : Block w g T (row (z ++ rest))) : World.rangeAt w g 0 (z.map (Value.int .i64)) := by
  intro j u hj
  rw [List.getElem?_map] at hj
  cases e : z[j]? with
  | none => rw [e] at hj; cases hj
  | some x =>
    rw [e] at hj
    obtain rfl := Option.some.inj hj
    rw [Nat.zero_add]
    exact (h.cell j).trans (row_get (by rw [List.getElem?_append_left (List.getElem?_eq_some_iff.1 e).1]; exact e))
theorem Block.there16 {w : World} {g T : Nat} {z rest : List Int} (h : Block w g T (row (z ++ rest))) {n : Nat} (hz : z.length = n) : World.there w g 0 n := by
  intro j hj
  rw [Nat.zero_add]
  refine ⟨?_, h.free j⟩
  rw [h.cell j, row_get (getD_at' (by rw [List.length_append]; omega))]
  rfl
theorem Block.set16 {w : World} {g T : Nat} {z rest y : List Int} (h : Block w g T (row (z ++ rest))) (hz : z.length = 16) (hy : y.length = 16) : Block (w.setCells g 0 (y.map (Value.int .i64))) g T (row (y ++ rest)) := by
  have := Block.pasteMid (pre := []) (mid := z) (post := rest) y w 0 h (by omega)
  rwa [paste_all z y hz hy] at this

/-- A state is sixteen numbers, and of each hand what waits. -/
structure TRow (z A : List Int) (q : List (Nat × Int)) (C : List Int) (p : Nat) (zs : List Int) : Prop where
  z16 : z.length = 16
  at_ : z.length + A.length = 16 + p * 11
  len : zs.length = 49
  eq : zs = z ++ (A ++ (qrow q ++ C))
  hand : p < 3
theorem TRow.mk' {z A C : List Int} {q q' : List (Nat × Int)} {p : Nat} {zs z' : List Int} (h : TRow z A q C p zs) (hz : z'.length = 16) (hq : q.length ≤ 5) (hq' : q'.length ≤ 5) : TRow z' A q' C p (z' ++ (A ++ (qrow q' ++ C))) :=
  ⟨hz, by have := h.at_; have := h.z16; omega, by have := h.len; rw [h.eq] at this; simp only [List.length_append, qrow_length hq, h.z16] at this; simp only [List.length_append, qrow_length hq', hz]; omega, rfl, h.hand⟩
theorem TRow.mid {z A C : List Int} {q : List (Nat × Int)} {p : Nat} {zs : List Int} (h : TRow z A q C p zs) : zs = (z ++ A) ++ (qrow q ++ C) ∧ (z ++ A).length = 16 + p * 11 := by
  refine ⟨by rw [h.eq, List.append_assoc], by rw [List.length_append]; exact h.at_⟩

set_option maxRecDepth 100000 in
set_option maxHeartbeats 1000000 in
theorem come_none (z A C : List Int) (p : Nat) (zs : List Int) (w : World) (hr : TRow z A [] C p zs) :
    Calls Tryd.prog 37 #[.agg (row zs), .int .i64 p] w fun e w' => e = .returned (.agg (row zs)) ∧ Below w.heap.size w w' := by
  obtain ⟨e1, e2⟩ := hr.mid
  have hm : (row zs)[16 + p * 11]? = some (.int .i64 0) := by
    rw [e1, ← e2, ← Nat.add_zero (z ++ A).length]
    exact row_mid (i := 0) rfl
  have hp := hr.hand
  have i1 : (0 : Int) ≤ p := by omega
  have i2 : (p : Int) < 3 := by omega
  have hl : (row zs).size = 49 := by rw [row_size, hr.len]
  have h2 : Block ((w.alloc (.cells (row zs) 80)).alloc (.cells #[.int .i64 0, .int .i64 0, .int .i64 0, .int .i64 0, .int .i64 0, .int .i64 0, .int .i64 0, .int .i64 0, .int .i64 0, .int .i64 0, .int .i64 0, .int .i64 0, .int .i64 0, .int .i64 0, .int .i64 0, .int .i64 0, .int .i64 0, .int .i64 0, .int .i64 0, .int .i64 0, .int .i64 0, .int .i64 0, .int .i64 0, .int .i64 0, .int .i64 0, .int .i64 0, .int .i64 0, .int .i64 0, .int .i64 0, .int .i64 0, .int .i64 0, .int .i64 0, .int .i64 0, .int .i64 0, .int .i64 0, .int .i64 0, .int .i64 0, .int .i64 0, .int .i64 0, .int .i64 0, .int .i64 0, .int .i64 0, .int .i64 0, .int .i64 0, .int .i64 0, .int .i64 0, .int .i64 0, .int .i64 0, .int .i64 0] 80)) w.heap.size 80 (row zs) := (Block.made _ _ _).alloc _
  have h4 : Block ((w.alloc (.cells (row zs) 80)).alloc (.cells #[.int .i64 0, .int .i64 0, .int .i64 0, .int .i64 0, .int .i64 0, .int .i64 0, .int .i64 0, .int .i64 0, .int .i64 0, .int .i64 0, .int .i64 0, .int .i64 0, .int .i64 0, .int .i64 0, .int .i64 0, .int .i64 0, .int .i64 0, .int .i64 0, .int .i64 0, .int .i64 0, .int .i64 0, .int .i64 0, .int .i64 0, .int .i64 0, .int .i64 0, .int .i64 0, .int .i64 0, .int .i64 0, .int .i64 0, .int .i64 0, .int .i64 0, .int .i64 0, .int .i64 0, .int .i64 0, .int .i64 0, .int .i64 0, .int .i64 0, .int .i64 0, .int .i64 0, .int .i64 0, .int .i64 0, .int .i64 0, .int .i64 0, .int .i64 0, .int .i64 0, .int .i64 0, .int .i64 0, .int .i64 0, .int .i64 0] 80)) (w.heap.size + 1) 80 #[.int .i64 0, .int .i64 0, .int .i64 0, .int .i64 0, .int .i64 0, .int .i64 0, .int .i64 0, .int .i64 0, .int .i64 0, .int .i64 0, .int .i64 0, .int .i64 0, .int .i64 0, .int .i64 0, .int .i64 0, .int .i64 0, .int .i64 0, .int .i64 0, .int .i64 0, .int .i64 0, .int .i64 0, .int .i64 0, .int .i64 0, .int .i64 0, .int .i64 0, .int .i64 0, .int .i64 0, .int .i64 0, .int .i64 0, .int .i64 0, .int .i64 0, .int .i64 0, .int .i64 0, .int .i64 0, .int .i64 0, .int .i64 0, .int .i64 0, .int .i64 0, .int .i64 0, .int .i64 0, .int .i64 0, .int .i64 0, .int .i64 0, .int .i64 0, .int .i64 0, .int .i64 0, .int .i64 0, .int .i64 0, .int .i64 0] := by
    have := Block.made (w.alloc (.cells (row zs) 80)) 80 #[.int .i64 0, .int .i64 0, .int .i64 0, .int .i64 0, .int .i64 0, .int .i64 0, .int .i64 0, .int .i64 0, .int .i64 0, .int .i64 0, .int .i64 0, .int .i64 0, .int .i64 0, .int .i64 0, .int .i64 0, .int .i64 0, .int .i64 0, .int .i64 0, .int .i64 0, .int .i64 0, .int .i64 0, .int .i64 0, .int .i64 0, .int .i64 0, .int .i64 0, .int .i64 0, .int .i64 0, .int .i64 0, .int .i64 0, .int .i64 0, .int .i64 0, .int .i64 0, .int .i64 0, .int .i64 0, .int .i64 0, .int .i64 0, .int .i64 0, .int .i64 0, .int .i64 0, .int .i64 0, .int .i64 0, .int .i64 0, .int .i64 0, .int .i64 0, .int .i64 0, .int .i64 0, .int .i64 0, .int .i64 0, .int .i64 0]
    rwa [World.size_alloc] at this
  have HL := Lib.hid hl
  have H2 := Lib.hid h2
  have H4 := Lib.hid h4
  clear hl h2 h4 e1 e2 hr hp
  go_enter Tryd.func37, Tryd.ntmps37
  go_wp2_with (first | (refine wpList_load_row rfl 80 (.tmp 2) rfl w.heap.size rfl _ (row zs) _ _ H2.out Tryd.underlying80 rfl (by rw [HL.out]; exact T64.info) ?_) | (refine wpList_store_row rfl 80 (.tmp 4) (.tmp 30) rfl (w.heap.size + 1) (row zs) rfl rfl _ _ H4.out (by rw [HL.out]; exact T64.info) (by rw [HL.out]; rfl) (row_one _) ?_))
  have hB := setRow_heap _ (w.heap.size + 1) _ (row zs) 80 _ H4.out
  exact bodyPost_ret (v := .agg (row zs)) (results_cell_row rfl _ _ (w.heap.size + 1) _ _ _ _ rfl hB Tryd.underlying80 rfl (by rw [HL.out]; exact T64.info)) rfl ⟨rfl, below_setRow (((Below.refl _ _).alloc (Nat.le_refl _) _).alloc (by simp) _) (by omega) _⟩

set_option maxRecDepth 100000 in
set_option maxHeartbeats 2000000 in
theorem come_some (z A C : List Int) (d : Nat) (v : Int) (q : List (Nat × Int)) (p : Nat) (zs : List Int) (w : World) (hr : TRow z A ((d, v) :: q) C p zs) (hq : q.length < 5) (hd : d < 4) :
    Calls Tryd.prog 37 #[.agg (row zs), .int .i64 p] w fun e w' => e = .returned (.agg (row ((z.take 12 ++ (z.drop 12).set d v) ++ (A ++ (qrow q ++ C))))) ∧ Below w.heap.size w w' := by
  obtain ⟨e1, e2⟩ := hr.mid
  have hm : (row zs)[16 + p * 11]? = some (.int .i64 ((q.length : Int) + 1)) := by
    rw [e1, ← e2, ← Nat.add_zero (z ++ A).length]
    exact row_mid (i := 0) rfl
  have hp := hr.hand
  have i1 : (0 : Int) ≤ p := by omega
  have i2 : (p : Int) < 3 := by omega
  have i3 : (0 : Int) < (q.length : Int) + 1 := by omega
  have h2 : Block ((w.alloc (.cells (row zs) 80)).alloc (.cells #[.int .i64 0, .int .i64 0, .int .i64 0, .int .i64 0, .int .i64 0, .int .i64 0, .int .i64 0, .int .i64 0, .int .i64 0, .int .i64 0, .int .i64 0, .int .i64 0, .int .i64 0, .int .i64 0, .int .i64 0, .int .i64 0, .int .i64 0, .int .i64 0, .int .i64 0, .int .i64 0, .int .i64 0, .int .i64 0, .int .i64 0, .int .i64 0, .int .i64 0, .int .i64 0, .int .i64 0, .int .i64 0, .int .i64 0, .int .i64 0, .int .i64 0, .int .i64 0, .int .i64 0, .int .i64 0, .int .i64 0, .int .i64 0, .int .i64 0, .int .i64 0, .int .i64 0, .int .i64 0, .int .i64 0, .int .i64 0, .int .i64 0, .int .i64 0, .int .i64 0, .int .i64 0, .int .i64 0, .int .i64 0, .int .i64 0] 80)) w.heap.size 80 (row zs) := (Block.made _ _ _).alloc _
  have h4 : Block ((w.alloc (.cells (row zs) 80)).alloc (.cells #[.int .i64 0, .int .i64 0, .int .i64 0, .int .i64 0, .int .i64 0, .int .i64 0, .int .i64 0, .int .i64 0, .int .i64 0, .int .i64 0, .int .i64 0, .int .i64 0, .int .i64 0, .int .i64 0, .int .i64 0, .int .i64 0, .int .i64 0, .int .i64 0, .int .i64 0, .int .i64 0, .int .i64 0, .int .i64 0, .int .i64 0, .int .i64 0, .int .i64 0, .int .i64 0, .int .i64 0, .int .i64 0, .int .i64 0, .int .i64 0, .int .i64 0, .int .i64 0, .int .i64 0, .int .i64 0, .int .i64 0, .int .i64 0, .int .i64 0, .int .i64 0, .int .i64 0, .int .i64 0, .int .i64 0, .int .i64 0, .int .i64 0, .int .i64 0, .int .i64 0, .int .i64 0, .int .i64 0, .int .i64 0, .int .i64 0] 80)) (w.heap.size + 1) 80 #[.int .i64 0, .int .i64 0, .int .i64 0, .int .i64 0, .int .i64 0, .int .i64 0, .int .i64 0, .int .i64 0, .int .i64 0, .int .i64 0, .int .i64 0, .int .i64 0, .int .i64 0, .int .i64 0, .int .i64 0, .int .i64 0, .int .i64 0, .int .i64 0, .int .i64 0, .int .i64 0, .int .i64 0, .int .i64 0, .int .i64 0, .int .i64 0, .int .i64 0, .int .i64 0, .int .i64 0, .int .i64 0, .int .i64 0, .int .i64 0, .int .i64 0, .int .i64 0, .int .i64 0, .int .i64 0, .int .i64 0, .int .i64 0, .int .i64 0, .int .i64 0, .int .i64 0, .int .i64 0, .int .i64 0, .int .i64 0, .int .i64 0, .int .i64 0, .int .i64 0, .int .i64 0, .int .i64 0, .int .i64 0, .int .i64 0] := by
    have := Block.made (w.alloc (.cells (row zs) 80)) 80 #[.int .i64 0, .int .i64 0, .int .i64 0, .int .i64 0, .int .i64 0, .int .i64 0, .int .i64 0, .int .i64 0, .int .i64 0, .int .i64 0, .int .i64 0, .int .i64 0, .int .i64 0, .int .i64 0, .int .i64 0, .int .i64 0, .int .i64 0, .int .i64 0, .int .i64 0, .int .i64 0, .int .i64 0, .int .i64 0, .int .i64 0, .int .i64 0, .int .i64 0, .int .i64 0, .int .i64 0, .int .i64 0, .int .i64 0, .int .i64 0, .int .i64 0, .int .i64 0, .int .i64 0, .int .i64 0, .int .i64 0, .int .i64 0, .int .i64 0, .int .i64 0, .int .i64 0, .int .i64 0, .int .i64 0, .int .i64 0, .int .i64 0, .int .i64 0, .int .i64 0, .int .i64 0, .int .i64 0, .int .i64 0, .int .i64 0]
    rwa [World.size_alloc] at this
  have hbe : Below w.heap.size w ((w.alloc (.cells (row zs) 80)).alloc (.cells #[.int .i64 0, .int .i64 0, .int .i64 0, .int .i64 0, .int .i64 0, .int .i64 0, .int .i64 0, .int .i64 0, .int .i64 0, .int .i64 0, .int .i64 0, .int .i64 0, .int .i64 0, .int .i64 0, .int .i64 0, .int .i64 0, .int .i64 0, .int .i64 0, .int .i64 0, .int .i64 0, .int .i64 0, .int .i64 0, .int .i64 0, .int .i64 0, .int .i64 0, .int .i64 0, .int .i64 0, .int .i64 0, .int .i64 0, .int .i64 0, .int .i64 0, .int .i64 0, .int .i64 0, .int .i64 0, .int .i64 0, .int .i64 0, .int .i64 0, .int .i64 0, .int .i64 0, .int .i64 0, .int .i64 0, .int .i64 0, .int .i64 0, .int .i64 0, .int .i64 0, .int .i64 0, .int .i64 0, .int .i64 0, .int .i64 0] 80)) := ((Below.refl _ _).alloc (Nat.le_refl _) _).alloc (by simp) _
  have HR := Lib.hid hr
  have HE := Lib.hid e2
  have hzl := hr.z16
  have HZ := Lib.hid hzl
  have HQ := Lib.hid hq
  obtain ⟨W, hW⟩ : ∃ W, W = ((w.alloc (.cells (row zs) 80)).alloc (.cells #[.int .i64 0, .int .i64 0, .int .i64 0, .int .i64 0, .int .i64 0, .int .i64 0, .int .i64 0, .int .i64 0, .int .i64 0, .int .i64 0, .int .i64 0, .int .i64 0, .int .i64 0, .int .i64 0, .int .i64 0, .int .i64 0, .int .i64 0, .int .i64 0, .int .i64 0, .int .i64 0, .int .i64 0, .int .i64 0, .int .i64 0, .int .i64 0, .int .i64 0, .int .i64 0, .int .i64 0, .int .i64 0, .int .i64 0, .int .i64 0, .int .i64 0, .int .i64 0, .int .i64 0, .int .i64 0, .int .i64 0, .int .i64 0, .int .i64 0, .int .i64 0, .int .i64 0, .int .i64 0, .int .i64 0, .int .i64 0, .int .i64 0, .int .i64 0, .int .i64 0, .int .i64 0, .int .i64 0, .int .i64 0, .int .i64 0] 80)) := ⟨_, rfl⟩
  have HBE := Lib.hid (show Below w.heap.size w W by rw [hW]; exact hbe)
  have H2 := Lib.hid (show Block W w.heap.size 80 (row zs) by rw [hW]; exact h2)
  have H4 := Lib.hid (show Block W (w.heap.size + 1) 80 #[.int .i64 0, .int .i64 0, .int .i64 0, .int .i64 0, .int .i64 0, .int .i64 0, .int .i64 0, .int .i64 0, .int .i64 0, .int .i64 0, .int .i64 0, .int .i64 0, .int .i64 0, .int .i64 0, .int .i64 0, .int .i64 0, .int .i64 0, .int .i64 0, .int .i64 0, .int .i64 0, .int .i64 0, .int .i64 0, .int .i64 0, .int .i64 0, .int .i64 0, .int .i64 0, .int .i64 0, .int .i64 0, .int .i64 0, .int .i64 0, .int .i64 0, .int .i64 0, .int .i64 0, .int .i64 0, .int .i64 0, .int .i64 0, .int .i64 0, .int .i64 0, .int .i64 0, .int .i64 0, .int .i64 0, .int .i64 0, .int .i64 0, .int .i64 0, .int .i64 0, .int .i64 0, .int .i64 0, .int .i64 0, .int .i64 0] by rw [hW]; exact h4)
  have HW := Lib.hid hW
  have HSZ := Lib.hid (show W.heap.size = w.heap.size + 2 by rw [hW]; simp)
  clear h2 h4 e1 e2 hr hp hbe hW hzl hq
  go_enter Tryd.func37, Tryd.ntmps37
  go_upto_region 2 with fail
  rw [← HW.out]
  have HW2 := HW
  clear HW HW2 hm
  go_wp2_with (refine wpList_load_mid rfl 63 _ rfl w.heap.size 0 rfl (z.map (Value.int .i64)) _ (by have := HR.out.eq; have h := H2.out; rw [this] at h; exact h.range16) Tryd.underlying63 rfl (by rw [List.length_map, HZ.out]; exact Tst.info) ?_)
  refine (words_any z W HZ.out).mono ?_
  rintro e w1 ⟨rfl, hb1⟩
  have hs1 := hb1.size
  have b1 := H2.out.below hb1 (by rw [HSZ.out]; omega)
  have b14 := H4.out.below hb1 (by rw [HSZ.out]; omega)
  have HBE1 := Lib.hid (HBE.out.trans (hb1.mono HBE.out.size))
  have hs2 : w.heap.size + 2 ≤ w1.heap.size := by rw [← HSZ.out]; exact hs1
  have HB1 := Lib.hid b1
  have HB14 := Lib.hid b14
  obtain ⟨ws, hws⟩ : ∃ ws, ws = z.drop 12 := ⟨_, rfl⟩
  have hw4 : ws.length = 4 := by rw [hws, List.length_drop, HZ.out]
  rw [← hws]
  have HWS := Lib.hid hws
  have HW4 := Lib.hid (show (row ws).size = 4 by rw [row_size, hw4])
  clear hb1 hs1 b1 b14 HSZ HBE H2 H4 hws hw4
  go_wp2_with (refine wpList_store_row rfl 61 (.tmp 5) (.tmp 15) rfl w1.heap.size (row ws) rfl rfl _ _ (heap_alloc_new w1 _) (by rw [HW4.out]; exact T4.info) (by rw [HW4.out]; rfl) (row_one _) ?_)
  obtain ⟨w2, hw2⟩ : ∃ w2, w2 = (w1.alloc (.cells #[.int .i64 0, .int .i64 0, .int .i64 0, .int .i64 0] 61)).setRow w1.heap.size (row ws) := ⟨_, rfl⟩
  rw [← hw2]
  have t2 : Touch (fun _ => False) w1 w2 := by rw [hw2]; exact ((Touch.refl _ w1).alloc _).setRow (Or.inr (Nat.le_refl _)) _
  have k5 : Block w2 w1.heap.size 61 (row ws) := by rw [hw2]; exact setRow_heap _ _ _ _ _ _ (heap_alloc_new w1 _)
  have ht := rtake_any w.heap.size 80 (z ++ A) C (d, v) q w2 (by have h := HB1.out.touch t2 (fun h => h); rwa [HR.out.mid.1] at h) HQ.out
  rw [HE.out] at ht
  have K5 := Lib.hid k5
  have HB24 := Lib.hid (HB14.out.touch t2 (fun h => h))
  have HBE2 := Lib.hid (HBE1.out.trans (t2.below HBE1.out.size (fun _ h => h.elim)))
  have hs3 := K5.out.lt
  clear hw2 t2 k5 HBE1 HB14 HB1
  refine ht.mono ?_
  clear ht
  rintro e w3 ⟨rfl, ht3, hb3⟩
  have HB3 := Lib.hid hb3
  have HB34 := Lib.hid (HB24.out.touch ht3 (by omega))
  have HBE3 := Lib.hid (HBE2.out.trans (ht3.below HBE2.out.size (fun i h => by omega)))
  have k5 := K5.out.touch ht3 (by omega)
  have c5 := k5.cell d
  have f5 := k5.free d
  obtain ⟨x, hx⟩ : ∃ x, ws[d]? = some x := ⟨_, List.getElem?_eq_getElem (by have := HW4.out; rw [row_size] at this; omega)⟩
  rw [row_get hx] at c5
  have hd4 : (d : Int) < 4 := by omega
  have hd0 : (0 : Int) ≤ d := by omega
  have K53 := Lib.hid k5
  have hs4 : w1.heap.size < w3.heap.size := k5.lt
  clear hb3 ht3 k5 K5 HBE2 HB24 hx
  go_upto_region 5 with fail
  obtain ⟨w4, hw4⟩ : ∃ w4, w4 = (w3.setCell ⟨w1.heap.size, d, none⟩ (.int .i64 v)).alloc (.cells #[.int .i64 d, .int .i64 v] 74) := ⟨_, rfl⟩
  rw [← hw4]
  have t4 : Touch (fun k => k = w1.heap.size) w3 w4 := by rw [hw4]; exact ((Touch.refl (fun k => k = w1.heap.size) w3).setCell (p := ⟨w1.heap.size, d, none⟩) (Or.inl rfl) _).alloc _
  have k5 : Block w4 w1.heap.size 61 (row (ws.set d v)) := by rw [hw4, ← row_set]; exact (K53.out.put d _).alloc _
  have b4 := HB3.out.touch t4 (by omega)
  rw [List.append_assoc] at b4
  have b44 := HB34.out.touch t4 (by omega)
  have HBE4 := Lib.hid (HBE3.out.trans (t4.below HBE3.out.size (fun i h => by omega)))
  have hs5 : w1.heap.size < w4.heap.size := k5.lt
  have HB4 := Lib.hid b4
  have HB44 := Lib.hid b44
  have K54 := Lib.hid k5
  have HWL := Lib.hid (show (ws.set d v).length = 4 by have := HW4.out; rw [row_size] at this; rw [List.length_set, this])
  clear hw4 t4 b4 b44 k5 K53 HB3 HB34 HBE3 c5 f5
  go_wp2_with (first | (refine wpList_load_mid rfl 63 (.tmp 25) rfl w.heap.size 0 rfl (z.map (Value.int .i64)) _ HB4.out.range16 Tryd.underlying63 rfl (by rw [List.length_map, HZ.out]; exact Tst.info) ?_) | (refine wpList_load_row rfl 61 (.tmp 5) rfl w1.heap.size rfl _ (row (ws.set d v)) _ _ K54.out Tryd.underlying61 rfl (by rw [row_size, HWL.out]; exact T4.info) ?_))
  refine (with_any z (ws.set d v) w4 HZ.out HWL.out).mono ?_
  rintro e w5 ⟨rfl, hb5⟩
  have b5 := HB4.out.below hb5 (by omega)
  have b54 := HB44.out.below hb5 (by omega)
  have HBE5 := Lib.hid (HBE4.out.trans (hb5.mono HBE4.out.size))
  have hyl : (z.take 12 ++ ws.set d v).length = 16 := by rw [List.length_append, List.length_take, HZ.out, HWL.out]; rfl
  have B5 := Lib.hid b5
  have B54 := Lib.hid b54
  have HYL := Lib.hid hyl
  have HRY := Lib.hid (show (row (z.take 12 ++ ws.set d v)).size = 16 by rw [row_size, hyl])
  clear hb5 b5 b54 HB4 HB44 HBE4 hyl K54
  go_upto_region 6 with (refine wpList_store_mid rfl 63 (.tmp 29) (.tmp 28) rfl w.heap.size 0 (row (z.take 12 ++ ws.set d v)) rfl rfl (B5.out.there16 (by rw [HRY.out, HZ.out])) (by rw [HRY.out]; exact Tst.info) (row_one _) ?_)
  obtain ⟨w6, hw6⟩ : ∃ w6, w6 = w5.setCells w.heap.size 0 (row (z.take 12 ++ ws.set d v)).toList := ⟨_, rfl⟩
  rw [← hw6]
  have t6 : Touch (fun k => k = w.heap.size) w5 w6 := by rw [hw6]; exact touch_setCells (O := fun k => k = w.heap.size) (Touch.refl _ w5) (Or.inl rfl) _ _
  have b6 : Block w6 w.heap.size 80 (row ((z.take 12 ++ ws.set d v) ++ (A ++ (qrow q ++ C)))) := by
    rw [hw6]
    exact B5.out.set16 HZ.out HYL.out
  have b64 := B54.out.touch t6 (by omega)
  have HBE6 := Lib.hid (HBE5.out.trans (t6.below HBE5.out.size (fun i h => by omega)))
  have hrl : (row ((z.take 12 ++ ws.set d v) ++ (A ++ (qrow q ++ C)))).size = 49 := by
    have h := HR.out.mk' (q' := q) HYL.out (by have := HQ.out; simp; omega) (by have := HQ.out; omega)
    rw [row_size, h.len]
  have B6 := Lib.hid b6
  have B64 := Lib.hid b64
  have HRL := Lib.hid hrl
  obtain ⟨ys, hys⟩ : ∃ ys, ys = (z.take 12 ++ ws.set d v) ++ (A ++ (qrow q ++ C)) := ⟨_, rfl⟩
  rw [← hys] at B6 HRL
  have HYS := Lib.hid hys
  clear hw6 t6 b6 b64 hrl HBE5 B5 B54 hys
  go_wp2_with (first | (refine wpList_load_row rfl 80 (.tmp 2) rfl w.heap.size rfl _ (row ys) _ _ B6.out Tryd.underlying80 rfl (by rw [HRL.out]; exact T64.info) ?_) | (refine wpList_store_row rfl 80 (.tmp 4) (.tmp 30) rfl (w.heap.size + 1) (row ys) rfl rfl _ _ B64.out (by rw [HRL.out]; exact T64.info) (by rw [HRL.out]; rfl) (row_one _) ?_))
  have hB := setRow_heap w6 (w.heap.size + 1) _ (row ys) 80 _ B64.out
  exact bodyPost_ret (v := .agg (row ys)) (results_cell_row rfl _ _ (w.heap.size + 1) _ _ _ _ rfl hB Tryd.underlying80 rfl (by rw [HRL.out]; exact T64.info)) rfl ⟨by rw [HYS.out, HWS.out], below_setRow HBE6.out (by omega) _⟩
end Go.Proofs.YthpnnmkpbkbanaaDoor
