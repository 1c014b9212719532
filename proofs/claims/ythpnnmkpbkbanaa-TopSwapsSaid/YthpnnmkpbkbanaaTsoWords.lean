/-
  What (prog.State).Words and WithWords answer.
-/
import Derived.Test.YthpnnmkpbkbanaaTsoMem
namespace Go.Proofs.Ythpnnmkpbkbanaa
open Go.RowKit

theorem l16w (l : List Int) (h : l.length = 16) : ∃ z0 z1 z2 z3 z4 z5 z6 z7 z8 z9 z10 z11 z12 z13 z14 z15, l = [z0, z1, z2, z3, z4, z5, z6, z7, z8, z9, z10, z11, z12, z13, z14, z15] := by
  match l, h with
  | [z0, z1, z2, z3, z4, z5, z6, z7, z8, z9, z10, z11, z12, z13, z14, z15], _ => exact ⟨z0, z1, z2, z3, z4, z5, z6, z7, z8, z9, z10, z11, z12, z13, z14, z15, rfl⟩
theorem getD_at' {zs : List Int} {i : Nat} (h : i < zs.length) : zs[i]? = some (zs.getD i 0) := by simp [List.getD_eq_getElem?_getD, List.getElem?_eq_getElem h]
theorem T4.at_ (a : Addr) (w : World) : (Instr.arrayAt 43 (.slice (some a) 4 4)).run Try.prog w = .ok (.pointer (some a)) w := by
  simp [Instr.arrayAt, run_underlying Try.underlying43, go_sem]
theorem T1.info : (Try.prog.info? 3).map (·.size) = some 1 := by kernel_rfl

set_option maxRecDepth 100000 in
set_option maxHeartbeats 1000000 in
theorem words_any (zs : List Int) (w : World) (hz : zs.length = 16) :
    Calls Try.prog 34 #[.agg (row zs)] w fun e w' => e = .returned (.agg (row (zs.drop 12))) ∧ Below w.heap.size w w' := by
  have HZ := Lib.hid hz
  have h1 : Block ((w.alloc (.cells (row zs) 45)).alloc (.cells #[.int .i64 0, .int .i64 0, .int .i64 0, .int .i64 0] 43)) w.heap.size 45 (row zs) := (Block.made _ _ _).alloc _
  have h2 : Block ((w.alloc (.cells (row zs) 45)).alloc (.cells #[.int .i64 0, .int .i64 0, .int .i64 0, .int .i64 0] 43)) (w.heap.size + 1) 43 #[.int .i64 0, .int .i64 0, .int .i64 0, .int .i64 0] := by
    have := Block.made (w.alloc (.cells (row zs) 45)) 43 #[.int .i64 0, .int .i64 0, .int .i64 0, .int .i64 0]
    rwa [World.size_alloc] at this
  have hr : World.rangeAt ((w.alloc (.cells (row zs) 45)).alloc (.cells #[.int .i64 0, .int .i64 0, .int .i64 0, .int .i64 0] 43)) w.heap.size 12 ((zs.drop 12).map (Value.int .i64)) := by
    intro j u hj
    rw [List.getElem?_map, List.getElem?_drop] at hj
    cases e : zs[12 + j]? with
    | none => rw [e] at hj; cases hj
    | some z =>
      rw [e] at hj
      obtain rfl := Option.some.inj hj
      exact (h1.cell _).trans (row_get e)
  have HR := Lib.hid hr
  have H2 := Lib.hid h2
  have HL := Lib.hid (show ((zs.drop 12).map (Value.int .i64)).length = 4 by rw [List.length_map, List.length_drop, hz])
  clear hz h1 h2 hr
  have hat := T4.at_ ⟨w.heap.size, 12, none⟩
  go_enter Try.func34, Try.ntmps34
  go_wp2_with (first | (refine wpList_load_mid rfl 43 _ rfl w.heap.size 12 rfl ((zs.drop 12).map (Value.int .i64)) _ HR.out Try.underlying43 rfl (by rw [HL.out]; exact T4.info) ?_) | (refine wpList_store_row rfl 43 (.tmp 2) (.tmp 6) rfl (w.heap.size + 1) (row (zs.drop 12)) rfl rfl _ _ H2.out (by rw [row_size, ← List.length_map (f := Value.int .i64), HL.out]; exact T4.info) (by rw [row_size, ← List.length_map (f := Value.int .i64), HL.out]; rfl) (row_one _) ?_))
  have hB := setRow_heap _ (w.heap.size + 1) _ (row (zs.drop 12)) 43 _ H2.out
  exact bodyPost_ret (v := .agg (row (zs.drop 12))) (results_cell_row rfl _ _ (w.heap.size + 1) _ _ _ _ rfl hB Try.underlying43 rfl (by rw [row_size, ← List.length_map (f := Value.int .i64), HL.out]; exact T4.info)) rfl ⟨rfl, below_setRow (((Below.refl _ _).alloc (Nat.le_refl _) _).alloc (by simp) _) (by omega) _⟩

theorem paste16 (zs ws : List Int) (hz : zs.length = 16) (hw : ws.length = 4) : pasteAt zs 12 ws = zs.take 12 ++ ws := by
  obtain ⟨z0, z1, z2, z3, z4, z5, z6, z7, z8, z9, z10, z11, z12, z13, z14, z15, rfl⟩ := l16w zs hz
  obtain ⟨a, b, c, d, rfl⟩ := l4w ws hw
  rfl

set_option maxRecDepth 100000 in
set_option maxHeartbeats 1000000 in
theorem with_any (zs ws : List Int) (w : World) (hz : zs.length = 16) (hw : ws.length = 4) :
    Calls Try.prog 35 #[.agg (row zs), .agg (row ws)] w fun e w' => e = .returned (.agg (row (zs.take 12 ++ ws))) ∧ Below w.heap.size w w' := by
  have HP := Lib.hid (paste16 zs ws hz hw)
  have HZ := Lib.hid hz
  have HW := Lib.hid hw
  clear hz hw
  go_enter Try.func35, Try.ntmps35
  go_wp2_with fail
  obtain ⟨W, hW⟩ : ∃ W, W = ((w.alloc (.cells (row zs) 45)).alloc (.cells (row ws) 43)).alloc (.cells #[.int .i64 0, .int .i64 0, .int .i64 0, .int .i64 0, .int .i64 0, .int .i64 0, .int .i64 0, .int .i64 0, .int .i64 0, .int .i64 0, .int .i64 0, .int .i64 0, .int .i64 0, .int .i64 0, .int .i64 0, .int .i64 0] 45) := ⟨_, rfl⟩
  rw [← hW]
  have h2 : Block W w.heap.size 45 (row zs) := by rw [hW]; exact ((Block.made _ _ _).alloc _).alloc _
  have h3 : Block W (w.heap.size + 1) 43 (row ws) := by
    rw [hW]
    have := Block.made (w.alloc (.cells (row zs) 45)) 43 (row ws)
    rw [World.size_alloc] at this
    exact this.alloc _
  have h4 : Block W (w.heap.size + 1 + 1) 45 #[.int .i64 0, .int .i64 0, .int .i64 0, .int .i64 0, .int .i64 0, .int .i64 0, .int .i64 0, .int .i64 0, .int .i64 0, .int .i64 0, .int .i64 0, .int .i64 0, .int .i64 0, .int .i64 0, .int .i64 0, .int .i64 0] := by
    rw [hW]
    have := Block.made ((w.alloc (.cells (row zs) 45)).alloc (.cells (row ws) 43)) 45 #[.int .i64 0, .int .i64 0, .int .i64 0, .int .i64 0, .int .i64 0, .int .i64 0, .int .i64 0, .int .i64 0, .int .i64 0, .int .i64 0, .int .i64 0, .int .i64 0, .int .i64 0, .int .i64 0, .int .i64 0, .int .i64 0]
    rwa [World.size_alloc, World.size_alloc] at this
  have hbe : Below w.heap.size w W := by rw [hW]; exact (((Below.refl _ _).alloc (Nat.le_refl _) _).alloc (by simp) _).alloc (by simp; omega) _
  have hrun : (Builtin.copy_ #[34, 34] 3 #[.slice (some ⟨w.heap.size, 12, none⟩) 4 4, .slice (some ⟨w.heap.size + 1, 0, none⟩) 4 4]).run Try.prog W.drew = .ok (goInt (Nat.min 4 4)) (W.drew.setCells w.heap.size 12 (ws.map (Value.int .i64))) := by
    refine run_copy_wide W.drew _ _ _ 3 1 w.heap.size 12 4 4 ⟨w.heap.size + 1, 0, none⟩ 4 4 (ws.map (Value.int .i64)) Try.underlying34 T1.info (by rw [List.length_map, HW.out]; rfl) (fun j u hj => ?_) (fun j hj => ?_) (fun j _ => h2.free _) (fun u hu => ?_)
    · rw [List.getElem?_map] at hj
      cases e : ws[j]? with
      | none => rw [e] at hj; cases hj
      | some z =>
        rw [e] at hj
        obtain rfl := Option.some.inj hj
        rw [Addr.add_lit, Nat.zero_add]
        exact (h3.cell j).trans (row_get e)
    · rw [List.length_map, HW.out] at hj
      rw [show W.drew.cell? ⟨w.heap.size, 12 + j, none⟩ = _ from (h2.cell (12 + j)).trans (row_get (getD_at' (zs := zs) (i := 12 + j) (by have := HZ.out; omega)))]
      rfl
    · obtain ⟨z, _, rfl⟩ := List.mem_map.1 hu
      rfl
  have HRUN := Lib.hid hrun
  have hX : Block (W.drew.setCells w.heap.size 12 (ws.map (Value.int .i64))) w.heap.size 45 (row (zs.take 12 ++ ws)) := by
    have := Block.pasteMid (pre := []) (post := []) ws zs W.drew 12 (by have h2' : Block W.drew w.heap.size 45 (row zs) := h2; simpa using h2') (by rw [HW.out, HZ.out]; omega)
    simpa [HP.out] using this
  have hX4 : Block (W.drew.setCells w.heap.size 12 (ws.map (Value.int .i64))) (w.heap.size + 1 + 1) 45 #[.int .i64 0, .int .i64 0, .int .i64 0, .int .i64 0, .int .i64 0, .int .i64 0, .int .i64 0, .int .i64 0, .int .i64 0, .int .i64 0, .int .i64 0, .int .i64 0, .int .i64 0, .int .i64 0, .int .i64 0, .int .i64 0] :=
    h4.touch (touch_setCells (O := fun k => k = w.heap.size) ((Touch.refl _ W).drew) (Or.inl rfl) _ _) (by omega)
  have hbx : Below w.heap.size w (W.drew.setCells w.heap.size 12 (ws.map (Value.int .i64))) :=
    hbe.trans ((touch_setCells (O := fun k => k = w.heap.size) ((Touch.refl _ W).drew) (Or.inl rfl) _ _).below hbe.size (fun i h => by omega))
  have HX := Lib.hid hX
  have HX4 := Lib.hid hX4
  have HBX := Lib.hid hbx
  have HL := Lib.hid (show (row (zs.take 12 ++ ws)).size = 16 by rw [row_size, List.length_append, List.length_take, HZ.out, HW.out]; rfl)
  clear hW h2 h3 h4 hbe hrun hX hX4 hbx
  go_still_tail 3, (by kernel_rfl)
  change wpList _ _ _ _ _ W.drew
  refine Lib.wpList_copy_run _ rfl _ _ 34 34 rfl _ _ rfl rfl HRUN.out ?_
  obtain ⟨X, hXX⟩ : ∃ X, X = W.drew.setCells w.heap.size 12 (ws.map (Value.int .i64)) := ⟨_, rfl⟩
  rw [← hXX] at HX HX4 HBX ⊢
  clear hXX HRUN
  go_wp2_with (first | (refine wpList_load_row rfl 45 (.tmp 2) rfl w.heap.size rfl _ (row (zs.take 12 ++ ws)) _ _ HX.out Try.underlying45 rfl (by rw [HL.out]; exact Tst.info) ?_) | (refine wpList_store_row rfl 45 (.tmp 4) (.tmp 9) rfl (w.heap.size + 1 + 1) (row (zs.take 12 ++ ws)) rfl rfl _ _ HX4.out (by rw [HL.out]; exact Tst.info) (by rw [HL.out]; rfl) (row_one _) ?_))
  have hB := setRow_heap X (w.heap.size + 1 + 1) _ (row (zs.take 12 ++ ws)) 45 _ HX4.out
  exact bodyPost_ret (v := .agg (row (zs.take 12 ++ ws))) (results_cell_row rfl _ _ (w.heap.size + 1 + 1) _ _ _ _ rfl hB Try.underlying45 rfl (by rw [HL.out]; exact Tst.info)) rfl ⟨rfl, below_setRow HBX.out (by omega) _⟩
end Go.Proofs.Ythpnnmkpbkbanaa
