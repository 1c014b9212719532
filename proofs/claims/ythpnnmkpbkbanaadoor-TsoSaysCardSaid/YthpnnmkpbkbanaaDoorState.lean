/-
  What (prog.state).done, step, finish and told answer.
-/
import Derived.Test.YthpnnmkpbkbanaaDoorFits
import Derived.LoopTactic
import Derived.RegionTactic
import Derived.Test.YthpnnmkpbkbanaaDoorFinMath
namespace Go.Proofs.YthpnnmkpbkbanaaDoor
open Go.RowKit

theorem row_one (zs : List Int) : (row zs).all (·.oneCell') = true := by
  rw [Array.all_eq_true_iff_forall_mem]
  intro v hv
  simp [row] at hv
  obtain ⟨a, _, rfl⟩ := hv
  rfl
theorem row_at (zs : List Int) (i : Nat) (h : i < zs.length) : ∃ x, (row zs)[i]? = some (.int .i64 x) := ⟨zs[i], row_get (List.getElem?_eq_getElem h)⟩
theorem below_setRow {B : Nat} {a w : World} (h : Below B a w) {g : Nat} (hg : B ≤ g) (cs : Array Value) : Below B a (w.setRow g cs) :=
  ⟨h.os, h.tape, h.output, by simpa [World.setRow] using h.size, fun k hk => (setRow_other w g k cs (by omega)).trans (h.block k hk)⟩
theorem row_set (zs : List Int) (i : Nat) (z : Int) : (row zs).setIfInBounds i (.int .i64 z) = row (zs.set i z) := by
  apply Array.ext'
  simp [row, List.map_set]

theorem Tst.info : (Tryd.prog.info? 63).map (·.size) = some 16 := by kernel_rfl

set_option maxHeartbeats 1000000 in
theorem next_some (zs : List Int) (words : Int) (hv : Value) (hs : List (List Ln)) (h : Nat) (ls : List Ln) (n : Nat) (l : Ln) (w : World) (hh : Hands w w.heap.size hv hs) (hl : hs[h]? = some ls) (h3 : hs.length ≤ 3)
    (hp : zs[h * 4 + 2]? = some (n : Int)) (hln : ls[n]? = some l) :
    Calls Tryd.prog 48 #[.agg (row zs), .agg #[.int .i64 words, hv], .int .i64 h] w fun e w' => e = .returned (.tuple #[.agg #[.int .i64 l.k, .int .i64 l.r, .int .i64 l.d, .int .i64 l.v], .bool true]) ∧ Below w.heap.size w w' := by
  obtain ⟨A, c, rfl, hlen, hh⟩ := hh
  have hlt : h < hs.length := (List.getElem?_eq_some_iff.1 hl).1
  obtain ⟨b, o, rfl, hb, hc⟩ := hh (by omega)
  obtain ⟨u, hu, hL⟩ := hc h ls hl
  obtain ⟨A', c', rfl, hl2, hL⟩ := hL
  have hnl : n < ls.length := (List.getElem?_eq_some_iff.1 hln).1
  obtain ⟨b2, o2, rfl, hb2, hc2⟩ := hL (by omega)
  obtain ⟨f0, f1, f2, f3⟩ := hc2 _ _ hln
  obtain ⟨lk, lr, ld, lv⟩ := l
  simp only at f0 f1 f2 f3
  have hr := row_get hp
  clear hh hc hL hl hp hc2 hln
  have i1 : (0 : Int) ≤ (h : Int) := by omega
  have i2 : (h : Int) < 4 := by omega
  have i3 : (h : Int) < hs.length := by omega
  have hge : decide ((ls.length : Int) ≤ n) = false := by simp; omega
  have hge2 : decide (ls.length ≤ n) = false := by simp; omega
  go_enter Tryd.func48, Tryd.ntmps48
  go_wp2
  obtain ⟨W, B1, B2, B3, hW, hS, hWW⟩ : ∃ W, Block W w.heap.size 63 (row zs) ∧ Block W (w.heap.size + 1) 24 #[.int .i64 words, .slice (some ⟨b, o, none⟩) hs.length c] ∧ Block W (w.heap.size + 2) 40 #[.int .i64 0, .int .i64 0, .int .i64 0, .int .i64 0] ∧ Below w.heap.size w W ∧ W.heap.size = w.heap.size + 3 ∧ W = (((w.alloc (.cells (row zs) 63)).alloc (.cells #[.int .i64 words, .slice (some ⟨b, o, none⟩) hs.length c] 24)).alloc (.cells #[.int .i64 0, .int .i64 0, .int .i64 0, .int .i64 0] 40)) :=
    ⟨_, ((Block.made _ _ _).alloc _).alloc _, (by simpa using (Block.made (w.alloc _) _ _).alloc _), (by simpa using Block.made ((w.alloc _).alloc _) _ _), (((Below.refl _ _).alloc (Nat.le_refl _) _).alloc (by simp) _).alloc (by simp; omega) _, (by simp), rfl⟩
  rw [← hWW]
  clear hWW
  have e1 := (hW.cell (p := ⟨b, o + h, none⟩) hb).trans hu
  have e2 := B2.cell 1
  have e3 := (B1.cell (h * 4 + 2)).trans hr
  simp at e2
  have g0 := (hW.cell (p := ⟨b2, o2 + n * 4, none⟩) hb2).trans f0
  have g1 := (hW.cell (p := ⟨b2, o2 + n * 4 + 1, none⟩) hb2).trans f1
  have g2 := (hW.cell (p := ⟨b2, o2 + n * 4 + 2, none⟩) hb2).trans f2
  have g3 := (hW.cell (p := ⟨b2, o2 + n * 4 + 3, none⟩) hb2).trans f3
  clear f0 f1 f2 f3
  have z0 := B3.cell 0
  have z1 := B3.cell 1
  have z2 := B3.cell 2
  have z3 := B3.cell 3
  have y0 := B3.free 0
  have y1 := B3.free 1
  have y2 := B3.free 2
  have y3 := B3.free 3
  simp at z0 z1 z2 z3
  have HB3 := Lib.hid B3
  have HS := Lib.hid hS
  clear B1 B2 B3 hu hr hS
  go_region
  clear e1 e2 e3
  go_wp2
  refine bodyPost_ret (v := .tuple #[.agg #[.int .i64 lk, .int .i64 lr, .int .i64 ld, .int .i64 lv], .bool true]) (by simp [results, Tryd.results48, go_sem, z0, z1, z2, z3]) rfl ⟨rfl, ?_⟩
  repeat (first | exact hW | exact hW.drew | refine Below.setCell (p := ⟨_, _, none⟩) ?_ (by simp; omega) _ | refine Below.drew ?_)


set_option maxHeartbeats 1000000 in
theorem next_none (zs : List Int) (words : Int) (hv : Value) (hs : List (List Ln)) (h : Nat) (ls : List Ln) (n : Nat) (w : World) (hh : Hands w w.heap.size hv hs) (hl : hs[h]? = some ls) (h3 : hs.length ≤ 3)
    (hp : zs[h * 4 + 2]? = some (n : Int)) (hge : ls.length ≤ n) :
    Calls Tryd.prog 48 #[.agg (row zs), .agg #[.int .i64 words, hv], .int .i64 h] w fun e w' => e = .returned (.tuple #[.agg #[.int .i64 0, .int .i64 0, .int .i64 0, .int .i64 0], .bool false]) ∧ Below w.heap.size w w' := by
  obtain ⟨A, c, rfl, hlen, hh⟩ := hh
  have hlt : h < hs.length := (List.getElem?_eq_some_iff.1 hl).1
  obtain ⟨b, o, rfl, hb, hc⟩ := hh (by omega)
  obtain ⟨u, hu, hL⟩ := hc h ls hl
  obtain ⟨A', c', rfl, hl2, hL⟩ := hL
  have hr := row_get hp
  clear hh hc hL hl hp
  have i1 : (0 : Int) ≤ (h : Int) := by omega
  have i2 : (h : Int) < 4 := by omega
  have i3 : (h : Int) < hs.length := by omega
  have hge1 : decide ((ls.length : Int) ≤ n) = true := by simp; omega
  have hge2 : decide (ls.length ≤ n) = true := by simp; omega
  go_enter Tryd.func48, Tryd.ntmps48
  go_wp2
  obtain ⟨W, B1, B2, B3, hW, hS, hWW⟩ : ∃ W, Block W w.heap.size 63 (row zs) ∧ Block W (w.heap.size + 1) 24 #[.int .i64 words, .slice (some ⟨b, o, none⟩) hs.length c] ∧ Block W (w.heap.size + 2) 40 #[.int .i64 0, .int .i64 0, .int .i64 0, .int .i64 0] ∧ Below w.heap.size w W ∧ W.heap.size = w.heap.size + 3 ∧ W = (((w.alloc (.cells (row zs) 63)).alloc (.cells #[.int .i64 words, .slice (some ⟨b, o, none⟩) hs.length c] 24)).alloc (.cells #[.int .i64 0, .int .i64 0, .int .i64 0, .int .i64 0] 40)) :=
    ⟨_, ((Block.made _ _ _).alloc _).alloc _, (by simpa using (Block.made (w.alloc _) _ _).alloc _), (by simpa using Block.made ((w.alloc _).alloc _) _ _), (((Below.refl _ _).alloc (Nat.le_refl _) _).alloc (by simp) _).alloc (by simp; omega) _, (by simp), rfl⟩
  rw [← hWW]
  clear hWW
  have e1 := (hW.cell (p := ⟨b, o + h, none⟩) hb).trans hu
  have e2 := B2.cell 1
  have e3 := (B1.cell (h * 4 + 2)).trans hr
  simp at e2
  have z0 := B3.cell 0
  have z1 := B3.cell 1
  have z2 := B3.cell 2
  have z3 := B3.cell 3
  have y0 := B3.free 0
  have y1 := B3.free 1
  have y2 := B3.free 2
  have y3 := B3.free 3
  simp at z0 z1 z2 z3
  have HB3 := Lib.hid B3
  have HS := Lib.hid hS
  clear B1 B2 B3 hu hr hS
  go_region
  clear e1 e2 e3
  go_wp2
  refine bodyPost_ret (v := .tuple #[.agg #[.int .i64 0, .int .i64 0, .int .i64 0, .int .i64 0], .bool false]) (by simp [results, Tryd.results48, go_sem, z0, z1, z2, z3]) rfl ⟨rfl, ?_⟩
  repeat (first | exact hW | exact hW.drew | refine Below.setCell (p := ⟨_, _, none⟩) ?_ (by simp; omega) _ | refine Below.drew ?_)


end Go.Proofs.YthpnnmkpbkbanaaDoor
