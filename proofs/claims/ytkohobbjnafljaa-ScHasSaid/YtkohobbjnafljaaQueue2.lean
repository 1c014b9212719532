/-
  The queue of states: Put, Take and New, altogether.
-/
import Derived.Test.YtkohobbjnafljaaQueue
namespace Go.Proofs.Ytkohobbjnafljaa
open Go.RowKit Go.Maps
attribute [local go_sem ↓] Go.wp_at_zero Go.wp_at_succ

theorem Touch.setCells {O : Nat → Prop} {a b : World} (h : Touch O a b) {g : Nat} (hg : O g ∨ a.heap.size ≤ g) (o : Nat) (vs : List Value) : Touch O a (b.setCells g o vs) := by
  obtain ⟨p1, p2, p3, p4⟩ := setCells_parts g vs o b
  exact h.trans (O' := fun k => k = g) ⟨p1, p2, p3, by omega, fun k _ hk => setCells_heap g vs o b k hk⟩ fun _ h' => by rw [h']; exact hg
theorem setCells_all {w : World} {g : Nat} {t : TypeId} {cs : Array Value} (h : Block w g t cs) (zs : List Int) (hl : zs.length = cs.size) : Block (w.setCells g 0 (zs.map (Value.int .i64))) g t (row zs) := by
  obtain ⟨cs', e1, e2, _, e4⟩ := setCells_block (zs.map (Value.int .i64)) 0 w cs h (by simp; omega)
  have e : cs' = row zs := by
    apply Array.ext_getElem?
    intro i
    rcases Nat.lt_or_ge i zs.length with hi | hi
    · have h1 := e4 i (.int .i64 zs[i]) (by rw [List.getElem?_map, List.getElem?_eq_getElem hi]; rfl)
      rw [Nat.zero_add] at h1
      rw [h1, row_get (List.getElem?_eq_getElem hi)]
    · rw [Array.getElem?_eq_none (by omega), Array.getElem?_eq_none (by rw [row_size]; omega)]
  rw [← e]
  exact e1

theorem setCells16 (W : World) (g : Nat) (z0 z1 z2 z3 z4 z5 z6 z7 z8 z9 z10 z11 z12 z13 z14 z15 : Int) : W.setCells g 0 ([z0, z1, z2, z3, z4, z5, z6, z7, z8, z9, z10, z11, z12, z13, z14, z15].map (Value.int .i64)) = ((((((((((((((((W.setCell ⟨g, 0, none⟩ (.int .i64 z0)).setCell ⟨g, 1, none⟩ (.int .i64 z1)).setCell ⟨g, 2, none⟩ (.int .i64 z2)).setCell ⟨g, 3, none⟩ (.int .i64 z3)).setCell ⟨g, 4, none⟩ (.int .i64 z4)).setCell ⟨g, 5, none⟩ (.int .i64 z5)).setCell ⟨g, 6, none⟩ (.int .i64 z6)).setCell ⟨g, 7, none⟩ (.int .i64 z7)).setCell ⟨g, 8, none⟩ (.int .i64 z8)).setCell ⟨g, 9, none⟩ (.int .i64 z9)).setCell ⟨g, 10, none⟩ (.int .i64 z10)).setCell ⟨g, 11, none⟩ (.int .i64 z11)).setCell ⟨g, 12, none⟩ (.int .i64 z12)).setCell ⟨g, 13, none⟩ (.int .i64 z13)).setCell ⟨g, 14, none⟩ (.int .i64 z14)).setCell ⟨g, 15, none⟩ (.int .i64 z15)) := by
  simp only [List.map_cons, List.map_nil, World.setCells, Nat.zero_add, Nat.reduceAdd]

theorem put_any (g m lb : Nat) (known left : List (List Int)) (z : List Int) (w : World) (hq : QI w g m lb known left) (hz : z.length = 16) (hr : Rng z) (hN : known.length < 1073741825) (hN2 : left.length < 1073741825) :
    Calls Try.prog 34 #[.pointer (some ⟨g, 0, none⟩), .agg (row z)] w (PutPost g m lb known left z w) := by
  obtain ⟨z0, z1, z2, z3, z4, z5, z6, z7, z8, z9, z10, z11, z12, z13, z14, z15, rfl⟩ := l16 z hz
  exact put16 g m lb known left z0 z1 z2 z3 z4 z5 z6 z7 z8 z9 z10 z11 z12 z13 z14 z15 w hq hr hN hN2

set_option maxRecDepth 100000 in
set_option maxHeartbeats 2000000 in
theorem take_none (g m lb : Nat) (known : List (List Int)) (w : World) (hq : QI w g m lb known []) :
    Calls Try.prog 33 #[.pointer (some ⟨g, 0, none⟩)] w fun e w' => e = .returned (.tuple #[.agg (row zero16), .bool false]) ∧ Touch (fun _ => False) w w' := by
  obtain ⟨⟨v, hb, hL, hlb⟩, hk, hgm, hlen, hsub⟩ := hq
  obtain ⟨A, c, rfl⟩ := hL.form
  have c1 := hb.cell 1
  simp at c1
  have hgl := hb.lt
  clear hlb hsub hlen hL hb hk
  go_enter Try.func33, Try.ntmps33
  go_wp2_with fail
  exact bodyPost_ret (v := .tuple #[.agg #[.int .i64 0, .int .i64 0, .int .i64 0, .int .i64 0, .int .i64 0, .int .i64 0, .int .i64 0, .int .i64 0, .int .i64 0, .int .i64 0, .int .i64 0, .int .i64 0, .int .i64 0, .int .i64 0, .int .i64 0, .int .i64 0], .bool false]) (by simp [results, Try.results33, go_sem]) rfl ⟨rfl, (Touch.refl _ w).alloc _⟩

set_option maxRecDepth 100000 in
set_option maxHeartbeats 2000000 in
theorem take16 (g m lb : Nat) (known rest : List (List Int)) (z0 z1 z2 z3 z4 z5 z6 z7 z8 z9 z10 z11 z12 z13 z14 z15 : Int) (w : World) (hq : QI w g m lb known ([z0, z1, z2, z3, z4, z5, z6, z7, z8, z9, z10, z11, z12, z13, z14, z15] :: rest)) :
    Calls Try.prog 33 #[.pointer (some ⟨g, 0, none⟩)] w fun e w' => e = .returned (.tuple #[.agg (row [z0, z1, z2, z3, z4, z5, z6, z7, z8, z9, z10, z11, z12, z13, z14, z15]), .bool true]) ∧ Touch (fun k => k = g) w w' ∧ QI w' g m lb known rest := by
  have HQ := Lib.hid hq
  obtain ⟨⟨v, hb, hL, hlb⟩, hk, hgm, hlen, hsub⟩ := hq
  have HL := Lib.hid hL
  obtain ⟨A, cap, rfl, hn, hcm, hnone, hsome⟩ := hL
  have HB := Lib.hid hb
  have c1 := hb.cell 1
  have c2 := hb.free 1
  simp at c1
  have hgl := hb.lt
  simp only [List.length_cons] at hn
  cases A with
  | none =>
    have := hnone rfl
    omega
  | some a =>
    obtain ⟨o, rfl, hll, hrow⟩ := hsome a rfl
    obtain ⟨cs, hcb, hsz, hcs⟩ := hrow (by omega)
    have x0 : w.cell? ⟨lb, o, none⟩ = some (.int .i64 z0) := (hcb.cell o).trans (hcs 0 _ rfl)
    have x1 : w.cell? ⟨lb, o + 1, none⟩ = some (.int .i64 z1) := (hcb.cell (o + 1)).trans (hcs 1 _ rfl)
    have x2 : w.cell? ⟨lb, o + 2, none⟩ = some (.int .i64 z2) := (hcb.cell (o + 2)).trans (hcs 2 _ rfl)
    have x3 : w.cell? ⟨lb, o + 3, none⟩ = some (.int .i64 z3) := (hcb.cell (o + 3)).trans (hcs 3 _ rfl)
    have x4 : w.cell? ⟨lb, o + 4, none⟩ = some (.int .i64 z4) := (hcb.cell (o + 4)).trans (hcs 4 _ rfl)
    have x5 : w.cell? ⟨lb, o + 5, none⟩ = some (.int .i64 z5) := (hcb.cell (o + 5)).trans (hcs 5 _ rfl)
    have x6 : w.cell? ⟨lb, o + 6, none⟩ = some (.int .i64 z6) := (hcb.cell (o + 6)).trans (hcs 6 _ rfl)
    have x7 : w.cell? ⟨lb, o + 7, none⟩ = some (.int .i64 z7) := (hcb.cell (o + 7)).trans (hcs 7 _ rfl)
    have x8 : w.cell? ⟨lb, o + 8, none⟩ = some (.int .i64 z8) := (hcb.cell (o + 8)).trans (hcs 8 _ rfl)
    have x9 : w.cell? ⟨lb, o + 9, none⟩ = some (.int .i64 z9) := (hcb.cell (o + 9)).trans (hcs 9 _ rfl)
    have x10 : w.cell? ⟨lb, o + 10, none⟩ = some (.int .i64 z10) := (hcb.cell (o + 10)).trans (hcs 10 _ rfl)
    have x11 : w.cell? ⟨lb, o + 11, none⟩ = some (.int .i64 z11) := (hcb.cell (o + 11)).trans (hcs 11 _ rfl)
    have x12 : w.cell? ⟨lb, o + 12, none⟩ = some (.int .i64 z12) := (hcb.cell (o + 12)).trans (hcs 12 _ rfl)
    have x13 : w.cell? ⟨lb, o + 13, none⟩ = some (.int .i64 z13) := (hcb.cell (o + 13)).trans (hcs 13 _ rfl)
    have x14 : w.cell? ⟨lb, o + 14, none⟩ = some (.int .i64 z14) := (hcb.cell (o + 14)).trans (hcs 14 _ rfl)
    have x15 : w.cell? ⟨lb, o + 15, none⟩ = some (.int .i64 z15) := (hcb.cell (o + 15)).trans (hcs 15 _ rfl)
    have HCB := Lib.hid hcb
    have HCS := Lib.hid hcs
    have HSZ := Lib.hid hsz
    have HLB := Lib.hid hlb
    clear hlb hsub hlen hk hb hcs hcb hsz hnone hsome hrow
    go_enter Try.func33, Try.ntmps33
    go_wp2_with fail
    have hB := Block.made w 50 #[.int .i64 0, .int .i64 0, .int .i64 0, .int .i64 0, .int .i64 0, .int .i64 0, .int .i64 0, .int .i64 0, .int .i64 0, .int .i64 0, .int .i64 0, .int .i64 0, .int .i64 0, .int .i64 0, .int .i64 0, .int .i64 0]
    have hT : Touch (fun _ => False) w (w.alloc (.cells #[.int .i64 0, .int .i64 0, .int .i64 0, .int .i64 0, .int .i64 0, .int .i64 0, .int .i64 0, .int .i64 0, .int .i64 0, .int .i64 0, .int .i64 0, .int .i64 0, .int .i64 0, .int .i64 0, .int .i64 0, .int .i64 0] 50)) := (Touch.refl _ w).alloc _
    obtain ⟨W, hW⟩ : ∃ W, W = w.alloc (.cells #[.int .i64 0, .int .i64 0, .int .i64 0, .int .i64 0, .int .i64 0, .int .i64 0, .int .i64 0, .int .i64 0, .int .i64 0, .int .i64 0, .int .i64 0, .int .i64 0, .int .i64 0, .int .i64 0, .int .i64 0, .int .i64 0] 50) := ⟨_, rfl⟩
    rw [← hW] at hB hT ⊢
    have d1 := (hT.cell (p := ⟨g, 1, none⟩) hgl (fun h => h)).trans c1
    have d2 := (hT.frozen (p := ⟨g, 1, none⟩) hgl (fun h => h)).trans c2
    have y0 := (hT.cell (p := ⟨lb, o, none⟩) hll (fun h => h)).trans x0
    have y1 := (hT.cell (p := ⟨lb, o + 1, none⟩) hll (fun h => h)).trans x1
    have y2 := (hT.cell (p := ⟨lb, o + 2, none⟩) hll (fun h => h)).trans x2
    have y3 := (hT.cell (p := ⟨lb, o + 3, none⟩) hll (fun h => h)).trans x3
    have y4 := (hT.cell (p := ⟨lb, o + 4, none⟩) hll (fun h => h)).trans x4
    have y5 := (hT.cell (p := ⟨lb, o + 5, none⟩) hll (fun h => h)).trans x5
    have y6 := (hT.cell (p := ⟨lb, o + 6, none⟩) hll (fun h => h)).trans x6
    have y7 := (hT.cell (p := ⟨lb, o + 7, none⟩) hll (fun h => h)).trans x7
    have y8 := (hT.cell (p := ⟨lb, o + 8, none⟩) hll (fun h => h)).trans x8
    have y9 := (hT.cell (p := ⟨lb, o + 9, none⟩) hll (fun h => h)).trans x9
    have y10 := (hT.cell (p := ⟨lb, o + 10, none⟩) hll (fun h => h)).trans x10
    have y11 := (hT.cell (p := ⟨lb, o + 11, none⟩) hll (fun h => h)).trans x11
    have y12 := (hT.cell (p := ⟨lb, o + 12, none⟩) hll (fun h => h)).trans x12
    have y13 := (hT.cell (p := ⟨lb, o + 13, none⟩) hll (fun h => h)).trans x13
    have y14 := (hT.cell (p := ⟨lb, o + 14, none⟩) hll (fun h => h)).trans x14
    have y15 := (hT.cell (p := ⟨lb, o + 15, none⟩) hll (fun h => h)).trans x15
    have b0 : W.cell? ⟨w.heap.size, 0, none⟩ = some (.int .i64 0) := (hB.cell 0).trans rfl
    have f0 := hB.free 0
    have b1 : W.cell? ⟨w.heap.size, 1, none⟩ = some (.int .i64 0) := (hB.cell 1).trans rfl
    have f1 := hB.free 1
    have b2 : W.cell? ⟨w.heap.size, 2, none⟩ = some (.int .i64 0) := (hB.cell 2).trans rfl
    have f2 := hB.free 2
    have b3 : W.cell? ⟨w.heap.size, 3, none⟩ = some (.int .i64 0) := (hB.cell 3).trans rfl
    have f3 := hB.free 3
    have b4 : W.cell? ⟨w.heap.size, 4, none⟩ = some (.int .i64 0) := (hB.cell 4).trans rfl
    have f4 := hB.free 4
    have b5 : W.cell? ⟨w.heap.size, 5, none⟩ = some (.int .i64 0) := (hB.cell 5).trans rfl
    have f5 := hB.free 5
    have b6 : W.cell? ⟨w.heap.size, 6, none⟩ = some (.int .i64 0) := (hB.cell 6).trans rfl
    have f6 := hB.free 6
    have b7 : W.cell? ⟨w.heap.size, 7, none⟩ = some (.int .i64 0) := (hB.cell 7).trans rfl
    have f7 := hB.free 7
    have b8 : W.cell? ⟨w.heap.size, 8, none⟩ = some (.int .i64 0) := (hB.cell 8).trans rfl
    have f8 := hB.free 8
    have b9 : W.cell? ⟨w.heap.size, 9, none⟩ = some (.int .i64 0) := (hB.cell 9).trans rfl
    have f9 := hB.free 9
    have b10 : W.cell? ⟨w.heap.size, 10, none⟩ = some (.int .i64 0) := (hB.cell 10).trans rfl
    have f10 := hB.free 10
    have b11 : W.cell? ⟨w.heap.size, 11, none⟩ = some (.int .i64 0) := (hB.cell 11).trans rfl
    have f11 := hB.free 11
    have b12 : W.cell? ⟨w.heap.size, 12, none⟩ = some (.int .i64 0) := (hB.cell 12).trans rfl
    have f12 := hB.free 12
    have b13 : W.cell? ⟨w.heap.size, 13, none⟩ = some (.int .i64 0) := (hB.cell 13).trans rfl
    have f13 := hB.free 13
    have b14 : W.cell? ⟨w.heap.size, 14, none⟩ = some (.int .i64 0) := (hB.cell 14).trans rfl
    have f14 := hB.free 14
    have b15 : W.cell? ⟨w.heap.size, 15, none⟩ = some (.int .i64 0) := (hB.cell 15).trans rfl
    have f15 := hB.free 15
    have hgb : g ≠ w.heap.size := by omega
    have hlb2 : lb ≠ w.heap.size := by omega
    have hlen1 : (1 : Int) ≤ (rest.length : Int) + 1 := by omega
    have hlen2 : (rest.length : Int) + 1 ≤ cap := by omega
    have hlen0 : (0 : Int) < (rest.length : Int) + 1 := by omega
    have HT := Lib.hid hT
    have HBB := Lib.hid hB
    clear hW c1 c2 x0 x1 x2 x3 x4 x5 x6 x7 x8 x9 x10 x11 x12 x13 x14 x15 hT hB
    by_cases hc1 : cap = 1
    · have hr0 : rest = [] := List.eq_nil_of_length_eq_zero (by omega)
      subst hr0
      subst hc1
      simp only [List.length_nil] at d1 hlen1 hlen2 hlen0 hn ⊢
      go_region
      obtain ⟨Y, hY⟩ : ∃ Y, Y = (((((((((((((((((W.setCell ⟨w.heap.size, 0, none⟩ (.int .i64 z0)).setCell ⟨w.heap.size, 1, none⟩ (.int .i64 z1)).setCell ⟨w.heap.size, 2, none⟩ (.int .i64 z2)).setCell ⟨w.heap.size, 3, none⟩ (.int .i64 z3)).setCell ⟨w.heap.size, 4, none⟩ (.int .i64 z4)).setCell ⟨w.heap.size, 5, none⟩ (.int .i64 z5)).setCell ⟨w.heap.size, 6, none⟩ (.int .i64 z6)).setCell ⟨w.heap.size, 7, none⟩ (.int .i64 z7)).setCell ⟨w.heap.size, 8, none⟩ (.int .i64 z8)).setCell ⟨w.heap.size, 9, none⟩ (.int .i64 z9)).setCell ⟨w.heap.size, 10, none⟩ (.int .i64 z10)).setCell ⟨w.heap.size, 11, none⟩ (.int .i64 z11)).setCell ⟨w.heap.size, 12, none⟩ (.int .i64 z12)).setCell ⟨w.heap.size, 13, none⟩ (.int .i64 z13)).setCell ⟨w.heap.size, 14, none⟩ (.int .i64 z14)).setCell ⟨w.heap.size, 15, none⟩ (.int .i64 z15)).setCell ⟨g, 1, none⟩ (.slice (some ⟨lb, o, none⟩) 0 0)).drew := ⟨_, rfl⟩
      rw [← hY]
      rw [← setCells16] at hY
      have hYB : Block Y w.heap.size 50 (row [z0, z1, z2, z3, z4, z5, z6, z7, z8, z9, z10, z11, z12, z13, z14, z15]) := by
        rw [hY]
        exact ((setCells_all HBB.out [z0, z1, z2, z3, z4, z5, z6, z7, z8, z9, z10, z11, z12, z13, z14, z15] rfl).far (fun h => hgb h.symm) _).drew
      have hTY : Touch (fun k => k = g) w Y := by
        rw [hY]
        exact (Touch.setCell (O := fun k => k = g) ((HT.out.mono (fun _ h => h.elim)).setCells (Or.inr (Nat.le_refl _)) 0 _) (p := ⟨g, 1, none⟩) (Or.inl rfl) _).drew
      have hYG : Block Y g 82 #[.map (some m), .slice (some ⟨lb, o, none⟩) 0 0] := by
        rw [hY]
        exact ((HB.out.touch ((HT.out.mono (O' := fun k => k = w.heap.size) (fun _ h => h.elim)).setCells (Or.inl rfl) 0 ([z0, z1, z2, z3, z4, z5, z6, z7, z8, z9, z10, z11, z12, z13, z14, z15].map (Value.int .i64))) hgb).put 1 (.slice (some ⟨lb, o, none⟩) 0 0)).drew
      have HYB := Lib.hid hYB
      have HYG := Lib.hid hYG
      have HTY := Lib.hid hTY
      clear hY hYB hYG hTY d1 d2 y0 b0 f0 y1 b1 f1 y2 b2 f2 y3 b3 f3 y4 b4 f4 y5 b5 f5 y6 b6 f6 y7 b7 f7 y8 b8 f8 y9 b9 f9 y10 b10 f10 y11 b11 f11 y12 b12 f12 y13 b13 f13 y14 b14 f14 y15 b15 f15
      go_wp2_with (first | (refine wpList_load_row rfl 50 (.tmp 2) rfl w.heap.size rfl _ (row [z0, z1, z2, z3, z4, z5, z6, z7, z8, z9, z10, z11, z12, z13, z14, z15]) _ _ HYB.out Try.underlying50 rfl Tst.info ?_) | (refine wpList_store_row rfl 50 (.tmp 2) (.tmp 25) rfl w.heap.size (row [z0, z1, z2, z3, z4, z5, z6, z7, z8, z9, z10, z11, z12, z13, z14, z15]) rfl rfl _ _ HYB.out Tst.info rfl (row_one _) ?_))
      have hV : Block (Y.setRow w.heap.size (row [z0, z1, z2, z3, z4, z5, z6, z7, z8, z9, z10, z11, z12, z13, z14, z15])) w.heap.size 50 (row [z0, z1, z2, z3, z4, z5, z6, z7, z8, z9, z10, z11, z12, z13, z14, z15]) := setRow_heap _ _ _ _ _ _ HYB.out
      have hTV : Touch (fun k => k = g) w (Y.setRow w.heap.size (row [z0, z1, z2, z3, z4, z5, z6, z7, z8, z9, z10, z11, z12, z13, z14, z15])) := HTY.out.setRow (Or.inr (Nat.le_refl _)) _
      have hVG : Block (Y.setRow w.heap.size (row [z0, z1, z2, z3, z4, z5, z6, z7, z8, z9, z10, z11, z12, z13, z14, z15])) g 82 #[.map (some m), .slice (some ⟨lb, o, none⟩) 0 0] := (setRow_other _ _ _ _ hgb).trans HYG.out
      obtain ⟨V, hVV⟩ : ∃ V, V = Y.setRow w.heap.size (row [z0, z1, z2, z3, z4, z5, z6, z7, z8, z9, z10, z11, z12, z13, z14, z15]) := ⟨_, rfl⟩
      rw [← hVV] at hV hTV hVG ⊢
      clear hVV
      have v0 : V.cell? ⟨w.heap.size, 0, none⟩ = some (.int .i64 z0) := (hV.cell 0).trans rfl
      have v1 : V.cell? ⟨w.heap.size, 1, none⟩ = some (.int .i64 z1) := (hV.cell 1).trans rfl
      have v2 : V.cell? ⟨w.heap.size, 2, none⟩ = some (.int .i64 z2) := (hV.cell 2).trans rfl
      have v3 : V.cell? ⟨w.heap.size, 3, none⟩ = some (.int .i64 z3) := (hV.cell 3).trans rfl
      have v4 : V.cell? ⟨w.heap.size, 4, none⟩ = some (.int .i64 z4) := (hV.cell 4).trans rfl
      have v5 : V.cell? ⟨w.heap.size, 5, none⟩ = some (.int .i64 z5) := (hV.cell 5).trans rfl
      have v6 : V.cell? ⟨w.heap.size, 6, none⟩ = some (.int .i64 z6) := (hV.cell 6).trans rfl
      have v7 : V.cell? ⟨w.heap.size, 7, none⟩ = some (.int .i64 z7) := (hV.cell 7).trans rfl
      have v8 : V.cell? ⟨w.heap.size, 8, none⟩ = some (.int .i64 z8) := (hV.cell 8).trans rfl
      have v9 : V.cell? ⟨w.heap.size, 9, none⟩ = some (.int .i64 z9) := (hV.cell 9).trans rfl
      have v10 : V.cell? ⟨w.heap.size, 10, none⟩ = some (.int .i64 z10) := (hV.cell 10).trans rfl
      have v11 : V.cell? ⟨w.heap.size, 11, none⟩ = some (.int .i64 z11) := (hV.cell 11).trans rfl
      have v12 : V.cell? ⟨w.heap.size, 12, none⟩ = some (.int .i64 z12) := (hV.cell 12).trans rfl
      have v13 : V.cell? ⟨w.heap.size, 13, none⟩ = some (.int .i64 z13) := (hV.cell 13).trans rfl
      have v14 : V.cell? ⟨w.heap.size, 14, none⟩ = some (.int .i64 z14) := (hV.cell 14).trans rfl
      have v15 : V.cell? ⟨w.heap.size, 15, none⟩ = some (.int .i64 z15) := (hV.cell 15).trans rfl
      have hlg : lb ≠ g ∧ lb ≠ m ∧ lb < w.heap.size := by rcases HLB.out with ⟨h, _⟩ | h
                                                          · cases h
                                                          · exact h
      exact bodyPost_ret (v := .tuple #[.agg #[.int .i64 z0, .int .i64 z1, .int .i64 z2, .int .i64 z3, .int .i64 z4, .int .i64 z5, .int .i64 z6, .int .i64 z7, .int .i64 z8, .int .i64 z9, .int .i64 z10, .int .i64 z11, .int .i64 z12, .int .i64 z13, .int .i64 z14, .int .i64 z15], .bool true]) (by simp [results, Try.results33, go_sem, v0, v1, v2, v3, v4, v5, v6, v7, v8, v9, v10, v11, v12, v13, v14, v15]) rfl ⟨rfl, hTV, ⟨_, hVG, ⟨_, 0, rfl, Nat.le_refl _, Nat.zero_le _, (fun h => by cases h), fun a ha => ⟨o, (Option.some.inj ha).symm, Nat.lt_of_lt_of_le hlg.2.2 hTV.size, fun h => absurd h (Nat.lt_irrefl 0)⟩⟩, Or.inr ⟨hlg.1, hlg.2.1, Nat.lt_of_lt_of_le hlg.2.2 hTV.size⟩⟩, HQ.out.set.touch hTV (fun h => hgm h.symm), hgm, HQ.out.len, fun z hz => HQ.out.sub z (List.mem_cons_of_mem _ hz)⟩
    · have hcB : (cap == 1) = false := by simp [hc1]
      go_region
      obtain ⟨Y, hY⟩ : ∃ Y, Y = (((((((((((((((((W.setCell ⟨w.heap.size, 0, none⟩ (.int .i64 z0)).setCell ⟨w.heap.size, 1, none⟩ (.int .i64 z1)).setCell ⟨w.heap.size, 2, none⟩ (.int .i64 z2)).setCell ⟨w.heap.size, 3, none⟩ (.int .i64 z3)).setCell ⟨w.heap.size, 4, none⟩ (.int .i64 z4)).setCell ⟨w.heap.size, 5, none⟩ (.int .i64 z5)).setCell ⟨w.heap.size, 6, none⟩ (.int .i64 z6)).setCell ⟨w.heap.size, 7, none⟩ (.int .i64 z7)).setCell ⟨w.heap.size, 8, none⟩ (.int .i64 z8)).setCell ⟨w.heap.size, 9, none⟩ (.int .i64 z9)).setCell ⟨w.heap.size, 10, none⟩ (.int .i64 z10)).setCell ⟨w.heap.size, 11, none⟩ (.int .i64 z11)).setCell ⟨w.heap.size, 12, none⟩ (.int .i64 z12)).setCell ⟨w.heap.size, 13, none⟩ (.int .i64 z13)).setCell ⟨w.heap.size, 14, none⟩ (.int .i64 z14)).setCell ⟨w.heap.size, 15, none⟩ (.int .i64 z15)).setCell ⟨g, 1, none⟩ (.slice (some ⟨lb, o + 16, none⟩) rest.length (cap - 1))).drew := ⟨_, rfl⟩
      rw [← hY]
      rw [← setCells16] at hY
      have hYB : Block Y w.heap.size 50 (row [z0, z1, z2, z3, z4, z5, z6, z7, z8, z9, z10, z11, z12, z13, z14, z15]) := by
        rw [hY]
        exact ((setCells_all HBB.out [z0, z1, z2, z3, z4, z5, z6, z7, z8, z9, z10, z11, z12, z13, z14, z15] rfl).far (fun h => hgb h.symm) _).drew
      have hTY : Touch (fun k => k = g) w Y := by
        rw [hY]
        exact (Touch.setCell (O := fun k => k = g) ((HT.out.mono (fun _ h => h.elim)).setCells (Or.inr (Nat.le_refl _)) 0 _) (p := ⟨g, 1, none⟩) (Or.inl rfl) _).drew
      have hYG : Block Y g 82 #[.map (some m), .slice (some ⟨lb, o + 16, none⟩) rest.length (cap - 1)] := by
        rw [hY]
        exact ((HB.out.touch ((HT.out.mono (O' := fun k => k = w.heap.size) (fun _ h => h.elim)).setCells (Or.inl rfl) 0 ([z0, z1, z2, z3, z4, z5, z6, z7, z8, z9, z10, z11, z12, z13, z14, z15].map (Value.int .i64))) hgb).put 1 (.slice (some ⟨lb, o + 16, none⟩) rest.length (cap - 1))).drew
      have HYB := Lib.hid hYB
      have HYG := Lib.hid hYG
      have HTY := Lib.hid hTY
      clear hY hYB hYG hTY d1 d2 y0 b0 f0 y1 b1 f1 y2 b2 f2 y3 b3 f3 y4 b4 f4 y5 b5 f5 y6 b6 f6 y7 b7 f7 y8 b8 f8 y9 b9 f9 y10 b10 f10 y11 b11 f11 y12 b12 f12 y13 b13 f13 y14 b14 f14 y15 b15 f15
      go_wp2_with (first | (refine wpList_load_row rfl 50 (.tmp 2) rfl w.heap.size rfl _ (row [z0, z1, z2, z3, z4, z5, z6, z7, z8, z9, z10, z11, z12, z13, z14, z15]) _ _ HYB.out Try.underlying50 rfl Tst.info ?_) | (refine wpList_store_row rfl 50 (.tmp 2) (.tmp 25) rfl w.heap.size (row [z0, z1, z2, z3, z4, z5, z6, z7, z8, z9, z10, z11, z12, z13, z14, z15]) rfl rfl _ _ HYB.out Tst.info rfl (row_one _) ?_))
      have hV : Block (Y.setRow w.heap.size (row [z0, z1, z2, z3, z4, z5, z6, z7, z8, z9, z10, z11, z12, z13, z14, z15])) w.heap.size 50 (row [z0, z1, z2, z3, z4, z5, z6, z7, z8, z9, z10, z11, z12, z13, z14, z15]) := setRow_heap _ _ _ _ _ _ HYB.out
      have hTV : Touch (fun k => k = g) w (Y.setRow w.heap.size (row [z0, z1, z2, z3, z4, z5, z6, z7, z8, z9, z10, z11, z12, z13, z14, z15])) := HTY.out.setRow (Or.inr (Nat.le_refl _)) _
      have hVG : Block (Y.setRow w.heap.size (row [z0, z1, z2, z3, z4, z5, z6, z7, z8, z9, z10, z11, z12, z13, z14, z15])) g 82 #[.map (some m), .slice (some ⟨lb, o + 16, none⟩) rest.length (cap - 1)] := (setRow_other _ _ _ _ hgb).trans HYG.out
      obtain ⟨V, hVV⟩ : ∃ V, V = Y.setRow w.heap.size (row [z0, z1, z2, z3, z4, z5, z6, z7, z8, z9, z10, z11, z12, z13, z14, z15]) := ⟨_, rfl⟩
      rw [← hVV] at hV hTV hVG ⊢
      clear hVV
      have v0 : V.cell? ⟨w.heap.size, 0, none⟩ = some (.int .i64 z0) := (hV.cell 0).trans rfl
      have v1 : V.cell? ⟨w.heap.size, 1, none⟩ = some (.int .i64 z1) := (hV.cell 1).trans rfl
      have v2 : V.cell? ⟨w.heap.size, 2, none⟩ = some (.int .i64 z2) := (hV.cell 2).trans rfl
      have v3 : V.cell? ⟨w.heap.size, 3, none⟩ = some (.int .i64 z3) := (hV.cell 3).trans rfl
      have v4 : V.cell? ⟨w.heap.size, 4, none⟩ = some (.int .i64 z4) := (hV.cell 4).trans rfl
      have v5 : V.cell? ⟨w.heap.size, 5, none⟩ = some (.int .i64 z5) := (hV.cell 5).trans rfl
      have v6 : V.cell? ⟨w.heap.size, 6, none⟩ = some (.int .i64 z6) := (hV.cell 6).trans rfl
      have v7 : V.cell? ⟨w.heap.size, 7, none⟩ = some (.int .i64 z7) := (hV.cell 7).trans rfl
      have v8 : V.cell? ⟨w.heap.size, 8, none⟩ = some (.int .i64 z8) := (hV.cell 8).trans rfl
      have v9 : V.cell? ⟨w.heap.size, 9, none⟩ = some (.int .i64 z9) := (hV.cell 9).trans rfl
      have v10 : V.cell? ⟨w.heap.size, 10, none⟩ = some (.int .i64 z10) := (hV.cell 10).trans rfl
      have v11 : V.cell? ⟨w.heap.size, 11, none⟩ = some (.int .i64 z11) := (hV.cell 11).trans rfl
      have v12 : V.cell? ⟨w.heap.size, 12, none⟩ = some (.int .i64 z12) := (hV.cell 12).trans rfl
      have v13 : V.cell? ⟨w.heap.size, 13, none⟩ = some (.int .i64 z13) := (hV.cell 13).trans rfl
      have v14 : V.cell? ⟨w.heap.size, 14, none⟩ = some (.int .i64 z14) := (hV.cell 14).trans rfl
      have v15 : V.cell? ⟨w.heap.size, 15, none⟩ = some (.int .i64 z15) := (hV.cell 15).trans rfl
      have hlg : lb ≠ g ∧ lb ≠ m ∧ lb < w.heap.size := by rcases HLB.out with ⟨h, _⟩ | h
                                                          · cases h
                                                          · exact h
      exact bodyPost_ret (v := .tuple #[.agg #[.int .i64 z0, .int .i64 z1, .int .i64 z2, .int .i64 z3, .int .i64 z4, .int .i64 z5, .int .i64 z6, .int .i64 z7, .int .i64 z8, .int .i64 z9, .int .i64 z10, .int .i64 z11, .int .i64 z12, .int .i64 z13, .int .i64 z14, .int .i64 z15], .bool true]) (by simp [results, Try.results33, go_sem, v0, v1, v2, v3, v4, v5, v6, v7, v8, v9, v10, v11, v12, v13, v14, v15]) rfl ⟨rfl, hTV, ⟨_, hVG, ⟨_, cap - 1, rfl, by omega, by omega, (fun h => by cases h), fun a ha => ⟨o + 16, (Option.some.inj ha).symm, Nat.lt_of_lt_of_le hlg.2.2 hTV.size, fun _ => ⟨cs, HCB.out.touch hTV hlg.1, by have := HSZ.out; omega, fun j u hj => by rw [Nat.add_assoc]; exact HCS.out (16 + j) u (by rw [flat_cons, List.getElem?_append_right (by simp)]; simpa using hj)⟩⟩⟩, Or.inr ⟨hlg.1, hlg.2.1, Nat.lt_of_lt_of_le hlg.2.2 hTV.size⟩⟩, HQ.out.set.touch hTV (fun h => hgm h.symm), hgm, HQ.out.len, fun z hz => HQ.out.sub z (List.mem_cons_of_mem _ hz)⟩

def TakePost (g m lb : Nat) (known rest : List (List Int)) (z : List Int) (w : World) (e : Ending) (w' : World) : Prop :=
  e = .returned (.tuple #[.agg (row z), .bool true]) ∧ Touch (fun k => k = g) w w' ∧ QI w' g m lb known rest
theorem take_some (g m lb : Nat) (known rest : List (List Int)) (z : List Int) (w : World) (hq : QI w g m lb known (z :: rest)) :
    Calls Try.prog 33 #[.pointer (some ⟨g, 0, none⟩)] w (TakePost g m lb known rest z w) := by
  have hz : z.length = 16 := (hq.len z (hq.sub z (by simp))).1
  obtain ⟨z0, z1, z2, z3, z4, z5, z6, z7, z8, z9, z10, z11, z12, z13, z14, z15, rfl⟩ := l16 z hz
  exact take16 g m lb known rest z0 z1 z2 z3 z4 z5 z6 z7 z8 z9 z10 z11 z12 z13 z14 z15 w hq
end Go.Proofs.Ytkohobbjnafljaa
