/-
  Texts merged: Queue, Queue2, Queue3.
-/
import Derived.Test.YthpnnmkpbkbanaaDoorKey
import Derived.Deep.RegionHeld3
import Derived.Deep.MidRow
import Derived.Deep.DrawnRows
import Derived.Deep.AppendLies
import Derived.StillTailTactics
import Derived.Deep.DeepCutAuto
/-
  The queue of states: New, Put, Take.
-/
namespace Go.Proofs.YthpnnmkpbkbanaaDoor
open Go.RowKit Go.Maps
attribute [local go_sem ↓] Go.wp_at_zero Go.wp_at_succ

theorem Tq.info : (Tryd.prog.info? 63).map (fun i => (i.zero, i.size, i.bytes)) = some (some (.agg #[.int .i64 0, .int .i64 0, .int .i64 0, .int .i64 0, .int .i64 0, .int .i64 0, .int .i64 0, .int .i64 0, .int .i64 0, .int .i64 0, .int .i64 0, .int .i64 0, .int .i64 0, .int .i64 0, .int .i64 0, .int .i64 0]), 16, 128) := by kernel_rfl
theorem Tq.unit (w : World) : (zeroValue 109).run Tryd.prog w = .ok (.agg #[]) w := by kernel_rfl

/-- The queue at block g: the set at block m, what is left in block lb. -/
structure QI (w : World) (g m lb : Nat) (known left : List (List Int)) : Prop where
  blk : ∃ v, Block w g 120 #[.map (some m), v] ∧ Left w 63 lb v left ∧ (v = .slice none 0 0 ∧ lb = g ∨ lb ≠ g ∧ lb ≠ m ∧ lb < w.heap.size)
  set : Known w m known
  gm : g ≠ m
  len : ∀ z ∈ known, z.length = 16 ∧ Rng z
  sub : ∀ z ∈ left, z ∈ known
theorem QI.touch {O : Nat → Prop} {w w' : World} {g m lb : Nat} {known left : List (List Int)} (h : QI w g m lb known left) (k : Touch O w w') (hg : ¬ O g) (hm : ¬ O m) (hl : ¬ O lb) : QI w' g m lb known left := by
  obtain ⟨⟨v, h1, h2, h3⟩, h4, h5, h6, h7⟩ := h
  refine ⟨⟨v, h1.touch k hg, h2.touch k hl, ?_⟩, h4.touch k hm, h5, h6, h7⟩
  have := k.size
  rcases h3 with h3 | ⟨a, b, c⟩
  · exact Or.inl h3
  · exact Or.inr ⟨a, b, by omega⟩

theorem look_run {w : World} {m : Nat} {ks : List (List Int)} (h : Known w m ks) (z : List Int) (hz : z.length = 16) (hr : Rng z) :
    (Instr.lookup 118 (.map (some m)) (.agg (row z)) true).run Tryd.prog w = .ok (.tuple #[.agg #[], .bool (decide (z ∈ ks))]) w := by
  obtain ⟨D, hown, hD⟩ := h
  obtain ⟨kl, hkl⟩ := key_row z hz hr
  obtain ⟨v, ps, hrun, hv⟩ := hown.look_ok Tkey.law Tryd.underlying118 (Tq.unit w) unitElem_mk hkl
  obtain ⟨rfl, _⟩ := unitElem_inv hv
  rw [hrun, hD z kl hz hkl]

set_option maxRecDepth 100000 in
theorem known_put {X2 : World} {m : Nat} {ks : List (List Int)} {D : DataW Unit} {kl : Lit} {Z : List Int} (hZl : Z.length = 16) (hm : IsMap D) (hD : ∀ z kl, z.length = 16 → keyOf Tryd.prog 63 (.agg (row z)) = some kl → Maps.has D kl = decide (z ∈ ks))
    (hkl : keyOf Tryd.prog 63 (.agg (row Z)) = some kl) (hown : X2.ownsMap Tryd.prog 63 unitElem m (ks.length + 1) (D.put kl (.agg []))) : Known X2 m (ks ++ [Z]) := by
  refine ⟨_, by rw [List.length_append]; exact hown, fun z kl' hz hk => ?_⟩
  by_cases e : kl' = kl
  · subst e
    have h1 := Tkey.law.inj hk hkl
    injection h1 with h1
    have h2 := row_inj h1
    subst h2
    rw [Maps.has_put_same hm (Tkey.law.key hkl)]
    simp
  · rw [Maps.has_put_other e, hD z kl' hz hk]
    have hne : z ≠ Z := fun h => by
      subst h
      rw [hk] at hkl
      exact e (Option.some.inj hkl)
    simp [hne]

def PutPost (g m lb : Nat) (known left : List (List Int)) (z : List Int) (w : World) (e : Ending) (w' : World) : Prop :=
  e = .returned (.tuple #[]) ∧ Touch (fun k => k = g ∨ k = m ∨ k = lb) w w' ∧ ∃ lb', QI w' g m lb' (ins1 known z) (if z ∈ known then left else left ++ [z]) ∧ (lb' = lb ∨ w.heap.size ≤ lb')

set_option maxRecDepth 100000 in
set_option maxHeartbeats 4000000 in
theorem put16 (g m lb : Nat) (known left : List (List Int)) (z0 z1 z2 z3 z4 z5 z6 z7 z8 z9 z10 z11 z12 z13 z14 z15 : Int) (w : World) (hq : QI w g m lb known left) (hr : Rng [z0, z1, z2, z3, z4, z5, z6, z7, z8, z9, z10, z11, z12, z13, z14, z15]) (hN : known.length < 1073741825) (hN2 : left.length < 1073741825) :
    Calls Tryd.prog 46 #[.pointer (some ⟨g, 0, none⟩), .agg (row [z0, z1, z2, z3, z4, z5, z6, z7, z8, z9, z10, z11, z12, z13, z14, z15])] w (PutPost g m lb known left [z0, z1, z2, z3, z4, z5, z6, z7, z8, z9, z10, z11, z12, z13, z14, z15] w) := by
  obtain ⟨b, hbm⟩ : ∃ b, b = decide ([z0, z1, z2, z3, z4, z5, z6, z7, z8, z9, z10, z11, z12, z13, z14, z15] ∈ known) := ⟨_, rfl⟩
  have HQ := Lib.hid hq
  obtain ⟨⟨v, hb, hL, hlb⟩, hk, hgm, hlen, hsub⟩ := hq
  have hLK : ∀ x, Known x m known → (Instr.lookup 118 (.map (some m)) (.agg (row [z0, z1, z2, z3, z4, z5, z6, z7, z8, z9, z10, z11, z12, z13, z14, z15])) true).run Tryd.prog x = .ok (.tuple #[.agg #[], .bool b]) x := fun x hx => by
    rw [look_run hx [z0, z1, z2, z3, z4, z5, z6, z7, z8, z9, z10, z11, z12, z13, z14, z15] rfl hr, hbm]
  have c0 := hb.cell 0
  simp at c0
  have hgl := hb.lt
  have HBM := Lib.hid hbm
  have HLK := Lib.hid hLK
  have HK := Lib.hid hk
  have HLT := Lib.hid hL
  have HBK := Lib.hid hb
  have HLB := Lib.hid hlb
  have HSUB := Lib.hid hsub
  have HLEN := Lib.hid hlen
  have HR := Lib.hid hr
  clear hlb hsub hlen hL hb hr hLK hk hbm
  go_enter Tryd.func46, Tryd.ntmps46
  go_wp2_with fail
  have hB := Block.made w 63 (row [z0, z1, z2, z3, z4, z5, z6, z7, z8, z9, z10, z11, z12, z13, z14, z15])
  have hT : Touch (fun _ => False) w (w.alloc (.cells (row [z0, z1, z2, z3, z4, z5, z6, z7, z8, z9, z10, z11, z12, z13, z14, z15]) 63)) := (Touch.refl _ w).alloc _
  obtain ⟨W, hW⟩ : ∃ W, W = w.alloc (.cells (row [z0, z1, z2, z3, z4, z5, z6, z7, z8, z9, z10, z11, z12, z13, z14, z15]) 63) := ⟨_, rfl⟩
  rw [← hW] at hB hT ⊢
  have e0 : W.cell? ⟨g, 0, none⟩ = some (.map (some m)) := (hT.cell (p := ⟨g, 0, none⟩) hgl (fun h => h)).trans c0
  have y0 : W.cell? ⟨w.heap.size, 0, none⟩ = some (.int .i64 z0) := (hB.cell 0).trans rfl
  have y1 : W.cell? ⟨w.heap.size, 1, none⟩ = some (.int .i64 z1) := (hB.cell 1).trans rfl
  have y2 : W.cell? ⟨w.heap.size, 2, none⟩ = some (.int .i64 z2) := (hB.cell 2).trans rfl
  have y3 : W.cell? ⟨w.heap.size, 3, none⟩ = some (.int .i64 z3) := (hB.cell 3).trans rfl
  have y4 : W.cell? ⟨w.heap.size, 4, none⟩ = some (.int .i64 z4) := (hB.cell 4).trans rfl
  have y5 : W.cell? ⟨w.heap.size, 5, none⟩ = some (.int .i64 z5) := (hB.cell 5).trans rfl
  have y6 : W.cell? ⟨w.heap.size, 6, none⟩ = some (.int .i64 z6) := (hB.cell 6).trans rfl
  have y7 : W.cell? ⟨w.heap.size, 7, none⟩ = some (.int .i64 z7) := (hB.cell 7).trans rfl
  have y8 : W.cell? ⟨w.heap.size, 8, none⟩ = some (.int .i64 z8) := (hB.cell 8).trans rfl
  have y9 : W.cell? ⟨w.heap.size, 9, none⟩ = some (.int .i64 z9) := (hB.cell 9).trans rfl
  have y10 : W.cell? ⟨w.heap.size, 10, none⟩ = some (.int .i64 z10) := (hB.cell 10).trans rfl
  have y11 : W.cell? ⟨w.heap.size, 11, none⟩ = some (.int .i64 z11) := (hB.cell 11).trans rfl
  have y12 : W.cell? ⟨w.heap.size, 12, none⟩ = some (.int .i64 z12) := (hB.cell 12).trans rfl
  have y13 : W.cell? ⟨w.heap.size, 13, none⟩ = some (.int .i64 z13) := (hB.cell 13).trans rfl
  have y14 : W.cell? ⟨w.heap.size, 14, none⟩ = some (.int .i64 z14) := (hB.cell 14).trans rfl
  have y15 : W.cell? ⟨w.heap.size, 15, none⟩ = some (.int .i64 z15) := (hB.cell 15).trans rfl
  have HKW := Lib.hid (HK.out.touch hT (fun h => h))
  have HLA := Lib.hid (fun o => HLK.out (W.drew.alloc o) (HKW.out.touch (((Touch.refl (fun _ => False) W).drew).alloc o) (fun h => h)))
  have hgW : g < W.heap.size := Nat.lt_of_lt_of_le hgl hT.size
  have hbW : w.heap.size < W.heap.size := hB.lt
  have HT := Lib.hid hT
  have HB := Lib.hid hB
  clear hW hB hT c0
  go_upto_region 1 with fail
  go_cut [5] (fun t5 wx => t5 = .bool b ∧ Touch (fun _ => False) w wx ∧ Block wx w.heap.size 63 (row [z0, z1, z2, z3, z4, z5, z6, z7, z8, z9, z10, z11, z12, z13, z14, z15]))
  case first =>
    go_region_held3 (fun w' => w'.cell? ⟨g, 0, none⟩ = some (.map (some m)) ∧ w'.cell? ⟨w.heap.size, 0, none⟩ = some (.int .i64 z0) ∧ w'.cell? ⟨w.heap.size, 1, none⟩ = some (.int .i64 z1) ∧ w'.cell? ⟨w.heap.size, 2, none⟩ = some (.int .i64 z2) ∧ w'.cell? ⟨w.heap.size, 3, none⟩ = some (.int .i64 z3) ∧ w'.cell? ⟨w.heap.size, 4, none⟩ = some (.int .i64 z4) ∧ w'.cell? ⟨w.heap.size, 5, none⟩ = some (.int .i64 z5) ∧ w'.cell? ⟨w.heap.size, 6, none⟩ = some (.int .i64 z6) ∧ w'.cell? ⟨w.heap.size, 7, none⟩ = some (.int .i64 z7) ∧ w'.cell? ⟨w.heap.size, 8, none⟩ = some (.int .i64 z8) ∧ w'.cell? ⟨w.heap.size, 9, none⟩ = some (.int .i64 z9) ∧ w'.cell? ⟨w.heap.size, 10, none⟩ = some (.int .i64 z10) ∧ w'.cell? ⟨w.heap.size, 11, none⟩ = some (.int .i64 z11) ∧ w'.cell? ⟨w.heap.size, 12, none⟩ = some (.int .i64 z12) ∧ w'.cell? ⟨w.heap.size, 13, none⟩ = some (.int .i64 z13) ∧ w'.cell? ⟨w.heap.size, 14, none⟩ = some (.int .i64 z14) ∧ w'.cell? ⟨w.heap.size, 15, none⟩ = some (.int .i64 z15) ∧ (Instr.lookup 118 (.map (some m)) (.agg #[.int .i64 z0, .int .i64 z1, .int .i64 z2, .int .i64 z3, .int .i64 z4, .int .i64 z5, .int .i64 z6, .int .i64 z7, .int .i64 z8, .int .i64 z9, .int .i64 z10, .int .i64 z11, .int .i64 z12, .int .i64 z13, .int .i64 z14, .int .i64 z15]) true).run Tryd.prog w' = .ok (.tuple #[.agg #[], .bool b]) w') (first | (go_split_ands; refine ⟨by go_keep, by go_keep, by go_keep, by go_keep, by go_keep, by go_keep, by go_keep, by go_keep, by go_keep, by go_keep, by go_keep, by go_keep, by go_keep, by go_keep, by go_keep, by go_keep, by go_keep, ?_⟩; first | exact HLA.out _ | exact HLK.out _ HKW.out)) (fail)
    all_goals (go_wp2_with fail; go_meet; exact ⟨rfl, (HT.out.alloc _).drew, (HB.out.alloc _).drew⟩)
  case rest =>
    obtain ⟨rfl, hTX, hBX⟩ := hcut
    obtain ⟨X, rfl⟩ : ∃ X : World, X = wc := ⟨_, rfl⟩
    clear e0 y0 y1 y2 y3 y4 y5 y6 y7 y8 y9 y10 y11 y12 y13 y14 y15 HKW HLA hgW hbW HT HB
    cases b with
    | true =>
      have hmem : [z0, z1, z2, z3, z4, z5, z6, z7, z8, z9, z10, z11, z12, z13, z14, z15] ∈ known := of_decide_eq_true HBM.out.symm
      have HMEM := Lib.hid hmem
      clear hmem
      go_wp2_with fail
      refine bodyPost_ret (results_none rfl _ _ _) rfl ⟨rfl, hTX.mono fun _ h => h.elim, lb, ?_, Or.inl rfl⟩
      rw [if_pos HMEM.out, show ins1 known [z0, z1, z2, z3, z4, z5, z6, z7, z8, z9, z10, z11, z12, z13, z14, z15] = known from if_pos HMEM.out]
      exact HQ.out.touch hTX (fun h => h) (fun h => h) (fun h => h)
    | false =>
      have hmem : ¬ [z0, z1, z2, z3, z4, z5, z6, z7, z8, z9, z10, z11, z12, z13, z14, z15] ∈ known := of_decide_eq_false HBM.out.symm
      have HMEM := Lib.hid hmem
      clear hmem
      go_wp2_with fail
      have e0 : X.cell? ⟨g, 0, none⟩ = some (.map (some m)) := (hTX.cell (p := ⟨g, 0, none⟩) hgl (fun h => h)).trans ((HBK.out.cell 0).trans rfl)
      have y0 : X.cell? ⟨w.heap.size, 0, none⟩ = some (.int .i64 z0) := (hBX.cell 0).trans rfl
      have y1 : X.cell? ⟨w.heap.size, 1, none⟩ = some (.int .i64 z1) := (hBX.cell 1).trans rfl
      have y2 : X.cell? ⟨w.heap.size, 2, none⟩ = some (.int .i64 z2) := (hBX.cell 2).trans rfl
      have y3 : X.cell? ⟨w.heap.size, 3, none⟩ = some (.int .i64 z3) := (hBX.cell 3).trans rfl
      have y4 : X.cell? ⟨w.heap.size, 4, none⟩ = some (.int .i64 z4) := (hBX.cell 4).trans rfl
      have y5 : X.cell? ⟨w.heap.size, 5, none⟩ = some (.int .i64 z5) := (hBX.cell 5).trans rfl
      have y6 : X.cell? ⟨w.heap.size, 6, none⟩ = some (.int .i64 z6) := (hBX.cell 6).trans rfl
      have y7 : X.cell? ⟨w.heap.size, 7, none⟩ = some (.int .i64 z7) := (hBX.cell 7).trans rfl
      have y8 : X.cell? ⟨w.heap.size, 8, none⟩ = some (.int .i64 z8) := (hBX.cell 8).trans rfl
      have y9 : X.cell? ⟨w.heap.size, 9, none⟩ = some (.int .i64 z9) := (hBX.cell 9).trans rfl
      have y10 : X.cell? ⟨w.heap.size, 10, none⟩ = some (.int .i64 z10) := (hBX.cell 10).trans rfl
      have y11 : X.cell? ⟨w.heap.size, 11, none⟩ = some (.int .i64 z11) := (hBX.cell 11).trans rfl
      have y12 : X.cell? ⟨w.heap.size, 12, none⟩ = some (.int .i64 z12) := (hBX.cell 12).trans rfl
      have y13 : X.cell? ⟨w.heap.size, 13, none⟩ = some (.int .i64 z13) := (hBX.cell 13).trans rfl
      have y14 : X.cell? ⟨w.heap.size, 14, none⟩ = some (.int .i64 z14) := (hBX.cell 14).trans rfl
      have y15 : X.cell? ⟨w.heap.size, 15, none⟩ = some (.int .i64 z15) := (hBX.cell 15).trans rfl
      obtain ⟨D, hown, hD⟩ := HK.out.touch hTX (fun h => h)
      obtain ⟨kl, hkl⟩ := key_row [z0, z1, z2, z3, z4, z5, z6, z7, z8, z9, z10, z11, z12, z13, z14, z15] rfl HR.out
      have HOWN := Lib.hid (show X.drew.ownsMap Tryd.prog 63 unitElem m known.length D from hown)
      have HD := Lib.hid hD
      have HKL := Lib.hid hkl
      have HTX := Lib.hid hTX
      have HBX := Lib.hid hBX
      have hxs := hTX.size
      clear hD hkl hown hTX hBX
      go_still_tail 6, (by kernel_rfl)
      change wpList _ _ _ _ _ X.drew
      refine wpList_mapUpdate_own _ rfl _ _ _ 118 rfl 63 109 Tkey.law Tryd.underlying118 unitElem m known.length D rfl HOWN.out (by unfold maxLen; omega) _ _ kl rfl rfl HKL.out _ [] unitElem_mk ?_
      intro X2 hown2 hgr
      have HOWN2 := Lib.hid hown2
      have hT2 : Touch (fun k => k = m) X X2 := (Touch.refl _ X).drew.grown hgr fun k hk => Or.inl (Option.some.inj hk).symm
      have HT2 := Lib.hid hT2
      clear hown2 hgr hT2 e0 y0 y1 y2 y3 y4 y5 y6 y7 y8 y9 y10 y11 y12 y13 y14 y15
      have hlm : lb ≠ m := by rcases HLB.out with ⟨_, h⟩ | ⟨_, h, _⟩
                              · rw [h]; exact hgm
                              · exact h
      have hXg : Block X2 g 120 #[.map (some m), v] := (HBK.out.touch HTX.out (fun h => h)).touch HT2.out hgm
      have hXL : Left X2 63 lb v left := (HLT.out.touch HTX.out (fun h => h)).touch HT2.out hlm
      have hXB : Block X2 w.heap.size 63 (row [z0, z1, z2, z3, z4, z5, z6, z7, z8, z9, z10, z11, z12, z13, z14, z15]) := HBX.out.touch HT2.out (by have := HK.out.lt; omega)
      have e1 : X2.cell? ⟨g, 1, none⟩ = some v := (hXg.cell 1).trans rfl
      have e2 : X2.frozen? ⟨g, 1, none⟩ = false := hXg.free 1
      have y0 : X2.cell? ⟨w.heap.size, 0, none⟩ = some (.int .i64 z0) := (hXB.cell 0).trans rfl
      have y1 : X2.cell? ⟨w.heap.size, 1, none⟩ = some (.int .i64 z1) := (hXB.cell 1).trans rfl
      have y2 : X2.cell? ⟨w.heap.size, 2, none⟩ = some (.int .i64 z2) := (hXB.cell 2).trans rfl
      have y3 : X2.cell? ⟨w.heap.size, 3, none⟩ = some (.int .i64 z3) := (hXB.cell 3).trans rfl
      have y4 : X2.cell? ⟨w.heap.size, 4, none⟩ = some (.int .i64 z4) := (hXB.cell 4).trans rfl
      have y5 : X2.cell? ⟨w.heap.size, 5, none⟩ = some (.int .i64 z5) := (hXB.cell 5).trans rfl
      have y6 : X2.cell? ⟨w.heap.size, 6, none⟩ = some (.int .i64 z6) := (hXB.cell 6).trans rfl
      have y7 : X2.cell? ⟨w.heap.size, 7, none⟩ = some (.int .i64 z7) := (hXB.cell 7).trans rfl
      have y8 : X2.cell? ⟨w.heap.size, 8, none⟩ = some (.int .i64 z8) := (hXB.cell 8).trans rfl
      have y9 : X2.cell? ⟨w.heap.size, 9, none⟩ = some (.int .i64 z9) := (hXB.cell 9).trans rfl
      have y10 : X2.cell? ⟨w.heap.size, 10, none⟩ = some (.int .i64 z10) := (hXB.cell 10).trans rfl
      have y11 : X2.cell? ⟨w.heap.size, 11, none⟩ = some (.int .i64 z11) := (hXB.cell 11).trans rfl
      have y12 : X2.cell? ⟨w.heap.size, 12, none⟩ = some (.int .i64 z12) := (hXB.cell 12).trans rfl
      have y13 : X2.cell? ⟨w.heap.size, 13, none⟩ = some (.int .i64 z13) := (hXB.cell 13).trans rfl
      have y14 : X2.cell? ⟨w.heap.size, 14, none⟩ = some (.int .i64 z14) := (hXB.cell 14).trans rfl
      have y15 : X2.cell? ⟨w.heap.size, 15, none⟩ = some (.int .i64 z15) := (hXB.cell 15).trans rfl
      have HXG := Lib.hid hXg
      have HXL := Lib.hid hXL
      have HXB := Lib.hid hXB
      clear hXg hXL hXB
      go_wp2_with fail
      obtain ⟨i0, hi, hz0, hz1, hz2⟩ := info_parts Tq.info
      have HLL := Lib.hid (fun zs hz => (HLEN.out zs (HSUB.out zs hz)).1)
      have hgX : g < X2.heap.size := HXG.out.lt
      have hog : v.ownBlock ≠ some g := fun h => by
        rcases HLB.out with ⟨rfl, _⟩ | ⟨h1, _⟩
        · cases h
        · exact h1 (HXL.out.own h).symm
      have hom : v.ownBlock ≠ some m := fun h => hlm (HXL.out.own h).symm
      have HOG := Lib.hid hog
      have HOM := Lib.hid hom
      clear hog hom
      go_region_law ((refine step_append_left (by rfl) _ _ 117 (by rfl) 63 i0 _ Tryd.underlying117 hi hz0 hz1 hz2 rfl lb v (by rfl) left (by exact HXL.out.keep (by simp [World.drew]) (fun h => Below.heap_alloc X2 _ _ h)) HLL.out [z0, z1, z2, z3, z4, z5, z6, z7, z8, z9, z10, z11, z12, z13, z14, z15] rfl ⟨X2.heap.size, 0, none⟩ 1 (by rfl) (World.news_of_block (cs := #[.int .i64 z0, .int .i64 z1, .int .i64 z2, .int .i64 z3, .int .i64 z4, .int .i64 z5, .int .i64 z6, .int .i64 z7, .int .i64 z8, .int .i64 z9, .int .i64 z10, .int .i64 z11, .int .i64 z12, .int .i64 z13, .int .i64 z14, .int .i64 z15]) (t := 63) (fr := (0, 0)) (heap_alloc_new X2 _)) hN2 ?_; intro v' w3 lb' hL3 hlb3 hT3 hlt3; have HL3 := Lib.hid hL3; obtain ⟨A3, c3, rfl⟩ := hL3.form; have e3 := (hT3.cell (p := ⟨g, 1, none⟩) (by simp [World.drew]; omega) HOG.out).trans ((World.cell?_alloc_lt X2 _ ⟨g, 1, none⟩ hgX).trans e1); have e4 := (hT3.frozen (p := ⟨g, 1, none⟩) (by simp [World.drew]; omega) HOG.out).trans ((World.frozen?_of_block (w := X2) (Below.heap_alloc X2 _ g hgX)).trans e2); have HT3 := Lib.hid hT3; have HLB3 := Lib.hid hlb3; clear hL3 hT3 hlb3))
      all_goals
        go_wp2_with fail
        have hmX : m < X2.heap.size := HOWN2.out.lt
        have hlb : lb' ≠ g ∧ lb' ≠ m := by
          rcases HLB3.out with ⟨h1, h2⟩ | h1
          · rw [h1]
            exact ⟨fun h => HOG.out (by rw [h2, h]), fun h => HOM.out (by rw [h2, h])⟩
          · simp [World.drew] at h1
            exact ⟨by omega, by omega⟩
        have hgm' : m ≠ g := fun h => hgm h.symm
        have hTT : Touch (fun k => v.ownBlock = some k) X2 w3 := (((Touch.refl _ X2).alloc _).drew).trans HT3.out fun i h => Or.inl h
        have hT4 : Touch (fun k => k = g ∨ k = m ∨ k = lb) w w3 := ((HTX.out.mono (fun _ h => h.elim)).trans HT2.out (fun i h => Or.inl (Or.inr (Or.inl h)))).trans hTT (fun i h => Or.inl (Or.inr (Or.inr (HXL.out.own h))))
        refine bodyPost_end (results_none rfl _ _ _) rfl ⟨rfl, hT4.setCell (Or.inl (Or.inl rfl)) _, lb', ⟨⟨.slice A3 (left.length + 1) c3, ?_, ?_, Or.inr ⟨hlb.1, hlb.2, ?_⟩⟩, ?_, hgm, ?_, ?_⟩, ?_⟩
        · exact (HXG.out.touch hTT HOG.out).put 1 _
        · rw [if_neg HMEM.out]
          have h3 := HL3.out
          rw [List.length_append] at h3
          exact h3.touch ((Touch.refl (fun k => k = g) w3).setCell (Or.inl rfl) _) hlb.1
        · simpa [World.setCell] using hlt3
        · rw [show ins1 known [z0, z1, z2, z3, z4, z5, z6, z7, z8, z9, z10, z11, z12, z13, z14, z15] = known ++ [[z0, z1, z2, z3, z4, z5, z6, z7, z8, z9, z10, z11, z12, z13, z14, z15]] from if_neg HMEM.out]
          exact ((known_put rfl HOWN.out.isMap HD.out HKL.out HOWN2.out).touch hTT HOM.out).touch ((Touch.refl (fun k => k = g) w3).setCell (Or.inl rfl) _) hgm'
        · intro z hz
          rcases mem_ins1.1 hz with h | h
          · exact HLEN.out z h
          · rw [h]; exact ⟨rfl, HR.out⟩
        · intro z hz
          rw [if_neg HMEM.out] at hz
          rcases List.mem_append.1 hz with h | h
          · exact mem_ins1.2 (Or.inl (HSUB.out z h))
          · exact mem_ins1.2 (Or.inr (List.mem_singleton.1 h))
        · rcases HLB3.out with ⟨h1, _⟩ | h1
          · exact Or.inl h1
          · simp [World.drew] at h1
            have := HT2.out.size
            exact Or.inr (by omega)
end Go.Proofs.YthpnnmkpbkbanaaDoor

/-
  The queue of states: Put, Take and New, altogether.
-/
namespace Go.Proofs.YthpnnmkpbkbanaaDoor
open Go.RowKit Go.Maps
attribute [local go_sem ↓] Go.wp_at_zero Go.wp_at_succ

theorem Touch.setCells {O : Nat → Prop} {a b : World} (h : Touch O a b) {g : Nat} (hg : O g ∨ a.heap.size ≤ g) (o : Nat) (vs : List Value) : Touch O a (b.setCells g o vs) := by
  obtain ⟨p1, p2, p3, p4⟩ := setCells_parts g vs o b
  exact h.trans (O' := fun k => k = g) ⟨p1, p2, p3, by omega, fun k _ hk => setCells_heap g vs o b k hk⟩ fun _ h' => by rw [h']; exact hg
theorem setCells_all {w : World} {g : Nat} {t : TypeId} {cs : Array Value} (h : Block w g t cs) (zs : List Int) (hl : zs.length = cs.size) : Block (w.setCells g 0 (zs.map (Value.int .i64))) g t (row zs) := by
  obtain ⟨cs', e1, e2, _, e4⟩ := setCells_block (zs.map (Value.int .i64)) 0 w cs h (by simp; omega)
  have e : cs' = row zs := by
    apply Array.ext_getElem?
    intro i
    rcases Nat.lt_or_ge i zs.length with hi | hi
    · have h1 := e4 i (.int .i64 zs[i]) (by rw [List.getElem?_map, List.getElem?_eq_getElem hi]; rfl)
      rw [Nat.zero_add] at h1
      rw [h1, row_get (List.getElem?_eq_getElem hi)]
    · rw [Array.getElem?_eq_none (by omega), Array.getElem?_eq_none (by rw [row_size]; omega)]
  rw [← e]
  exact e1

theorem setCells16 (W : World) (g : Nat) (z0 z1 z2 z3 z4 z5 z6 z7 z8 z9 z10 z11 z12 z13 z14 z15 : Int) : W.setCells g 0 ([z0, z1, z2, z3, z4, z5, z6, z7, z8, z9, z10, z11, z12, z13, z14, z15].map (Value.int .i64)) = ((((((((((((((((W.setCell ⟨g, 0, none⟩ (.int .i64 z0)).setCell ⟨g, 1, none⟩ (.int .i64 z1)).setCell ⟨g, 2, none⟩ (.int .i64 z2)).setCell ⟨g, 3, none⟩ (.int .i64 z3)).setCell ⟨g, 4, none⟩ (.int .i64 z4)).setCell ⟨g, 5, none⟩ (.int .i64 z5)).setCell ⟨g, 6, none⟩ (.int .i64 z6)).setCell ⟨g, 7, none⟩ (.int .i64 z7)).setCell ⟨g, 8, none⟩ (.int .i64 z8)).setCell ⟨g, 9, none⟩ (.int .i64 z9)).setCell ⟨g, 10, none⟩ (.int .i64 z10)).setCell ⟨g, 11, none⟩ (.int .i64 z11)).setCell ⟨g, 12, none⟩ (.int .i64 z12)).setCell ⟨g, 13, none⟩ (.int .i64 z13)).setCell ⟨g, 14, none⟩ (.int .i64 z14)).setCell ⟨g, 15, none⟩ (.int .i64 z15)) := by
  simp only [List.map_cons, List.map_nil, World.setCells, Nat.zero_add, Nat.reduceAdd]

theorem put_any (g m lb : Nat) (known left : List (List Int)) (z : List Int) (w : World) (hq : QI w g m lb known left) (hz : z.length = 16) (hr : Rng z) (hN : known.length < 1073741825) (hN2 : left.length < 1073741825) :
    Calls Tryd.prog 46 #[.pointer (some ⟨g, 0, none⟩), .agg (row z)] w (PutPost g m lb known left z w) := by
  obtain ⟨z0, z1, z2, z3, z4, z5, z6, z7, z8, z9, z10, z11, z12, z13, z14, z15, rfl⟩ := l16 z hz
  exact put16 g m lb known left z0 z1 z2 z3 z4 z5 z6 z7 z8 z9 z10 z11 z12 z13 z14 z15 w hq hr hN hN2

set_option maxRecDepth 100000 in
set_option maxHeartbeats 2000000 in
theorem take_none (g m lb : Nat) (known : List (List Int)) (w : World) (hq : QI w g m lb known []) :
    Calls Tryd.prog 45 #[.pointer (some ⟨g, 0, none⟩)] w fun e w' => e = .returned (.tuple #[.agg (row zero16), .bool false]) ∧ Touch (fun _ => False) w w' := by
  obtain ⟨⟨v, hb, hL, hlb⟩, hk, hgm, hlen, hsub⟩ := hq
  obtain ⟨A, c, rfl⟩ := hL.form
  have c1 := hb.cell 1
  simp at c1
  have hgl := hb.lt
  clear hlb hsub hlen hL hb hk
  go_enter Tryd.func45, Tryd.ntmps45
  go_wp2_with fail
  exact bodyPost_ret (v := .tuple #[.agg #[.int .i64 0, .int .i64 0, .int .i64 0, .int .i64 0, .int .i64 0, .int .i64 0, .int .i64 0, .int .i64 0, .int .i64 0, .int .i64 0, .int .i64 0, .int .i64 0, .int .i64 0, .int .i64 0, .int .i64 0, .int .i64 0], .bool false]) (by simp [results, Tryd.results45, go_sem]) rfl ⟨rfl, (Touch.refl _ w).alloc _⟩

set_option maxRecDepth 100000 in
set_option maxHeartbeats 2000000 in
theorem take16 (g m lb : Nat) (known rest : List (List Int)) (z0 z1 z2 z3 z4 z5 z6 z7 z8 z9 z10 z11 z12 z13 z14 z15 : Int) (w : World) (hq : QI w g m lb known ([z0, z1, z2, z3, z4, z5, z6, z7, z8, z9, z10, z11, z12, z13, z14, z15] :: rest)) :
    Calls Tryd.prog 45 #[.pointer (some ⟨g, 0, none⟩)] w fun e w' => e = .returned (.tuple #[.agg (row [z0, z1, z2, z3, z4, z5, z6, z7, z8, z9, z10, z11, z12, z13, z14, z15]), .bool true]) ∧ Touch (fun k => k = g) w w' ∧ QI w' g m lb known rest := by
  have HQ := Lib.hid hq
  obtain ⟨⟨v, hb, hL, hlb⟩, hk, hgm, hlen, hsub⟩ := hq
  have HL := Lib.hid hL
  obtain ⟨A, cap, rfl, hn, hcm, hnone, hsome⟩ := hL
  have HB := Lib.hid hb
  have c1 := hb.cell 1
  have c2 := hb.free 1
  simp at c1
  have hgl := hb.lt
  simp only [List.length_cons] at hn
  cases A with
  | none =>
    have := hnone rfl
    omega
  | some a =>
    obtain ⟨o, rfl, hll, hrow⟩ := hsome a rfl
    obtain ⟨cs, hcb, hsz, hcs⟩ := hrow (by omega)
    have x0 : w.cell? ⟨lb, o, none⟩ = some (.int .i64 z0) := (hcb.cell o).trans (hcs 0 _ rfl)
    have x1 : w.cell? ⟨lb, o + 1, none⟩ = some (.int .i64 z1) := (hcb.cell (o + 1)).trans (hcs 1 _ rfl)
    have x2 : w.cell? ⟨lb, o + 2, none⟩ = some (.int .i64 z2) := (hcb.cell (o + 2)).trans (hcs 2 _ rfl)
    have x3 : w.cell? ⟨lb, o + 3, none⟩ = some (.int .i64 z3) := (hcb.cell (o + 3)).trans (hcs 3 _ rfl)
    have x4 : w.cell? ⟨lb, o + 4, none⟩ = some (.int .i64 z4) := (hcb.cell (o + 4)).trans (hcs 4 _ rfl)
    have x5 : w.cell? ⟨lb, o + 5, none⟩ = some (.int .i64 z5) := (hcb.cell (o + 5)).trans (hcs 5 _ rfl)
    have x6 : w.cell? ⟨lb, o + 6, none⟩ = some (.int .i64 z6) := (hcb.cell (o + 6)).trans (hcs 6 _ rfl)
    have x7 : w.cell? ⟨lb, o + 7, none⟩ = some (.int .i64 z7) := (hcb.cell (o + 7)).trans (hcs 7 _ rfl)
    have x8 : w.cell? ⟨lb, o + 8, none⟩ = some (.int .i64 z8) := (hcb.cell (o + 8)).trans (hcs 8 _ rfl)
    have x9 : w.cell? ⟨lb, o + 9, none⟩ = some (.int .i64 z9) := (hcb.cell (o + 9)).trans (hcs 9 _ rfl)
    have x10 : w.cell? ⟨lb, o + 10, none⟩ = some (.int .i64 z10) := (hcb.cell (o + 10)).trans (hcs 10 _ rfl)
    have x11 : w.cell? ⟨lb, o + 11, none⟩ = some (.int .i64 z11) := (hcb.cell (o + 11)).trans (hcs 11 _ rfl)
    have x12 : w.cell? ⟨lb, o + 12, none⟩ = some (.int .i64 z12) := (hcb.cell (o + 12)).trans (hcs 12 _ rfl)
    have x13 : w.cell? ⟨lb, o + 13, none⟩ = some (.int .i64 z13) := (hcb.cell (o + 13)).trans (hcs 13 _ rfl)
    have x14 : w.cell? ⟨lb, o + 14, none⟩ = some (.int .i64 z14) := (hcb.cell (o + 14)).trans (hcs 14 _ rfl)
    have x15 : w.cell? ⟨lb, o + 15, none⟩ = some (.int .i64 z15) := (hcb.cell (o + 15)).trans (hcs 15 _ rfl)
    have HCB := Lib.hid hcb
    have HCS := Lib.hid hcs
    have HSZ := Lib.hid hsz
    have HLB := Lib.hid hlb
    clear hlb hsub hlen hk hb hcs hcb hsz hnone hsome hrow
    go_enter Tryd.func45, Tryd.ntmps45
    go_wp2_with fail
    have hB := Block.made w 63 #[.int .i64 0, .int .i64 0, .int .i64 0, .int .i64 0, .int .i64 0, .int .i64 0, .int .i64 0, .int .i64 0, .int .i64 0, .int .i64 0, .int .i64 0, .int .i64 0, .int .i64 0, .int .i64 0, .int .i64 0, .int .i64 0]
    have hT : Touch (fun _ => False) w (w.alloc (.cells #[.int .i64 0, .int .i64 0, .int .i64 0, .int .i64 0, .int .i64 0, .int .i64 0, .int .i64 0, .int .i64 0, .int .i64 0, .int .i64 0, .int .i64 0, .int .i64 0, .int .i64 0, .int .i64 0, .int .i64 0, .int .i64 0] 63)) := (Touch.refl _ w).alloc _
    obtain ⟨W, hW⟩ : ∃ W, W = w.alloc (.cells #[.int .i64 0, .int .i64 0, .int .i64 0, .int .i64 0, .int .i64 0, .int .i64 0, .int .i64 0, .int .i64 0, .int .i64 0, .int .i64 0, .int .i64 0, .int .i64 0, .int .i64 0, .int .i64 0, .int .i64 0, .int .i64 0] 63) := ⟨_, rfl⟩
    rw [← hW] at hB hT ⊢
    have d1 := (hT.cell (p := ⟨g, 1, none⟩) hgl (fun h => h)).trans c1
    have d2 := (hT.frozen (p := ⟨g, 1, none⟩) hgl (fun h => h)).trans c2
    have y0 := (hT.cell (p := ⟨lb, o, none⟩) hll (fun h => h)).trans x0
    have y1 := (hT.cell (p := ⟨lb, o + 1, none⟩) hll (fun h => h)).trans x1
    have y2 := (hT.cell (p := ⟨lb, o + 2, none⟩) hll (fun h => h)).trans x2
    have y3 := (hT.cell (p := ⟨lb, o + 3, none⟩) hll (fun h => h)).trans x3
    have y4 := (hT.cell (p := ⟨lb, o + 4, none⟩) hll (fun h => h)).trans x4
    have y5 := (hT.cell (p := ⟨lb, o + 5, none⟩) hll (fun h => h)).trans x5
    have y6 := (hT.cell (p := ⟨lb, o + 6, none⟩) hll (fun h => h)).trans x6
    have y7 := (hT.cell (p := ⟨lb, o + 7, none⟩) hll (fun h => h)).trans x7
    have y8 := (hT.cell (p := ⟨lb, o + 8, none⟩) hll (fun h => h)).trans x8
    have y9 := (hT.cell (p := ⟨lb, o + 9, none⟩) hll (fun h => h)).trans x9
    have y10 := (hT.cell (p := ⟨lb, o + 10, none⟩) hll (fun h => h)).trans x10
    have y11 := (hT.cell (p := ⟨lb, o + 11, none⟩) hll (fun h => h)).trans x11
    have y12 := (hT.cell (p := ⟨lb, o + 12, none⟩) hll (fun h => h)).trans x12
    have y13 := (hT.cell (p := ⟨lb, o + 13, none⟩) hll (fun h => h)).trans x13
    have y14 := (hT.cell (p := ⟨lb, o + 14, none⟩) hll (fun h => h)).trans x14
    have y15 := (hT.cell (p := ⟨lb, o + 15, none⟩) hll (fun h => h)).trans x15
    have b0 : W.cell? ⟨w.heap.size, 0, none⟩ = some (.int .i64 0) := (hB.cell 0).trans rfl
    have f0 := hB.free 0
    have b1 : W.cell? ⟨w.heap.size, 1, none⟩ = some (.int .i64 0) := (hB.cell 1).trans rfl
    have f1 := hB.free 1
    have b2 : W.cell? ⟨w.heap.size, 2, none⟩ = some (.int .i64 0) := (hB.cell 2).trans rfl
    have f2 := hB.free 2
    have b3 : W.cell? ⟨w.heap.size, 3, none⟩ = some (.int .i64 0) := (hB.cell 3).trans rfl
    have f3 := hB.free 3
    have b4 : W.cell? ⟨w.heap.size, 4, none⟩ = some (.int .i64 0) := (hB.cell 4).trans rfl
    have f4 := hB.free 4
    have b5 : W.cell? ⟨w.heap.size, 5, none⟩ = some (.int .i64 0) := (hB.cell 5).trans rfl
    have f5 := hB.free 5
    have b6 : W.cell? ⟨w.heap.size, 6, none⟩ = some (.int .i64 0) := (hB.cell 6).trans rfl
    have f6 := hB.free 6
    have b7 : W.cell? ⟨w.heap.size, 7, none⟩ = some (.int .i64 0) := (hB.cell 7).trans rfl
    have f7 := hB.free 7
    have b8 : W.cell? ⟨w.heap.size, 8, none⟩ = some (.int .i64 0) := (hB.cell 8).trans rfl
    have f8 := hB.free 8
    have b9 : W.cell? ⟨w.heap.size, 9, none⟩ = some (.int .i64 0) := (hB.cell 9).trans rfl
    have f9 := hB.free 9
    have b10 : W.cell? ⟨w.heap.size, 10, none⟩ = some (.int .i64 0) := (hB.cell 10).trans rfl
    have f10 := hB.free 10
    have b11 : W.cell? ⟨w.heap.size, 11, none⟩ = some (.int .i64 0) := (hB.cell 11).trans rfl
    have f11 := hB.free 11
    have b12 : W.cell? ⟨w.heap.size, 12, none⟩ = some (.int .i64 0) := (hB.cell 12).trans rfl
    have f12 := hB.free 12
    have b13 : W.cell? ⟨w.heap.size, 13, none⟩ = some (.int .i64 0) := (hB.cell 13).trans rfl
    have f13 := hB.free 13
    have b14 : W.cell? ⟨w.heap.size, 14, none⟩ = some (.int .i64 0) := (hB.cell 14).trans rfl
    have f14 := hB.free 14
    have b15 : W.cell? ⟨w.heap.size, 15, none⟩ = some (.int .i64 0) := (hB.cell 15).trans rfl
    have f15 := hB.free 15
    have hgb : g ≠ w.heap.size := by omega
    have hlb2 : lb ≠ w.heap.size := by omega
    have hlen1 : (1 : Int) ≤ (rest.length : Int) + 1 := by omega
    have hlen2 : (rest.length : Int) + 1 ≤ cap := by omega
    have hlen0 : (0 : Int) < (rest.length : Int) + 1 := by omega
    have HT := Lib.hid hT
    have HBB := Lib.hid hB
    clear hW c1 c2 x0 x1 x2 x3 x4 x5 x6 x7 x8 x9 x10 x11 x12 x13 x14 x15 hT hB
    by_cases hc1 : cap = 1
    · have hr0 : rest = [] := List.eq_nil_of_length_eq_zero (by omega)
      subst hr0
      subst hc1
      simp only [List.length_nil] at d1 hlen1 hlen2 hlen0 hn ⊢
      go_region
      obtain ⟨Y, hY⟩ : ∃ Y, Y = (((((((((((((((((W.setCell ⟨w.heap.size, 0, none⟩ (.int .i64 z0)).setCell ⟨w.heap.size, 1, none⟩ (.int .i64 z1)).setCell ⟨w.heap.size, 2, none⟩ (.int .i64 z2)).setCell ⟨w.heap.size, 3, none⟩ (.int .i64 z3)).setCell ⟨w.heap.size, 4, none⟩ (.int .i64 z4)).setCell ⟨w.heap.size, 5, none⟩ (.int .i64 z5)).setCell ⟨w.heap.size, 6, none⟩ (.int .i64 z6)).setCell ⟨w.heap.size, 7, none⟩ (.int .i64 z7)).setCell ⟨w.heap.size, 8, none⟩ (.int .i64 z8)).setCell ⟨w.heap.size, 9, none⟩ (.int .i64 z9)).setCell ⟨w.heap.size, 10, none⟩ (.int .i64 z10)).setCell ⟨w.heap.size, 11, none⟩ (.int .i64 z11)).setCell ⟨w.heap.size, 12, none⟩ (.int .i64 z12)).setCell ⟨w.heap.size, 13, none⟩ (.int .i64 z13)).setCell ⟨w.heap.size, 14, none⟩ (.int .i64 z14)).setCell ⟨w.heap.size, 15, none⟩ (.int .i64 z15)).setCell ⟨g, 1, none⟩ (.slice (some ⟨lb, o, none⟩) 0 0)).drew := ⟨_, rfl⟩
      rw [← hY]
      rw [← setCells16] at hY
      have hYB : Block Y w.heap.size 63 (row [z0, z1, z2, z3, z4, z5, z6, z7, z8, z9, z10, z11, z12, z13, z14, z15]) := by
        rw [hY]
        exact ((setCells_all HBB.out [z0, z1, z2, z3, z4, z5, z6, z7, z8, z9, z10, z11, z12, z13, z14, z15] rfl).far (fun h => hgb h.symm) _).drew
      have hTY : Touch (fun k => k = g) w Y := by
        rw [hY]
        exact (Touch.setCell (O := fun k => k = g) ((HT.out.mono (fun _ h => h.elim)).setCells (Or.inr (Nat.le_refl _)) 0 _) (p := ⟨g, 1, none⟩) (Or.inl rfl) _).drew
      have hYG : Block Y g 120 #[.map (some m), .slice (some ⟨lb, o, none⟩) 0 0] := by
        rw [hY]
        exact ((HB.out.touch ((HT.out.mono (O' := fun k => k = w.heap.size) (fun _ h => h.elim)).setCells (Or.inl rfl) 0 ([z0, z1, z2, z3, z4, z5, z6, z7, z8, z9, z10, z11, z12, z13, z14, z15].map (Value.int .i64))) hgb).put 1 (.slice (some ⟨lb, o, none⟩) 0 0)).drew
      have HYB := Lib.hid hYB
      have HYG := Lib.hid hYG
      have HTY := Lib.hid hTY
      clear hY hYB hYG hTY d1 d2 y0 b0 f0 y1 b1 f1 y2 b2 f2 y3 b3 f3 y4 b4 f4 y5 b5 f5 y6 b6 f6 y7 b7 f7 y8 b8 f8 y9 b9 f9 y10 b10 f10 y11 b11 f11 y12 b12 f12 y13 b13 f13 y14 b14 f14 y15 b15 f15
      go_wp2_with (first | (refine wpList_load_row rfl 63 (.tmp 2) rfl w.heap.size rfl _ (row [z0, z1, z2, z3, z4, z5, z6, z7, z8, z9, z10, z11, z12, z13, z14, z15]) _ _ HYB.out Tryd.underlying63 rfl Tst.info ?_) | (refine wpList_store_row rfl 63 (.tmp 2) (.tmp 25) rfl w.heap.size (row [z0, z1, z2, z3, z4, z5, z6, z7, z8, z9, z10, z11, z12, z13, z14, z15]) rfl rfl _ _ HYB.out Tst.info rfl (row_one _) ?_))
      have hV : Block (Y.setRow w.heap.size (row [z0, z1, z2, z3, z4, z5, z6, z7, z8, z9, z10, z11, z12, z13, z14, z15])) w.heap.size 63 (row [z0, z1, z2, z3, z4, z5, z6, z7, z8, z9, z10, z11, z12, z13, z14, z15]) := setRow_heap _ _ _ _ _ _ HYB.out
      have hTV : Touch (fun k => k = g) w (Y.setRow w.heap.size (row [z0, z1, z2, z3, z4, z5, z6, z7, z8, z9, z10, z11, z12, z13, z14, z15])) := HTY.out.setRow (Or.inr (Nat.le_refl _)) _
      have hVG : Block (Y.setRow w.heap.size (row [z0, z1, z2, z3, z4, z5, z6, z7, z8, z9, z10, z11, z12, z13, z14, z15])) g 120 #[.map (some m), .slice (some ⟨lb, o, none⟩) 0 0] := (setRow_other _ _ _ _ hgb).trans HYG.out
      obtain ⟨V, hVV⟩ : ∃ V, V = Y.setRow w.heap.size (row [z0, z1, z2, z3, z4, z5, z6, z7, z8, z9, z10, z11, z12, z13, z14, z15]) := ⟨_, rfl⟩
      rw [← hVV] at hV hTV hVG ⊢
      clear hVV
      have v0 : V.cell? ⟨w.heap.size, 0, none⟩ = some (.int .i64 z0) := (hV.cell 0).trans rfl
      have v1 : V.cell? ⟨w.heap.size, 1, none⟩ = some (.int .i64 z1) := (hV.cell 1).trans rfl
      have v2 : V.cell? ⟨w.heap.size, 2, none⟩ = some (.int .i64 z2) := (hV.cell 2).trans rfl
      have v3 : V.cell? ⟨w.heap.size, 3, none⟩ = some (.int .i64 z3) := (hV.cell 3).trans rfl
      have v4 : V.cell? ⟨w.heap.size, 4, none⟩ = some (.int .i64 z4) := (hV.cell 4).trans rfl
      have v5 : V.cell? ⟨w.heap.size, 5, none⟩ = some (.int .i64 z5) := (hV.cell 5).trans rfl
      have v6 : V.cell? ⟨w.heap.size, 6, none⟩ = some (.int .i64 z6) := (hV.cell 6).trans rfl
      have v7 : V.cell? ⟨w.heap.size, 7, none⟩ = some (.int .i64 z7) := (hV.cell 7).trans rfl
      have v8 : V.cell? ⟨w.heap.size, 8, none⟩ = some (.int .i64 z8) := (hV.cell 8).trans rfl
      have v9 : V.cell? ⟨w.heap.size, 9, none⟩ = some (.int .i64 z9) := (hV.cell 9).trans rfl
      have v10 : V.cell? ⟨w.heap.size, 10, none⟩ = some (.int .i64 z10) := (hV.cell 10).trans rfl
      have v11 : V.cell? ⟨w.heap.size, 11, none⟩ = some (.int .i64 z11) := (hV.cell 11).trans rfl
      have v12 : V.cell? ⟨w.heap.size, 12, none⟩ = some (.int .i64 z12) := (hV.cell 12).trans rfl
      have v13 : V.cell? ⟨w.heap.size, 13, none⟩ = some (.int .i64 z13) := (hV.cell 13).trans rfl
      have v14 : V.cell? ⟨w.heap.size, 14, none⟩ = some (.int .i64 z14) := (hV.cell 14).trans rfl
      have v15 : V.cell? ⟨w.heap.size, 15, none⟩ = some (.int .i64 z15) := (hV.cell 15).trans rfl
      have hlg : lb ≠ g ∧ lb ≠ m ∧ lb < w.heap.size := by rcases HLB.out with ⟨h, _⟩ | h
                                                          · cases h
                                                          · exact h
      exact bodyPost_ret (v := .tuple #[.agg #[.int .i64 z0, .int .i64 z1, .int .i64 z2, .int .i64 z3, .int .i64 z4, .int .i64 z5, .int .i64 z6, .int .i64 z7, .int .i64 z8, .int .i64 z9, .int .i64 z10, .int .i64 z11, .int .i64 z12, .int .i64 z13, .int .i64 z14, .int .i64 z15], .bool true]) (by simp [results, Tryd.results45, go_sem, v0, v1, v2, v3, v4, v5, v6, v7, v8, v9, v10, v11, v12, v13, v14, v15]) rfl ⟨rfl, hTV, ⟨_, hVG, ⟨_, 0, rfl, Nat.le_refl _, Nat.zero_le _, (fun h => by cases h), fun a ha => ⟨o, (Option.some.inj ha).symm, Nat.lt_of_lt_of_le hlg.2.2 hTV.size, fun h => absurd h (Nat.lt_irrefl 0)⟩⟩, Or.inr ⟨hlg.1, hlg.2.1, Nat.lt_of_lt_of_le hlg.2.2 hTV.size⟩⟩, HQ.out.set.touch hTV (fun h => hgm h.symm), hgm, HQ.out.len, fun z hz => HQ.out.sub z (List.mem_cons_of_mem _ hz)⟩
    · have hcB : (cap == 1) = false := by simp [hc1]
      go_region
      obtain ⟨Y, hY⟩ : ∃ Y, Y = (((((((((((((((((W.setCell ⟨w.heap.size, 0, none⟩ (.int .i64 z0)).setCell ⟨w.heap.size, 1, none⟩ (.int .i64 z1)).setCell ⟨w.heap.size, 2, none⟩ (.int .i64 z2)).setCell ⟨w.heap.size, 3, none⟩ (.int .i64 z3)).setCell ⟨w.heap.size, 4, none⟩ (.int .i64 z4)).setCell ⟨w.heap.size, 5, none⟩ (.int .i64 z5)).setCell ⟨w.heap.size, 6, none⟩ (.int .i64 z6)).setCell ⟨w.heap.size, 7, none⟩ (.int .i64 z7)).setCell ⟨w.heap.size, 8, none⟩ (.int .i64 z8)).setCell ⟨w.heap.size, 9, none⟩ (.int .i64 z9)).setCell ⟨w.heap.size, 10, none⟩ (.int .i64 z10)).setCell ⟨w.heap.size, 11, none⟩ (.int .i64 z11)).setCell ⟨w.heap.size, 12, none⟩ (.int .i64 z12)).setCell ⟨w.heap.size, 13, none⟩ (.int .i64 z13)).setCell ⟨w.heap.size, 14, none⟩ (.int .i64 z14)).setCell ⟨w.heap.size, 15, none⟩ (.int .i64 z15)).setCell ⟨g, 1, none⟩ (.slice (some ⟨lb, o + 16, none⟩) rest.length (cap - 1))).drew := ⟨_, rfl⟩
      rw [← hY]
      rw [← setCells16] at hY
      have hYB : Block Y w.heap.size 63 (row [z0, z1, z2, z3, z4, z5, z6, z7, z8, z9, z10, z11, z12, z13, z14, z15]) := by
        rw [hY]
        exact ((setCells_all HBB.out [z0, z1, z2, z3, z4, z5, z6, z7, z8, z9, z10, z11, z12, z13, z14, z15] rfl).far (fun h => hgb h.symm) _).drew
      have hTY : Touch (fun k => k = g) w Y := by
        rw [hY]
        exact (Touch.setCell (O := fun k => k = g) ((HT.out.mono (fun _ h => h.elim)).setCells (Or.inr (Nat.le_refl _)) 0 _) (p := ⟨g, 1, none⟩) (Or.inl rfl) _).drew
      have hYG : Block Y g 120 #[.map (some m), .slice (some ⟨lb, o + 16, none⟩) rest.length (cap - 1)] := by
        rw [hY]
        exact ((HB.out.touch ((HT.out.mono (O' := fun k => k = w.heap.size) (fun _ h => h.elim)).setCells (Or.inl rfl) 0 ([z0, z1, z2, z3, z4, z5, z6, z7, z8, z9, z10, z11, z12, z13, z14, z15].map (Value.int .i64))) hgb).put 1 (.slice (some ⟨lb, o + 16, none⟩) rest.length (cap - 1))).drew
      have HYB := Lib.hid hYB
      have HYG := Lib.hid hYG
      have HTY := Lib.hid hTY
      clear hY hYB hYG hTY d1 d2 y0 b0 f0 y1 b1 f1 y2 b2 f2 y3 b3 f3 y4 b4 f4 y5 b5 f5 y6 b6 f6 y7 b7 f7 y8 b8 f8 y9 b9 f9 y10 b10 f10 y11 b11 f11 y12 b12 f12 y13 b13 f13 y14 b14 f14 y15 b15 f15
      go_wp2_with (first | (refine wpList_load_row rfl 63 (.tmp 2) rfl w.heap.size rfl _ (row [z0, z1, z2, z3, z4, z5, z6, z7, z8, z9, z10, z11, z12, z13, z14, z15]) _ _ HYB.out Tryd.underlying63 rfl Tst.info ?_) | (refine wpList_store_row rfl 63 (.tmp 2) (.tmp 25) rfl w.heap.size (row [z0, z1, z2, z3, z4, z5, z6, z7, z8, z9, z10, z11, z12, z13, z14, z15]) rfl rfl _ _ HYB.out Tst.info rfl (row_one _) ?_))
      have hV : Block (Y.setRow w.heap.size (row [z0, z1, z2, z3, z4, z5, z6, z7, z8, z9, z10, z11, z12, z13, z14, z15])) w.heap.size 63 (row [z0, z1, z2, z3, z4, z5, z6, z7, z8, z9, z10, z11, z12, z13, z14, z15]) := setRow_heap _ _ _ _ _ _ HYB.out
      have hTV : Touch (fun k => k = g) w (Y.setRow w.heap.size (row [z0, z1, z2, z3, z4, z5, z6, z7, z8, z9, z10, z11, z12, z13, z14, z15])) := HTY.out.setRow (Or.inr (Nat.le_refl _)) _
      have hVG : Block (Y.setRow w.heap.size (row [z0, z1, z2, z3, z4, z5, z6, z7, z8, z9, z10, z11, z12, z13, z14, z15])) g 120 #[.map (some m), .slice (some ⟨lb, o + 16, none⟩) rest.length (cap - 1)] := (setRow_other _ _ _ _ hgb).trans HYG.out
      obtain ⟨V, hVV⟩ : ∃ V, V = Y.setRow w.heap.size (row [z0, z1, z2, z3, z4, z5, z6, z7, z8, z9, z10, z11, z12, z13, z14, z15]) := ⟨_, rfl⟩
      rw [← hVV] at hV hTV hVG ⊢
      clear hVV
      have v0 : V.cell? ⟨w.heap.size, 0, none⟩ = some (.int .i64 z0) := (hV.cell 0).trans rfl
      have v1 : V.cell? ⟨w.heap.size, 1, none⟩ = some (.int .i64 z1) := (hV.cell 1).trans rfl
      have v2 : V.cell? ⟨w.heap.size, 2, none⟩ = some (.int .i64 z2) := (hV.cell 2).trans rfl
      have v3 : V.cell? ⟨w.heap.size, 3, none⟩ = some (.int .i64 z3) := (hV.cell 3).trans rfl
      have v4 : V.cell? ⟨w.heap.size, 4, none⟩ = some (.int .i64 z4) := (hV.cell 4).trans rfl
      have v5 : V.cell? ⟨w.heap.size, 5, none⟩ = some (.int .i64 z5) := (hV.cell 5).trans rfl
      have v6 : V.cell? ⟨w.heap.size, 6, none⟩ = some (.int .i64 z6) := (hV.cell 6).trans rfl
      have v7 : V.cell? ⟨w.heap.size, 7, none⟩ = some (.int .i64 z7) := (hV.cell 7).trans rfl
      have v8 : V.cell? ⟨w.heap.size, 8, none⟩ = some (.int .i64 z8) := (hV.cell 8).trans rfl
      have v9 : V.cell? ⟨w.heap.size, 9, none⟩ = some (.int .i64 z9) := (hV.cell 9).trans rfl
      have v10 : V.cell? ⟨w.heap.size, 10, none⟩ = some (.int .i64 z10) := (hV.cell 10).trans rfl
      have v11 : V.cell? ⟨w.heap.size, 11, none⟩ = some (.int .i64 z11) := (hV.cell 11).trans rfl
      have v12 : V.cell? ⟨w.heap.size, 12, none⟩ = some (.int .i64 z12) := (hV.cell 12).trans rfl
      have v13 : V.cell? ⟨w.heap.size, 13, none⟩ = some (.int .i64 z13) := (hV.cell 13).trans rfl
      have v14 : V.cell? ⟨w.heap.size, 14, none⟩ = some (.int .i64 z14) := (hV.cell 14).trans rfl
      have v15 : V.cell? ⟨w.heap.size, 15, none⟩ = some (.int .i64 z15) := (hV.cell 15).trans rfl
      have hlg : lb ≠ g ∧ lb ≠ m ∧ lb < w.heap.size := by rcases HLB.out with ⟨h, _⟩ | h
                                                          · cases h
                                                          · exact h
      exact bodyPost_ret (v := .tuple #[.agg #[.int .i64 z0, .int .i64 z1, .int .i64 z2, .int .i64 z3, .int .i64 z4, .int .i64 z5, .int .i64 z6, .int .i64 z7, .int .i64 z8, .int .i64 z9, .int .i64 z10, .int .i64 z11, .int .i64 z12, .int .i64 z13, .int .i64 z14, .int .i64 z15], .bool true]) (by simp [results, Tryd.results45, go_sem, v0, v1, v2, v3, v4, v5, v6, v7, v8, v9, v10, v11, v12, v13, v14, v15]) rfl ⟨rfl, hTV, ⟨_, hVG, ⟨_, cap - 1, rfl, by omega, by omega, (fun h => by cases h), fun a ha => ⟨o + 16, (Option.some.inj ha).symm, Nat.lt_of_lt_of_le hlg.2.2 hTV.size, fun _ => ⟨cs, HCB.out.touch hTV hlg.1, by have := HSZ.out; omega, fun j u hj => by rw [Nat.add_assoc]; exact HCS.out (16 + j) u (by rw [flat_cons, List.getElem?_append_right (by simp)]; simpa using hj)⟩⟩⟩, Or.inr ⟨hlg.1, hlg.2.1, Nat.lt_of_lt_of_le hlg.2.2 hTV.size⟩⟩, HQ.out.set.touch hTV (fun h => hgm h.symm), hgm, HQ.out.len, fun z hz => HQ.out.sub z (List.mem_cons_of_mem _ hz)⟩

def TakePost (g m lb : Nat) (known rest : List (List Int)) (z : List Int) (w : World) (e : Ending) (w' : World) : Prop :=
  e = .returned (.tuple #[.agg (row z), .bool true]) ∧ Touch (fun k => k = g) w w' ∧ QI w' g m lb known rest
theorem take_some (g m lb : Nat) (known rest : List (List Int)) (z : List Int) (w : World) (hq : QI w g m lb known (z :: rest)) :
    Calls Tryd.prog 45 #[.pointer (some ⟨g, 0, none⟩)] w (TakePost g m lb known rest z w) := by
  have hz : z.length = 16 := (hq.len z (hq.sub z (by simp))).1
  obtain ⟨z0, z1, z2, z3, z4, z5, z6, z7, z8, z9, z10, z11, z12, z13, z14, z15, rfl⟩ := l16 z hz
  exact take16 g m lb known rest z0 z1 z2 z3 z4 z5 z6 z7 z8 z9 z10 z11 z12 z13 z14 z15 w hq
end Go.Proofs.YthpnnmkpbkbanaaDoor

/-
  The queue of states: New.
-/
namespace Go.Proofs.YthpnnmkpbkbanaaDoor
open Go.RowKit Go.Maps

def NewPost (z : List Int) (w : World) (e : Ending) (w' : World) : Prop :=
  ∃ g m lb, e = .returned (.pointer (some ⟨g, 0, none⟩)) ∧ Touch (fun _ => False) w w' ∧ QI w' g m lb [z] [z] ∧ w.heap.size ≤ g ∧ w.heap.size ≤ m ∧ w.heap.size ≤ lb

set_option maxRecDepth 100000 in
set_option maxHeartbeats 2000000 in
theorem new_any (ab : Nat) (z : List Int) (w : World) (hb : Block w ab 63 (row z)) (hz : z.length = 16) (hr : Rng z) :
    Calls Tryd.prog 44 #[.slice (some ⟨ab, 0, none⟩) 1 1] w (NewPost z w) := by
  have hmm := @run_makeMap Tryd.prog
  have hab := hb.lt
  have hQ0 : QI ((w.alloc (.map #[] 0)).alloc (.cells #[.map (some w.heap.size), .slice none 0 0] 120)) (w.heap.size + 1) w.heap.size (w.heap.size + 1) [] [] :=
    ⟨⟨.slice none 0 0, by simpa using Block.made (w.alloc (.map #[] 0)) 120 #[.map (some w.heap.size), .slice none 0 0], Left.nil _ _ _, Or.inl ⟨rfl, rfl⟩⟩, (Known.made w).touch ((Touch.refl (fun _ => False) _).alloc _) (fun h => h), by omega, by simp, by simp⟩
  have hB0 : Block ((w.alloc (.map #[] 0)).alloc (.cells #[.map (some w.heap.size), .slice none 0 0] 120)) ab 63 (row z) := (hb.alloc _).alloc _
  have hT0 : Touch (fun _ => False) w ((w.alloc (.map #[] 0)).alloc (.cells #[.map (some w.heap.size), .slice none 0 0] 120)) := ((Touch.refl _ w).alloc _).alloc _
  have HQ0 := Lib.hid hQ0
  have HB0 := Lib.hid hB0
  have HT0 := Lib.hid hT0
  have HSZ := Lib.hid ((row_size z).trans hz)
  have HR := Lib.hid hr
  have HZ := Lib.hid hz
  clear hQ0 hB0 hT0 hb hr hz
  go_enter Tryd.func44, Tryd.ntmps44
  go_wp2_with fail
  obtain ⟨W, hW⟩ : ∃ W, W = (w.alloc (.map #[] 0)).alloc (.cells #[.map (some w.heap.size), .slice none 0 0] 120) := ⟨_, rfl⟩
  rw [← hW] at HQ0 HB0 HT0 ⊢
  clear hW
  refine wp_loop_rounds 2 ?_
  rw [rounds_succ]
  have HA := Lib.hid (Block.made W 63 #[.int .i64 0, .int .i64 0, .int .i64 0, .int .i64 0, .int .i64 0, .int .i64 0, .int .i64 0, .int .i64 0, .int .i64 0, .int .i64 0, .int .i64 0, .int .i64 0, .int .i64 0, .int .i64 0, .int .i64 0, .int .i64 0])
  have hV : Block ((W.alloc (.cells #[.int .i64 0, .int .i64 0, .int .i64 0, .int .i64 0, .int .i64 0, .int .i64 0, .int .i64 0, .int .i64 0, .int .i64 0, .int .i64 0, .int .i64 0, .int .i64 0, .int .i64 0, .int .i64 0, .int .i64 0, .int .i64 0] 63)).setRow W.heap.size (row z)) W.heap.size 63 (row z) := setRow_heap _ _ _ _ _ _ HA.out
  have hTV : Touch (fun _ => False) W ((W.alloc (.cells #[.int .i64 0, .int .i64 0, .int .i64 0, .int .i64 0, .int .i64 0, .int .i64 0, .int .i64 0, .int .i64 0, .int .i64 0, .int .i64 0, .int .i64 0, .int .i64 0, .int .i64 0, .int .i64 0, .int .i64 0, .int .i64 0] 63)).setRow W.heap.size (row z)) := ((Touch.refl _ W).alloc _).setRow (Or.inr (Nat.le_refl _)) _
  have HV := Lib.hid hV
  have HQV := Lib.hid (HQ0.out.touch hTV (fun h => h) (fun h => h) (fun h => h))
  have HTV := Lib.hid hTV
  clear hV hTV
  go_wp2_with (first | (refine wpList_load_row rfl 63 (.tmp 13) rfl ab rfl _ (row z) _ _ HB0.out Tryd.underlying63 rfl (by rw [HSZ.out]; exact Tst.info) ?_) | (refine wpList_store_row rfl 63 (.tmp 5) (.tmp 14) rfl W.heap.size (row z) rfl rfl _ _ HA.out (by rw [HSZ.out]; exact Tst.info) (by rw [HSZ.out]; rfl) (row_one _) ?_) | (refine wpList_load_row rfl 63 (.tmp 5) rfl W.heap.size rfl _ (row z) _ _ HV.out Tryd.underlying63 rfl (by rw [HSZ.out]; exact Tst.info) ?_) | (go_at_call 46; refine (put_any _ _ _ _ _ z _ HQV.out HZ.out HR.out (by simp) (by simp)).mono ?_; rintro e w2 ⟨rfl, hT2, lb', hQ2, hlb2⟩; have HT2 := Lib.hid hT2; have HQ2 := Lib.hid hQ2; have HLB2 := Lib.hid hlb2; clear hT2 hQ2 hlb2))
  rw [rounds_succ]
  go_wp2_with fail
  go_ret
  have hn : ins1 ([] : List (List Int)) z = [z] := by simp [ins1]
  have hl : (if z ∈ ([] : List (List Int)) then [] else [] ++ [z]) = [z] := by simp
  have h2 := HQ2.out
  rw [hn, hl] at h2
  have hs := HT0.out.size
  have hs2 := HTV.out.size
  refine ⟨_, _, lb', rfl, ?_, h2, by omega, Nat.le_refl _, ?_⟩
  · exact ((HT0.out.trans HTV.out fun _ h => h.elim).trans HT2.out) fun i h => Or.inr (by rcases h with h | h | h <;> omega)
  · rcases HLB2.out with h | h <;> omega
end Go.Proofs.YthpnnmkpbkbanaaDoor
