/-
  The queue of states: New, Put, Take.
-/
import Derived.Test.YtkohobbjnafljaaKey
import Derived.Deep.RegionHeld3
import Derived.Deep.MidRow
import Derived.Deep.DrawnRows
import Derived.Deep.AppendLies
import Derived.StillTailTactics
import Derived.Deep.DeepCutAuto
namespace Go.Proofs.Ytkohobbjnafljaa
open Go.RowKit Go.Maps
attribute [local go_sem ↓] Go.wp_at_zero Go.wp_at_succ

theorem Tq.info : (Try.prog.info? 50).map (fun i => (i.zero, i.size, i.bytes)) = some (some (.agg #[.int .i64 0, .int .i64 0, .int .i64 0, .int .i64 0, .int .i64 0, .int .i64 0, .int .i64 0, .int .i64 0, .int .i64 0, .int .i64 0, .int .i64 0, .int .i64 0, .int .i64 0, .int .i64 0, .int .i64 0, .int .i64 0]), 16, 128) := by kernel_rfl
theorem Tq.unit (w : World) : (zeroValue 83).run Try.prog w = .ok (.agg #[]) w := by kernel_rfl

/-- The queue at block g: the set at block m, what is left in block lb. -/
structure QI (w : World) (g m lb : Nat) (known left : List (List Int)) : Prop where
  blk : ∃ v, Block w g 82 #[.map (some m), v] ∧ Left w 50 lb v left ∧ (v = .slice none 0 0 ∧ lb = g ∨ lb ≠ g ∧ lb ≠ m ∧ lb < w.heap.size)
  set : Known w m known
  gm : g ≠ m
  len : ∀ z ∈ known, z.length = 16 ∧ Rng z
  sub : ∀ z ∈ left, z ∈ known
theorem QI.touch {O : Nat → Prop} {w w' : World} {g m lb : Nat} {known left : List (List Int)} (h : QI w g m lb known left) (k : Touch O w w') (hg : ¬ O g) (hm : ¬ O m) (hl : ¬ O lb) : QI w' g m lb known left := by
  obtain ⟨⟨v, h1, h2, h3⟩, h4, h5, h6, h7⟩ := h
  refine ⟨⟨v, h1.touch k hg, h2.touch k hl, ?_⟩, h4.touch k hm, h5, h6, h7⟩
  have := k.size
  rcases h3 with h3 | ⟨a, b, c⟩
  · exact Or.inl h3
  · exact Or.inr ⟨a, b, by omega⟩

theorem look_run {w : World} {m : Nat} {ks : List (List Int)} (h : Known w m ks) (z : List Int) (hz : z.length = 16) (hr : Rng z) :
    (Instr.lookup 80 (.map (some m)) (.agg (row z)) true).run Try.prog w = .ok (.tuple #[.agg #[], .bool (decide (z ∈ ks))]) w := by
  obtain ⟨D, hown, hD⟩ := h
  obtain ⟨kl, hkl⟩ := key_row z hz hr
  obtain ⟨v, ps, hrun, hv⟩ := hown.look_ok Tkey.law Try.underlying80 (Tq.unit w) unitElem_mk hkl
  obtain ⟨rfl, _⟩ := unitElem_inv hv
  rw [hrun, hD z kl hz hkl]

set_option maxRecDepth 100000 in
theorem known_put {X2 : World} {m : Nat} {ks : List (List Int)} {D : DataW Unit} {kl : Lit} {Z : List Int} (hZl : Z.length = 16) (hm : IsMap D) (hD : ∀ z kl, z.length = 16 → keyOf Try.prog 50 (.agg (row z)) = some kl → Maps.has D kl = decide (z ∈ ks))
    (hkl : keyOf Try.prog 50 (.agg (row Z)) = some kl) (hown : X2.ownsMap Try.prog 50 unitElem m (ks.length + 1) (D.put kl (.agg []))) : Known X2 m (ks ++ [Z]) := by
  refine ⟨_, by rw [List.length_append]; exact hown, fun z kl' hz hk => ?_⟩
  by_cases e : kl' = kl
  · subst e
    have h1 := Tkey.law.inj hk hkl
    injection h1 with h1
    have h2 := row_inj h1
    subst h2
    rw [Maps.has_put_same hm (Tkey.law.key hkl)]
    simp
  · rw [Maps.has_put_other e, hD z kl' hz hk]
    have hne : z ≠ Z := fun h => by
      subst h
      rw [hk] at hkl
      exact e (Option.some.inj hkl)
    simp [hne]

def PutPost (g m lb : Nat) (known left : List (List Int)) (z : List Int) (w : World) (e : Ending) (w' : World) : Prop :=
  e = .returned (.tuple #[]) ∧ Touch (fun k => k = g ∨ k = m ∨ k = lb) w w' ∧ ∃ lb', QI w' g m lb' (ins1 known z) (if z ∈ known then left else left ++ [z]) ∧ (lb' = lb ∨ w.heap.size ≤ lb')

set_option maxRecDepth 100000 in
set_option maxHeartbeats 4000000 in
theorem put16 (g m lb : Nat) (known left : List (List Int)) (z0 z1 z2 z3 z4 z5 z6 z7 z8 z9 z10 z11 z12 z13 z14 z15 : Int) (w : World) (hq : QI w g m lb known left) (hr : Rng [z0, z1, z2, z3, z4, z5, z6, z7, z8, z9, z10, z11, z12, z13, z14, z15]) (hN : known.length < 1073741825) (hN2 : left.length < 1073741825) :
    Calls Try.prog 34 #[.pointer (some ⟨g, 0, none⟩), .agg (row [z0, z1, z2, z3, z4, z5, z6, z7, z8, z9, z10, z11, z12, z13, z14, z15])] w (PutPost g m lb known left [z0, z1, z2, z3, z4, z5, z6, z7, z8, z9, z10, z11, z12, z13, z14, z15] w) := by
  obtain ⟨b, hbm⟩ : ∃ b, b = decide ([z0, z1, z2, z3, z4, z5, z6, z7, z8, z9, z10, z11, z12, z13, z14, z15] ∈ known) := ⟨_, rfl⟩
  have HQ := Lib.hid hq
  obtain ⟨⟨v, hb, hL, hlb⟩, hk, hgm, hlen, hsub⟩ := hq
  have hLK : ∀ x, Known x m known → (Instr.lookup 80 (.map (some m)) (.agg (row [z0, z1, z2, z3, z4, z5, z6, z7, z8, z9, z10, z11, z12, z13, z14, z15])) true).run Try.prog x = .ok (.tuple #[.agg #[], .bool b]) x := fun x hx => by
    rw [look_run hx [z0, z1, z2, z3, z4, z5, z6, z7, z8, z9, z10, z11, z12, z13, z14, z15] rfl hr, hbm]
  have c0 := hb.cell 0
  simp at c0
  have hgl := hb.lt
  have HBM := Lib.hid hbm
  have HLK := Lib.hid hLK
  have HK := Lib.hid hk
  have HLT := Lib.hid hL
  have HBK := Lib.hid hb
  have HLB := Lib.hid hlb
  have HSUB := Lib.hid hsub
  have HLEN := Lib.hid hlen
  have HR := Lib.hid hr
  clear hlb hsub hlen hL hb hr hLK hk hbm
  go_enter Try.func34, Try.ntmps34
  go_wp2_with fail
  have hB := Block.made w 50 (row [z0, z1, z2, z3, z4, z5, z6, z7, z8, z9, z10, z11, z12, z13, z14, z15])
  have hT : Touch (fun _ => False) w (w.alloc (.cells (row [z0, z1, z2, z3, z4, z5, z6, z7, z8, z9, z10, z11, z12, z13, z14, z15]) 50)) := (Touch.refl _ w).alloc _
  obtain ⟨W, hW⟩ : ∃ W, W = w.alloc (.cells (row [z0, z1, z2, z3, z4, z5, z6, z7, z8, z9, z10, z11, z12, z13, z14, z15]) 50) := ⟨_, rfl⟩
  rw [← hW] at hB hT ⊢
  have e0 : W.cell? ⟨g, 0, none⟩ = some (.map (some m)) := (hT.cell (p := ⟨g, 0, none⟩) hgl (fun h => h)).trans c0
  have y0 : W.cell? ⟨w.heap.size, 0, none⟩ = some (.int .i64 z0) := (hB.cell 0).trans rfl
  have y1 : W.cell? ⟨w.heap.size, 1, none⟩ = some (.int .i64 z1) := (hB.cell 1).trans rfl
  have y2 : W.cell? ⟨w.heap.size, 2, none⟩ = some (.int .i64 z2) := (hB.cell 2).trans rfl
  have y3 : W.cell? ⟨w.heap.size, 3, none⟩ = some (.int .i64 z3) := (hB.cell 3).trans rfl
  have y4 : W.cell? ⟨w.heap.size, 4, none⟩ = some (.int .i64 z4) := (hB.cell 4).trans rfl
  have y5 : W.cell? ⟨w.heap.size, 5, none⟩ = some (.int .i64 z5) := (hB.cell 5).trans rfl
  have y6 : W.cell? ⟨w.heap.size, 6, none⟩ = some (.int .i64 z6) := (hB.cell 6).trans rfl
  have y7 : W.cell? ⟨w.heap.size, 7, none⟩ = some (.int .i64 z7) := (hB.cell 7).trans rfl
  have y8 : W.cell? ⟨w.heap.size, 8, none⟩ = some (.int .i64 z8) := (hB.cell 8).trans rfl
  have y9 : W.cell? ⟨w.heap.size, 9, none⟩ = some (.int .i64 z9) := (hB.cell 9).trans rfl
  have y10 : W.cell? ⟨w.heap.size, 10, none⟩ = some (.int .i64 z10) := (hB.cell 10).trans rfl
  have y11 : W.cell? ⟨w.heap.size, 11, none⟩ = some (.int .i64 z11) := (hB.cell 11).trans rfl
  have y12 : W.cell? ⟨w.heap.size, 12, none⟩ = some (.int .i64 z12) := (hB.cell 12).trans rfl
  have y13 : W.cell? ⟨w.heap.size, 13, none⟩ = some (.int .i64 z13) := (hB.cell 13).trans rfl
  have y14 : W.cell? ⟨w.heap.size, 14, none⟩ = some (.int .i64 z14) := (hB.cell 14).trans rfl
  have y15 : W.cell? ⟨w.heap.size, 15, none⟩ = some (.int .i64 z15) := (hB.cell 15).trans rfl
  have HKW := Lib.hid (HK.out.touch hT (fun h => h))
  have HLA := Lib.hid (fun o => HLK.out (W.drew.alloc o) (HKW.out.touch (((Touch.refl (fun _ => False) W).drew).alloc o) (fun h => h)))
  have hgW : g < W.heap.size := Nat.lt_of_lt_of_le hgl hT.size
  have hbW : w.heap.size < W.heap.size := hB.lt
  have HT := Lib.hid hT
  have HB := Lib.hid hB
  clear hW hB hT c0
  go_upto_region 1 with fail
  go_cut [5] (fun t5 wx => t5 = .bool b ∧ Touch (fun _ => False) w wx ∧ Block wx w.heap.size 50 (row [z0, z1, z2, z3, z4, z5, z6, z7, z8, z9, z10, z11, z12, z13, z14, z15]))
  case first =>
    go_region_held3 (fun w' => w'.cell? ⟨g, 0, none⟩ = some (.map (some m)) ∧ w'.cell? ⟨w.heap.size, 0, none⟩ = some (.int .i64 z0) ∧ w'.cell? ⟨w.heap.size, 1, none⟩ = some (.int .i64 z1) ∧ w'.cell? ⟨w.heap.size, 2, none⟩ = some (.int .i64 z2) ∧ w'.cell? ⟨w.heap.size, 3, none⟩ = some (.int .i64 z3) ∧ w'.cell? ⟨w.heap.size, 4, none⟩ = some (.int .i64 z4) ∧ w'.cell? ⟨w.heap.size, 5, none⟩ = some (.int .i64 z5) ∧ w'.cell? ⟨w.heap.size, 6, none⟩ = some (.int .i64 z6) ∧ w'.cell? ⟨w.heap.size, 7, none⟩ = some (.int .i64 z7) ∧ w'.cell? ⟨w.heap.size, 8, none⟩ = some (.int .i64 z8) ∧ w'.cell? ⟨w.heap.size, 9, none⟩ = some (.int .i64 z9) ∧ w'.cell? ⟨w.heap.size, 10, none⟩ = some (.int .i64 z10) ∧ w'.cell? ⟨w.heap.size, 11, none⟩ = some (.int .i64 z11) ∧ w'.cell? ⟨w.heap.size, 12, none⟩ = some (.int .i64 z12) ∧ w'.cell? ⟨w.heap.size, 13, none⟩ = some (.int .i64 z13) ∧ w'.cell? ⟨w.heap.size, 14, none⟩ = some (.int .i64 z14) ∧ w'.cell? ⟨w.heap.size, 15, none⟩ = some (.int .i64 z15) ∧ (Instr.lookup 80 (.map (some m)) (.agg #[.int .i64 z0, .int .i64 z1, .int .i64 z2, .int .i64 z3, .int .i64 z4, .int .i64 z5, .int .i64 z6, .int .i64 z7, .int .i64 z8, .int .i64 z9, .int .i64 z10, .int .i64 z11, .int .i64 z12, .int .i64 z13, .int .i64 z14, .int .i64 z15]) true).run Try.prog w' = .ok (.tuple #[.agg #[], .bool b]) w') (first | (go_split_ands; refine ⟨by go_keep, by go_keep, by go_keep, by go_keep, by go_keep, by go_keep, by go_keep, by go_keep, by go_keep, by go_keep, by go_keep, by go_keep, by go_keep, by go_keep, by go_keep, by go_keep, by go_keep, ?_⟩; first | exact HLA.out _ | exact HLK.out _ HKW.out)) (fail)
    all_goals (go_wp2_with fail; go_meet; exact ⟨rfl, (HT.out.alloc _).drew, (HB.out.alloc _).drew⟩)
  case rest =>
    obtain ⟨rfl, hTX, hBX⟩ := hcut
    obtain ⟨X, rfl⟩ : ∃ X : World, X = wc := ⟨_, rfl⟩
    clear e0 y0 y1 y2 y3 y4 y5 y6 y7 y8 y9 y10 y11 y12 y13 y14 y15 HKW HLA hgW hbW HT HB
    cases b with
    | true =>
      have hmem : [z0, z1, z2, z3, z4, z5, z6, z7, z8, z9, z10, z11, z12, z13, z14, z15] ∈ known := of_decide_eq_true HBM.out.symm
      have HMEM := Lib.hid hmem
      clear hmem
      go_wp2_with fail
      refine bodyPost_ret (results_none rfl _ _ _) rfl ⟨rfl, hTX.mono fun _ h => h.elim, lb, ?_, Or.inl rfl⟩
      rw [if_pos HMEM.out, show ins1 known [z0, z1, z2, z3, z4, z5, z6, z7, z8, z9, z10, z11, z12, z13, z14, z15] = known from if_pos HMEM.out]
      exact HQ.out.touch hTX (fun h => h) (fun h => h) (fun h => h)
    | false =>
      have hmem : ¬ [z0, z1, z2, z3, z4, z5, z6, z7, z8, z9, z10, z11, z12, z13, z14, z15] ∈ known := of_decide_eq_false HBM.out.symm
      have HMEM := Lib.hid hmem
      clear hmem
      go_wp2_with fail
      have e0 : X.cell? ⟨g, 0, none⟩ = some (.map (some m)) := (hTX.cell (p := ⟨g, 0, none⟩) hgl (fun h => h)).trans ((HBK.out.cell 0).trans rfl)
      have y0 : X.cell? ⟨w.heap.size, 0, none⟩ = some (.int .i64 z0) := (hBX.cell 0).trans rfl
      have y1 : X.cell? ⟨w.heap.size, 1, none⟩ = some (.int .i64 z1) := (hBX.cell 1).trans rfl
      have y2 : X.cell? ⟨w.heap.size, 2, none⟩ = some (.int .i64 z2) := (hBX.cell 2).trans rfl
      have y3 : X.cell? ⟨w.heap.size, 3, none⟩ = some (.int .i64 z3) := (hBX.cell 3).trans rfl
      have y4 : X.cell? ⟨w.heap.size, 4, none⟩ = some (.int .i64 z4) := (hBX.cell 4).trans rfl
      have y5 : X.cell? ⟨w.heap.size, 5, none⟩ = some (.int .i64 z5) := (hBX.cell 5).trans rfl
      have y6 : X.cell? ⟨w.heap.size, 6, none⟩ = some (.int .i64 z6) := (hBX.cell 6).trans rfl
      have y7 : X.cell? ⟨w.heap.size, 7, none⟩ = some (.int .i64 z7) := (hBX.cell 7).trans rfl
      have y8 : X.cell? ⟨w.heap.size, 8, none⟩ = some (.int .i64 z8) := (hBX.cell 8).trans rfl
      have y9 : X.cell? ⟨w.heap.size, 9, none⟩ = some (.int .i64 z9) := (hBX.cell 9).trans rfl
      have y10 : X.cell? ⟨w.heap.size, 10, none⟩ = some (.int .i64 z10) := (hBX.cell 10).trans rfl
      have y11 : X.cell? ⟨w.heap.size, 11, none⟩ = some (.int .i64 z11) := (hBX.cell 11).trans rfl
      have y12 : X.cell? ⟨w.heap.size, 12, none⟩ = some (.int .i64 z12) := (hBX.cell 12).trans rfl
      have y13 : X.cell? ⟨w.heap.size, 13, none⟩ = some (.int .i64 z13) := (hBX.cell 13).trans rfl
      have y14 : X.cell? ⟨w.heap.size, 14, none⟩ = some (.int .i64 z14) := (hBX.cell 14).trans rfl
      have y15 : X.cell? ⟨w.heap.size, 15, none⟩ = some (.int .i64 z15) := (hBX.cell 15).trans rfl
      obtain ⟨D, hown, hD⟩ := HK.out.touch hTX (fun h => h)
      obtain ⟨kl, hkl⟩ := key_row [z0, z1, z2, z3, z4, z5, z6, z7, z8, z9, z10, z11, z12, z13, z14, z15] rfl HR.out
      have HOWN := Lib.hid (show X.drew.ownsMap Try.prog 50 unitElem m known.length D from hown)
      have HD := Lib.hid hD
      have HKL := Lib.hid hkl
      have HTX := Lib.hid hTX
      have HBX := Lib.hid hBX
      have hxs := hTX.size
      clear hD hkl hown hTX hBX
      go_still_tail 6, (by kernel_rfl)
      change wpList _ _ _ _ _ X.drew
      refine wpList_mapUpdate_own _ rfl _ _ _ 80 rfl 50 83 Tkey.law Try.underlying80 unitElem m known.length D rfl HOWN.out (by unfold maxLen; omega) _ _ kl rfl rfl HKL.out _ [] unitElem_mk ?_
      intro X2 hown2 hgr
      have HOWN2 := Lib.hid hown2
      have hT2 : Touch (fun k => k = m) X X2 := (Touch.refl _ X).drew.grown hgr fun k hk => Or.inl (Option.some.inj hk).symm
      have HT2 := Lib.hid hT2
      clear hown2 hgr hT2 e0 y0 y1 y2 y3 y4 y5 y6 y7 y8 y9 y10 y11 y12 y13 y14 y15
      have hlm : lb ≠ m := by rcases HLB.out with ⟨_, h⟩ | ⟨_, h, _⟩
                              · rw [h]; exact hgm
                              · exact h
      have hXg : Block X2 g 82 #[.map (some m), v] := (HBK.out.touch HTX.out (fun h => h)).touch HT2.out hgm
      have hXL : Left X2 50 lb v left := (HLT.out.touch HTX.out (fun h => h)).touch HT2.out hlm
      have hXB : Block X2 w.heap.size 50 (row [z0, z1, z2, z3, z4, z5, z6, z7, z8, z9, z10, z11, z12, z13, z14, z15]) := HBX.out.touch HT2.out (by have := HK.out.lt; omega)
      have e1 : X2.cell? ⟨g, 1, none⟩ = some v := (hXg.cell 1).trans rfl
      have e2 : X2.frozen? ⟨g, 1, none⟩ = false := hXg.free 1
      have y0 : X2.cell? ⟨w.heap.size, 0, none⟩ = some (.int .i64 z0) := (hXB.cell 0).trans rfl
      have y1 : X2.cell? ⟨w.heap.size, 1, none⟩ = some (.int .i64 z1) := (hXB.cell 1).trans rfl
      have y2 : X2.cell? ⟨w.heap.size, 2, none⟩ = some (.int .i64 z2) := (hXB.cell 2).trans rfl
      have y3 : X2.cell? ⟨w.heap.size, 3, none⟩ = some (.int .i64 z3) := (hXB.cell 3).trans rfl
      have y4 : X2.cell? ⟨w.heap.size, 4, none⟩ = some (.int .i64 z4) := (hXB.cell 4).trans rfl
      have y5 : X2.cell? ⟨w.heap.size, 5, none⟩ = some (.int .i64 z5) := (hXB.cell 5).trans rfl
      have y6 : X2.cell? ⟨w.heap.size, 6, none⟩ = some (.int .i64 z6) := (hXB.cell 6).trans rfl
      have y7 : X2.cell? ⟨w.heap.size, 7, none⟩ = some (.int .i64 z7) := (hXB.cell 7).trans rfl
      have y8 : X2.cell? ⟨w.heap.size, 8, none⟩ = some (.int .i64 z8) := (hXB.cell 8).trans rfl
      have y9 : X2.cell? ⟨w.heap.size, 9, none⟩ = some (.int .i64 z9) := (hXB.cell 9).trans rfl
      have y10 : X2.cell? ⟨w.heap.size, 10, none⟩ = some (.int .i64 z10) := (hXB.cell 10).trans rfl
      have y11 : X2.cell? ⟨w.heap.size, 11, none⟩ = some (.int .i64 z11) := (hXB.cell 11).trans rfl
      have y12 : X2.cell? ⟨w.heap.size, 12, none⟩ = some (.int .i64 z12) := (hXB.cell 12).trans rfl
      have y13 : X2.cell? ⟨w.heap.size, 13, none⟩ = some (.int .i64 z13) := (hXB.cell 13).trans rfl
      have y14 : X2.cell? ⟨w.heap.size, 14, none⟩ = some (.int .i64 z14) := (hXB.cell 14).trans rfl
      have y15 : X2.cell? ⟨w.heap.size, 15, none⟩ = some (.int .i64 z15) := (hXB.cell 15).trans rfl
      have HXG := Lib.hid hXg
      have HXL := Lib.hid hXL
      have HXB := Lib.hid hXB
      clear hXg hXL hXB
      go_wp2_with fail
      obtain ⟨i0, hi, hz0, hz1, hz2⟩ := info_parts Tq.info
      have HLL := Lib.hid (fun zs hz => (HLEN.out zs (HSUB.out zs hz)).1)
      have hgX : g < X2.heap.size := HXG.out.lt
      have hog : v.ownBlock ≠ some g := fun h => by
        rcases HLB.out with ⟨rfl, _⟩ | ⟨h1, _⟩
        · cases h
        · exact h1 (HXL.out.own h).symm
      have hom : v.ownBlock ≠ some m := fun h => hlm (HXL.out.own h).symm
      have HOG := Lib.hid hog
      have HOM := Lib.hid hom
      clear hog hom
      go_region_law ((refine step_append_left (by rfl) _ _ 79 (by rfl) 50 i0 _ Try.underlying79 hi hz0 hz1 hz2 rfl lb v (by rfl) left (by exact HXL.out.keep (by simp [World.drew]) (fun h => Below.heap_alloc X2 _ _ h)) HLL.out [z0, z1, z2, z3, z4, z5, z6, z7, z8, z9, z10, z11, z12, z13, z14, z15] rfl ⟨X2.heap.size, 0, none⟩ 1 (by rfl) (World.news_of_block (cs := #[.int .i64 z0, .int .i64 z1, .int .i64 z2, .int .i64 z3, .int .i64 z4, .int .i64 z5, .int .i64 z6, .int .i64 z7, .int .i64 z8, .int .i64 z9, .int .i64 z10, .int .i64 z11, .int .i64 z12, .int .i64 z13, .int .i64 z14, .int .i64 z15]) (t := 50) (fr := (0, 0)) (heap_alloc_new X2 _)) hN2 ?_; intro v' w3 lb' hL3 hlb3 hT3 hlt3; have HL3 := Lib.hid hL3; obtain ⟨A3, c3, rfl⟩ := hL3.form; have e3 := (hT3.cell (p := ⟨g, 1, none⟩) (by simp [World.drew]; omega) HOG.out).trans ((World.cell?_alloc_lt X2 _ ⟨g, 1, none⟩ hgX).trans e1); have e4 := (hT3.frozen (p := ⟨g, 1, none⟩) (by simp [World.drew]; omega) HOG.out).trans ((World.frozen?_of_block (w := X2) (Below.heap_alloc X2 _ g hgX)).trans e2); have HT3 := Lib.hid hT3; have HLB3 := Lib.hid hlb3; clear hL3 hT3 hlb3))
      all_goals
        go_wp2_with fail
        have hmX : m < X2.heap.size := HOWN2.out.lt
        have hlb : lb' ≠ g ∧ lb' ≠ m := by
          rcases HLB3.out with ⟨h1, h2⟩ | h1
          · rw [h1]
            exact ⟨fun h => HOG.out (by rw [h2, h]), fun h => HOM.out (by rw [h2, h])⟩
          · simp [World.drew] at h1
            exact ⟨by omega, by omega⟩
        have hgm' : m ≠ g := fun h => hgm h.symm
        have hTT : Touch (fun k => v.ownBlock = some k) X2 w3 := (((Touch.refl _ X2).alloc _).drew).trans HT3.out fun i h => Or.inl h
        have hT4 : Touch (fun k => k = g ∨ k = m ∨ k = lb) w w3 := ((HTX.out.mono (fun _ h => h.elim)).trans HT2.out (fun i h => Or.inl (Or.inr (Or.inl h)))).trans hTT (fun i h => Or.inl (Or.inr (Or.inr (HXL.out.own h))))
        refine bodyPost_end (results_none rfl _ _ _) rfl ⟨rfl, hT4.setCell (Or.inl (Or.inl rfl)) _, lb', ⟨⟨.slice A3 (left.length + 1) c3, ?_, ?_, Or.inr ⟨hlb.1, hlb.2, ?_⟩⟩, ?_, hgm, ?_, ?_⟩, ?_⟩
        · exact (HXG.out.touch hTT HOG.out).put 1 _
        · rw [if_neg HMEM.out]
          have h3 := HL3.out
          rw [List.length_append] at h3
          exact h3.touch ((Touch.refl (fun k => k = g) w3).setCell (Or.inl rfl) _) hlb.1
        · simpa [World.setCell] using hlt3
        · rw [show ins1 known [z0, z1, z2, z3, z4, z5, z6, z7, z8, z9, z10, z11, z12, z13, z14, z15] = known ++ [[z0, z1, z2, z3, z4, z5, z6, z7, z8, z9, z10, z11, z12, z13, z14, z15]] from if_neg HMEM.out]
          exact ((known_put rfl HOWN.out.isMap HD.out HKL.out HOWN2.out).touch hTT HOM.out).touch ((Touch.refl (fun k => k = g) w3).setCell (Or.inl rfl) _) hgm'
        · intro z hz
          rcases mem_ins1.1 hz with h | h
          · exact HLEN.out z h
          · rw [h]; exact ⟨rfl, HR.out⟩
        · intro z hz
          rw [if_neg HMEM.out] at hz
          rcases List.mem_append.1 hz with h | h
          · exact mem_ins1.2 (Or.inl (HSUB.out z h))
          · exact mem_ins1.2 (Or.inr (List.mem_singleton.1 h))
        · rcases HLB3.out with ⟨h1, _⟩ | h1
          · exact Or.inl h1
          · simp [World.drew] at h1
            have := HT2.out.size
            exact Or.inr (by omega)
end Go.Proofs.Ytkohobbjnafljaa
