/-
  Package snap: what a hand has read is compared.
-/
import Derived.Test.YtnplhjbbkccdnaaDoorSnapTold
import Derived.Test.YtnplhjbbkccdnaaDoorHeldLast
import Derived.Deep.DeepCutAuto
import Derived.Deep.CutBlock
namespace Go.Proofs.YtnplhjbbkccdnaaDoor.Snap
open Go.RowKit
def sb0 : SB := ⟨0, 0, 0, false, fun _ => sw0, fun _ => sw0, fun _ => 0, fun _ => 0⟩
/-- What comes of a hand that has read all. -/
def cmp (b : SB) : SB :=
  if sees b then (if b.w then ⟨3, 0, b.x, false, fun _ => sw0, fun _ => sw0, fun _ => 0, seen b⟩ else sb0)
  else ⟨b.a, b.k, b.x, b.w, b.l, fun _ => sw0, (sv b 4).mv, b.sw⟩
theorem cL_len (f : Nat → SW) : (cL f).length = 24 := by simp [cL]
theorem cH_len (b : SB) : (cH b).length = 60 := by simp [cH]
theorem wc_one (x : SW) (j : Nat) : (wc x j).oneCell' = true := by
  unfold wc
  split
  · rfl
  · split <;> rfl
theorem hc_one (b : SB) (i : Nat) : (hc b i).oneCell' = true := by
  unfold hc
  repeat (first | (split; · first | rfl | exact wc_one _ _) | rfl)
theorem cL_one (f : Nat → SW) : (cL f).toArray.all (·.oneCell') = true := all_oneCell_toArray fun u hu => by
  obtain ⟨i, _, rfl⟩ := List.mem_map.1 hu
  exact wc_one _ _
theorem cH_one (b : SB) : (cH b).toArray.all (·.oneCell') = true := all_oneCell_toArray fun u hu => by
  obtain ⟨i, _, rfl⟩ := List.mem_map.1 hu
  exact hc_one _ _
theorem Lk.there {w : World} {g n : Nat} {v : SS} (h : Lk w g n v) {o m : Nat} (ho : o + m ≤ 265) : w.there g o m := by
  obtain ⟨cs, h, c⟩ := h
  intro j hj
  have hs := c.size
  rw [h.cell]
  exact ⟨by rw [Array.getElem?_eq_getElem (by omega)]; rfl, h.free _⟩
theorem Lk.rangeL {w : World} {g n : Nat} {v : SS} (h : Lk w g n v) {p : Nat} (hp : p < 4) : w.rangeAt g (25 + p * 60 + 28) (cL (v.h p).l) := by
  intro j u hu
  have hj : j < 24 := by have := (List.getElem?_eq_some_iff.1 hu).1; rwa [cL_len] at this
  rw [cL_at _ hj] at hu
  cases hu
  have := h.xL hp (q := j / 6) (by omega) (j := j % 6) (by omega)
  rwa [show 25 + p * 60 + 28 + j / 6 * 6 + j % 6 = 25 + p * 60 + 28 + j by omega] at this
theorem z24 : (#[.int .i64 0, .int .i64 0, .int .i64 0, .int .i64 0, .int .i64 0, .int .i64 0, .int .i64 0, .int .i64 0, .int .i64 0, .int .i64 0, .int .i64 0, .int .i64 0, .int .i64 0, .int .i64 0, .int .i64 0, .int .i64 0, .int .i64 0, .int .i64 0, .int .i64 0, .int .i64 0, .int .i64 0, .int .i64 0, .int .i64 0, .int .i64 0] : Array Value) = (cL fun _ => sw0).toArray := by
  have h : cL (fun _ => sw0) = [.int .i64 0, .int .i64 0, .int .i64 0, .int .i64 0, .int .i64 0, .int .i64 0, .int .i64 0, .int .i64 0, .int .i64 0, .int .i64 0, .int .i64 0, .int .i64 0, .int .i64 0, .int .i64 0, .int .i64 0, .int .i64 0, .int .i64 0, .int .i64 0, .int .i64 0, .int .i64 0, .int .i64 0, .int .i64 0, .int .i64 0, .int .i64 0] := by simp [cL, wc, sw0, List.range, List.range.loop]
  rw [h]
theorem z24_one : (#[.int .i64 0, .int .i64 0, .int .i64 0, .int .i64 0, .int .i64 0, .int .i64 0, .int .i64 0, .int .i64 0, .int .i64 0, .int .i64 0, .int .i64 0, .int .i64 0, .int .i64 0, .int .i64 0, .int .i64 0, .int .i64 0, .int .i64 0, .int .i64 0, .int .i64 0, .int .i64 0, .int .i64 0, .int .i64 0, .int .i64 0, .int .i64 0] : Array Value).all (·.oneCell') = true := by rw [z24]; exact cL_one _
/-- What compare answers. -/
def CmpR (n : Nat) (b : SB) (w0 w' : World) (e : Ending) : Prop :=
  ∃ u, e = .returned (.tuple #[.bool (sees b && !b.w), u]) ∧ ((sees b && !b.w) = true → Nums w' w'.heap.size u (lkS n (seen b)) ∧ Fresh w0.heap.size u) ∧ ((sees b && !b.w) = false → u = .slice none 0 0)
theorem CmpR.no {n : Nat} {b : SB} {w0 w' : World} {e : Ending} (h : (sees b && !b.w) = false) (he : e = .returned (.tuple #[.bool false, .slice none 0 0])) : CmpR n b w0 w' e :=
  ⟨_, by rw [h]; exact he, fun h2 => (by rw [h] at h2; cases h2), fun _ => rfl⟩
theorem CmpR.yes {n : Nat} {b : SB} {w0 w' : World} {e : Ending} {u : Value} (h : (sees b && !b.w) = true) (he : e = .returned (.tuple #[.bool true, u])) (hu : Nums w' w'.heap.size u (lkS n (seen b))) (hf : Fresh w0.heap.size u) : CmpR n b w0 w' e :=
  ⟨u, by rw [h]; exact he, fun _ => ⟨hu, hf⟩, fun h2 => (by rw [h] at h2; cases h2)⟩
set_option maxHeartbeats 4000000 in
set_option maxRecDepth 100000 in
theorem compare_no {g n : Nat} {v : SS} (w : World) (hk : Lk w g n v) {p : Nat} (hp : p < 4) (hm : ∀ q, q < 4 → (v.h p).mv q ≤ 1) (hs : sees (v.h p) = false) :
    Calls Tryd.prog 34 #[.pointer (some ⟨g, 0, none⟩), .pointer (some ⟨g, 25 + p * 60, none⟩)] w fun e w' =>
      CmpR n (v.h p) w w' e ∧ Lk w' g n (putH v p (cmp (v.h p))) ∧ Touch (fun k => k = g) w w' := by
  have HC := Lib.hid (sees_any w hk hp hm)
  rw [hs] at HC
  have HS := Lib.hid hs
  have HG := Lib.hid hk.lt
  clear hk hm hs
  obtain ⟨x0, hx0⟩ : ∃ x, x = seen (v.h p) 0 := ⟨_, rfl⟩
  obtain ⟨x1, hx1⟩ : ∃ x, x = seen (v.h p) 1 := ⟨_, rfl⟩
  obtain ⟨x2, hx2⟩ : ∃ x, x = seen (v.h p) 2 := ⟨_, rfl⟩
  obtain ⟨x3, hx3⟩ : ∃ x, x = seen (v.h p) 3 := ⟨_, rfl⟩
  rw [← hx0, ← hx1, ← hx2, ← hx3] at HC
  clear hx0 hx1 hx2 hx3
  go_enter Tryd.func34, Tryd.ntmps34
  go_upto_block 0 with (go_at_call 44; (with_reducible refine HC.out.mono ?_); rintro e w1 ⟨rfl, ⟨j, hl, hj⟩, ht⟩)
  obtain rfl : j = 4 := by simpa using hj
  obtain ⟨V, hV⟩ : ∃ V, V = w1.alloc (.cells #[.int .i64 x0, .int .i64 x1, .int .i64 x2, .int .i64 x3] 66) := ⟨_, rfl⟩
  rw [← hV]
  have k1 : Touch (fun k => k = g) w V := by rw [hV]; exact ht.alloc _
  have k2 : Lk V g n (putH v p (sv (v.h p) 4)) := by rw [hV]; exact hl.alloc _
  have R1 := k2.rangeL hp
  have T1 : V.there g (25 + p * 60 + 4) 24 := k2.there (by omega)
  have T2 : V.there g (25 + p * 60 + 28) 24 := k2.there (by omega)
  have K1 := Lib.hid k1
  have K2 := Lib.hid k2
  rw [putH_h] at R1
  obtain ⟨C, hC⟩ : ∃ C, C = cL (v.h p).l := ⟨_, rfl⟩
  have hCl : C.length = 24 := by rw [hC, cL_len]
  have HC1 := Lib.hid (show C.toArray.all (·.oneCell') = true by rw [hC]; exact cL_one _)
  have R1 := Lib.hid (show V.rangeAt g (25 + p * 60 + 28) C by rw [hC]; exact R1)
  have HI := Lib.hid (show (Tryd.prog.info? 70).map (·.size) = some C.length by rw [hCl]; exact Tws.info)
  have TT1 := Lib.hid (show V.there g (25 + p * 60 + 4) C.toArray.size by rw [List.size_toArray, hCl]; exact T1)
  have TT2 := Lib.hid (World.there_setCells T2 g (25 + p * 60 + 4) C)
  have HCC := Lib.hid hC
  clear hC hCl
  clear hl hj ht k1 k2 T1 T2 hV HC
  go_wp2_with (first | (refine wpList_load_mid rfl 70 _ rfl g (25 + p * 60 + 28) rfl C _ R1.out Tryd.underlying70 rfl HI.out ?_) | (refine wpList_store_mid rfl 70 _ _ rfl g (25 + p * 60 + 4) C.toArray rfl rfl TT1.out HI.out HC1.out ?_) | (refine wpList_store_mid rfl 70 _ _ rfl g (25 + p * 60 + 28) #[.int .i64 0, .int .i64 0, .int .i64 0, .int .i64 0, .int .i64 0, .int .i64 0, .int .i64 0, .int .i64 0, .int .i64 0, .int .i64 0, .int .i64 0, .int .i64 0, .int .i64 0, .int .i64 0, .int .i64 0, .int .i64 0, .int .i64 0, .int .i64 0, .int .i64 0, .int .i64 0, .int .i64 0, .int .i64 0, .int .i64 0, .int .i64 0] rfl rfl TT2.out Tws.info z24_one ?_))
  go_ret2
  rw [z24, HCC.out]
  have h1 := K2.out.setFs hp (v.h p).l
  have h2 := h1.setLs hp fun _ => sw0
  rw [putH_h, putH_two, putH_h, putH_two] at h2
  have e : cmp (v.h p) = bLs (bFs (sv (v.h p) 4) (v.h p).l) fun _ => sw0 := by unfold cmp; rw [HS.out]; rfl
  rw [← e] at h2
  exact ⟨CmpR.no (by rw [HS.out]; rfl) rfl, h2, (K1.out.trans (touch_cells _ _ _) fun _ h => Or.inl h).trans (touch_cells _ _ _) fun _ h => Or.inl h⟩
theorem h60 (X x0 x1 x2 x3 : Nat) (s : Nat → Nat) (e0 : x0 = s 0) (e1 : x1 = s 1) (e2 : x2 = s 2) (e3 : x3 = s 3) :
    ([.int .i64 3, .bool false, .int .i64 X, .int .i64 0, .int .i64 0, .int .i64 0, .int .i64 0, .int .i64 0, .int .i64 0, .int .i64 0, .int .i64 0, .int .i64 0, .int .i64 0, .int .i64 0, .int .i64 0, .int .i64 0, .int .i64 0, .int .i64 0, .int .i64 0, .int .i64 0, .int .i64 0, .int .i64 0, .int .i64 0, .int .i64 0, .int .i64 0, .int .i64 0, .int .i64 0, .int .i64 0, .int .i64 0, .int .i64 0, .int .i64 0, .int .i64 0, .int .i64 0, .int .i64 0, .int .i64 0, .int .i64 0, .int .i64 0, .int .i64 0, .int .i64 0, .int .i64 0, .int .i64 0, .int .i64 0, .int .i64 0, .int .i64 0, .int .i64 0, .int .i64 0, .int .i64 0, .int .i64 0, .int .i64 0, .int .i64 0, .int .i64 0, .int .i64 0, .int .i64 0, .int .i64 0, .int .i64 0, .int .i64 0, .int .i64 x0, .int .i64 x1, .int .i64 x2, .int .i64 x3] : List Value) = cH ⟨3, 0, X, false, fun _ => sw0, fun _ => sw0, fun _ => 0, s⟩ := by
  subst e0 e1 e2 e3
  simp [cH, hc, wc, sw0, List.range, List.range.loop]
theorem h60z : (#[.int .i64 0, .bool false, .int .i64 0, .int .i64 0, .int .i64 0, .int .i64 0, .int .i64 0, .int .i64 0, .int .i64 0, .int .i64 0, .int .i64 0, .int .i64 0, .int .i64 0, .int .i64 0, .int .i64 0, .int .i64 0, .int .i64 0, .int .i64 0, .int .i64 0, .int .i64 0, .int .i64 0, .int .i64 0, .int .i64 0, .int .i64 0, .int .i64 0, .int .i64 0, .int .i64 0, .int .i64 0, .int .i64 0, .int .i64 0, .int .i64 0, .int .i64 0, .int .i64 0, .int .i64 0, .int .i64 0, .int .i64 0, .int .i64 0, .int .i64 0, .int .i64 0, .int .i64 0, .int .i64 0, .int .i64 0, .int .i64 0, .int .i64 0, .int .i64 0, .int .i64 0, .int .i64 0, .int .i64 0, .int .i64 0, .int .i64 0, .int .i64 0, .int .i64 0, .int .i64 0, .int .i64 0, .int .i64 0, .int .i64 0, .int .i64 0, .int .i64 0, .int .i64 0, .int .i64 0] : Array Value) = (cH sb0).toArray := by
  have h : cH sb0 = [.int .i64 0, .bool false, .int .i64 0, .int .i64 0, .int .i64 0, .int .i64 0, .int .i64 0, .int .i64 0, .int .i64 0, .int .i64 0, .int .i64 0, .int .i64 0, .int .i64 0, .int .i64 0, .int .i64 0, .int .i64 0, .int .i64 0, .int .i64 0, .int .i64 0, .int .i64 0, .int .i64 0, .int .i64 0, .int .i64 0, .int .i64 0, .int .i64 0, .int .i64 0, .int .i64 0, .int .i64 0, .int .i64 0, .int .i64 0, .int .i64 0, .int .i64 0, .int .i64 0, .int .i64 0, .int .i64 0, .int .i64 0, .int .i64 0, .int .i64 0, .int .i64 0, .int .i64 0, .int .i64 0, .int .i64 0, .int .i64 0, .int .i64 0, .int .i64 0, .int .i64 0, .int .i64 0, .int .i64 0, .int .i64 0, .int .i64 0, .int .i64 0, .int .i64 0, .int .i64 0, .int .i64 0, .int .i64 0, .int .i64 0, .int .i64 0, .int .i64 0, .int .i64 0, .int .i64 0] := by simp [cH, hc, wc, sb0, sw0, List.range, List.range.loop]
  rw [h]
theorem h60z_one : (#[.int .i64 0, .bool false, .int .i64 0, .int .i64 0, .int .i64 0, .int .i64 0, .int .i64 0, .int .i64 0, .int .i64 0, .int .i64 0, .int .i64 0, .int .i64 0, .int .i64 0, .int .i64 0, .int .i64 0, .int .i64 0, .int .i64 0, .int .i64 0, .int .i64 0, .int .i64 0, .int .i64 0, .int .i64 0, .int .i64 0, .int .i64 0, .int .i64 0, .int .i64 0, .int .i64 0, .int .i64 0, .int .i64 0, .int .i64 0, .int .i64 0, .int .i64 0, .int .i64 0, .int .i64 0, .int .i64 0, .int .i64 0, .int .i64 0, .int .i64 0, .int .i64 0, .int .i64 0, .int .i64 0, .int .i64 0, .int .i64 0, .int .i64 0, .int .i64 0, .int .i64 0, .int .i64 0, .int .i64 0, .int .i64 0, .int .i64 0, .int .i64 0, .int .i64 0, .int .i64 0, .int .i64 0, .int .i64 0, .int .i64 0, .int .i64 0, .int .i64 0, .int .i64 0, .int .i64 0] : Array Value).all (·.oneCell') = true := by rw [h60z]; exact cH_one _
def Own4 (W : World) (b x0 x1 x2 x3 : Nat) : Prop := W.cell? ⟨b, 0, none⟩ = some (.int .i64 x0) ∧ W.cell? ⟨b, 1, none⟩ = some (.int .i64 x1) ∧ W.cell? ⟨b, 2, none⟩ = some (.int .i64 x2) ∧ W.cell? ⟨b, 3, none⟩ = some (.int .i64 x3)
set_option maxHeartbeats 4000000 in
set_option maxRecDepth 100000 in
theorem compare_w {g n : Nat} {v : SS} (w : World) (hk : Lk w g n v) {p : Nat} (hp : p < 4) (hm : ∀ q, q < 4 → (v.h p).mv q ≤ 1) (hs : sees (v.h p) = true) (hw : (v.h p).w = true) :
    Calls Tryd.prog 34 #[.pointer (some ⟨g, 0, none⟩), .pointer (some ⟨g, 25 + p * 60, none⟩)] w fun e w' =>
      CmpR n (v.h p) w w' e ∧ Lk w' g n (putH v p (cmp (v.h p))) ∧ Touch (fun k => k = g) w w' := by
  have HC := Lib.hid (sees_any w hk hp hm)
  rw [hs] at HC
  have HS := Lib.hid hs
  have HW := Lib.hid hw
  have HG := Lib.hid hk.lt
  clear hk hm hs hw
  obtain ⟨x0, hx0⟩ : ∃ x, x = seen (v.h p) 0 := ⟨_, rfl⟩
  obtain ⟨x1, hx1⟩ : ∃ x, x = seen (v.h p) 1 := ⟨_, rfl⟩
  obtain ⟨x2, hx2⟩ : ∃ x, x = seen (v.h p) 2 := ⟨_, rfl⟩
  obtain ⟨x3, hx3⟩ : ∃ x, x = seen (v.h p) 3 := ⟨_, rfl⟩
  obtain ⟨X, hX⟩ : ∃ x, x = (v.h p).x := ⟨_, rfl⟩
  rw [← hx0, ← hx1, ← hx2, ← hx3] at HC
  have HB := Lib.hid (h60 X x0 x1 x2 x3 _ hx0 hx1 hx2 hx3)
  have HX := Lib.hid hX
  clear hx0 hx1 hx2 hx3 hX
  go_enter Tryd.func34, Tryd.ntmps34
  go_upto_block 0 with (go_at_call 44; (with_reducible refine HC.out.mono ?_); rintro e w1 ⟨rfl, ⟨j, hl, hj⟩, ht⟩)
  obtain ⟨V, hV⟩ : ∃ V, V = w1.alloc (.cells #[.int .i64 x0, .int .i64 x1, .int .i64 x2, .int .i64 x3] 66) := ⟨_, rfl⟩
  rw [← hV]
  have k1 : Touch (fun k => k = g) w V := by rw [hV]; exact ht.alloc _
  have k2 : Lk V g n (putH v p (sv (v.h p) j)) := by rw [hV]; exact hl.alloc _
  have k3 : Block V w1.heap.size 66 #[.int .i64 x0, .int .i64 x1, .int .i64 x2, .int .i64 x3] := by rw [hV]; exact Block.made _ _ _
  have hg1 : g < w1.heap.size := hl.lt
  have c1 : V.cell? ⟨g, 25 + p * 60 + 1, none⟩ = some (.bool true) := by
    have c := k2.xW hp
    rw [putH_h] at c
    rw [← HW.out]; exact c
  have c2 : V.cell? ⟨g, 25 + p * 60 + 2, none⟩ = some (.int .i64 X) := by
    have c := k2.xX hp
    rw [putH_h] at c
    rw [HX.out]; exact c
  have T1 : V.there g (25 + p * 60) 60 := k2.there (by omega)
  have hb : 60 = ([.int .i64 3, .bool false, .int .i64 X, .int .i64 0, .int .i64 0, .int .i64 0, .int .i64 0, .int .i64 0, .int .i64 0, .int .i64 0, .int .i64 0, .int .i64 0, .int .i64 0, .int .i64 0, .int .i64 0, .int .i64 0, .int .i64 0, .int .i64 0, .int .i64 0, .int .i64 0, .int .i64 0, .int .i64 0, .int .i64 0, .int .i64 0, .int .i64 0, .int .i64 0, .int .i64 0, .int .i64 0, .int .i64 0, .int .i64 0, .int .i64 0, .int .i64 0, .int .i64 0, .int .i64 0, .int .i64 0, .int .i64 0, .int .i64 0, .int .i64 0, .int .i64 0, .int .i64 0, .int .i64 0, .int .i64 0, .int .i64 0, .int .i64 0, .int .i64 0, .int .i64 0, .int .i64 0, .int .i64 0, .int .i64 0, .int .i64 0, .int .i64 0, .int .i64 0, .int .i64 0, .int .i64 0, .int .i64 0, .int .i64 0, .int .i64 x0, .int .i64 x1, .int .i64 x2, .int .i64 x3] : List Value).length := rfl
  have hS : V.drew.cell? ⟨g, 25 + p * 60 + 2, none⟩ = some (.int .i64 X) ∧ V.drew.cell? ⟨w1.heap.size, 0, none⟩ = some (.int .i64 x0) ∧ V.drew.cell? ⟨w1.heap.size, 1, none⟩ = some (.int .i64 x1) ∧ V.drew.cell? ⟨w1.heap.size, 2, none⟩ = some (.int .i64 x2) ∧ V.drew.cell? ⟨w1.heap.size, 3, none⟩ = some (.int .i64 x3) ∧ V.drew.there g (25 + p * 60) 60 :=
    ⟨c2, k3.cell 0, k3.cell 1, k3.cell 2, k3.cell 3, T1⟩
  have T1' : V.drew.there g (25 + p * 60) ([.int .i64 3, .bool false, .int .i64 X, .int .i64 0, .int .i64 0, .int .i64 0, .int .i64 0, .int .i64 0, .int .i64 0, .int .i64 0, .int .i64 0, .int .i64 0, .int .i64 0, .int .i64 0, .int .i64 0, .int .i64 0, .int .i64 0, .int .i64 0, .int .i64 0, .int .i64 0, .int .i64 0, .int .i64 0, .int .i64 0, .int .i64 0, .int .i64 0, .int .i64 0, .int .i64 0, .int .i64 0, .int .i64 0, .int .i64 0, .int .i64 0, .int .i64 0, .int .i64 0, .int .i64 0, .int .i64 0, .int .i64 0, .int .i64 0, .int .i64 0, .int .i64 0, .int .i64 0, .int .i64 0, .int .i64 0, .int .i64 0, .int .i64 0, .int .i64 0, .int .i64 0, .int .i64 0, .int .i64 0, .int .i64 0, .int .i64 0, .int .i64 0, .int .i64 0, .int .i64 0, .int .i64 0, .int .i64 0, .int .i64 0, .int .i64 x0, .int .i64 x1, .int .i64 x2, .int .i64 x3] : List Value).length := T1
  have hout : ∀ i, (V.drew.setCells g (25 + p * 60) [.int .i64 3, .bool false, .int .i64 X, .int .i64 0, .int .i64 0, .int .i64 0, .int .i64 0, .int .i64 0, .int .i64 0, .int .i64 0, .int .i64 0, .int .i64 0, .int .i64 0, .int .i64 0, .int .i64 0, .int .i64 0, .int .i64 0, .int .i64 0, .int .i64 0, .int .i64 0, .int .i64 0, .int .i64 0, .int .i64 0, .int .i64 0, .int .i64 0, .int .i64 0, .int .i64 0, .int .i64 0, .int .i64 0, .int .i64 0, .int .i64 0, .int .i64 0, .int .i64 0, .int .i64 0, .int .i64 0, .int .i64 0, .int .i64 0, .int .i64 0, .int .i64 0, .int .i64 0, .int .i64 0, .int .i64 0, .int .i64 0, .int .i64 0, .int .i64 0, .int .i64 0, .int .i64 0, .int .i64 0, .int .i64 0, .int .i64 0, .int .i64 0, .int .i64 0, .int .i64 0, .int .i64 0, .int .i64 0, .int .i64 0, .int .i64 x0, .int .i64 x1, .int .i64 x2, .int .i64 x3]).cell? ⟨w1.heap.size, i, none⟩ = V.drew.cell? ⟨w1.heap.size, i, none⟩ := fun i =>
    World.cell?_setCells_out g _ _ V.drew _ fun h _ => absurd (show w1.heap.size = g from h) (by omega)
  have hT : (V.drew.setCells g (25 + p * 60) [.int .i64 3, .bool false, .int .i64 X, .int .i64 0, .int .i64 0, .int .i64 0, .int .i64 0, .int .i64 0, .int .i64 0, .int .i64 0, .int .i64 0, .int .i64 0, .int .i64 0, .int .i64 0, .int .i64 0, .int .i64 0, .int .i64 0, .int .i64 0, .int .i64 0, .int .i64 0, .int .i64 0, .int .i64 0, .int .i64 0, .int .i64 0, .int .i64 0, .int .i64 0, .int .i64 0, .int .i64 0, .int .i64 0, .int .i64 0, .int .i64 0, .int .i64 0, .int .i64 0, .int .i64 0, .int .i64 0, .int .i64 0, .int .i64 0, .int .i64 0, .int .i64 0, .int .i64 0, .int .i64 0, .int .i64 0, .int .i64 0, .int .i64 0, .int .i64 0, .int .i64 0, .int .i64 0, .int .i64 0, .int .i64 0, .int .i64 0, .int .i64 0, .int .i64 0, .int .i64 0, .int .i64 0, .int .i64 0, .int .i64 0, .int .i64 x0, .int .i64 x1, .int .i64 x2, .int .i64 x3]).cell? ⟨g, 25 + p * 60 + 2, none⟩ = some (.int .i64 X) ∧ (V.drew.setCells g (25 + p * 60) [.int .i64 3, .bool false, .int .i64 X, .int .i64 0, .int .i64 0, .int .i64 0, .int .i64 0, .int .i64 0, .int .i64 0, .int .i64 0, .int .i64 0, .int .i64 0, .int .i64 0, .int .i64 0, .int .i64 0, .int .i64 0, .int .i64 0, .int .i64 0, .int .i64 0, .int .i64 0, .int .i64 0, .int .i64 0, .int .i64 0, .int .i64 0, .int .i64 0, .int .i64 0, .int .i64 0, .int .i64 0, .int .i64 0, .int .i64 0, .int .i64 0, .int .i64 0, .int .i64 0, .int .i64 0, .int .i64 0, .int .i64 0, .int .i64 0, .int .i64 0, .int .i64 0, .int .i64 0, .int .i64 0, .int .i64 0, .int .i64 0, .int .i64 0, .int .i64 0, .int .i64 0, .int .i64 0, .int .i64 0, .int .i64 0, .int .i64 0, .int .i64 0, .int .i64 0, .int .i64 0, .int .i64 0, .int .i64 0, .int .i64 0, .int .i64 x0, .int .i64 x1, .int .i64 x2, .int .i64 x3]).cell? ⟨w1.heap.size, 0, none⟩ = some (.int .i64 x0) ∧ (V.drew.setCells g (25 + p * 60) [.int .i64 3, .bool false, .int .i64 X, .int .i64 0, .int .i64 0, .int .i64 0, .int .i64 0, .int .i64 0, .int .i64 0, .int .i64 0, .int .i64 0, .int .i64 0, .int .i64 0, .int .i64 0, .int .i64 0, .int .i64 0, .int .i64 0, .int .i64 0, .int .i64 0, .int .i64 0, .int .i64 0, .int .i64 0, .int .i64 0, .int .i64 0, .int .i64 0, .int .i64 0, .int .i64 0, .int .i64 0, .int .i64 0, .int .i64 0, .int .i64 0, .int .i64 0, .int .i64 0, .int .i64 0, .int .i64 0, .int .i64 0, .int .i64 0, .int .i64 0, .int .i64 0, .int .i64 0, .int .i64 0, .int .i64 0, .int .i64 0, .int .i64 0, .int .i64 0, .int .i64 0, .int .i64 0, .int .i64 0, .int .i64 0, .int .i64 0, .int .i64 0, .int .i64 0, .int .i64 0, .int .i64 0, .int .i64 0, .int .i64 0, .int .i64 x0, .int .i64 x1, .int .i64 x2, .int .i64 x3]).cell? ⟨w1.heap.size, 1, none⟩ = some (.int .i64 x1) ∧ (V.drew.setCells g (25 + p * 60) [.int .i64 3, .bool false, .int .i64 X, .int .i64 0, .int .i64 0, .int .i64 0, .int .i64 0, .int .i64 0, .int .i64 0, .int .i64 0, .int .i64 0, .int .i64 0, .int .i64 0, .int .i64 0, .int .i64 0, .int .i64 0, .int .i64 0, .int .i64 0, .int .i64 0, .int .i64 0, .int .i64 0, .int .i64 0, .int .i64 0, .int .i64 0, .int .i64 0, .int .i64 0, .int .i64 0, .int .i64 0, .int .i64 0, .int .i64 0, .int .i64 0, .int .i64 0, .int .i64 0, .int .i64 0, .int .i64 0, .int .i64 0, .int .i64 0, .int .i64 0, .int .i64 0, .int .i64 0, .int .i64 0, .int .i64 0, .int .i64 0, .int .i64 0, .int .i64 0, .int .i64 0, .int .i64 0, .int .i64 0, .int .i64 0, .int .i64 0, .int .i64 0, .int .i64 0, .int .i64 0, .int .i64 0, .int .i64 0, .int .i64 0, .int .i64 x0, .int .i64 x1, .int .i64 x2, .int .i64 x3]).cell? ⟨w1.heap.size, 2, none⟩ = some (.int .i64 x2) ∧ (V.drew.setCells g (25 + p * 60) [.int .i64 3, .bool false, .int .i64 X, .int .i64 0, .int .i64 0, .int .i64 0, .int .i64 0, .int .i64 0, .int .i64 0, .int .i64 0, .int .i64 0, .int .i64 0, .int .i64 0, .int .i64 0, .int .i64 0, .int .i64 0, .int .i64 0, .int .i64 0, .int .i64 0, .int .i64 0, .int .i64 0, .int .i64 0, .int .i64 0, .int .i64 0, .int .i64 0, .int .i64 0, .int .i64 0, .int .i64 0, .int .i64 0, .int .i64 0, .int .i64 0, .int .i64 0, .int .i64 0, .int .i64 0, .int .i64 0, .int .i64 0, .int .i64 0, .int .i64 0, .int .i64 0, .int .i64 0, .int .i64 0, .int .i64 0, .int .i64 0, .int .i64 0, .int .i64 0, .int .i64 0, .int .i64 0, .int .i64 0, .int .i64 0, .int .i64 0, .int .i64 0, .int .i64 0, .int .i64 0, .int .i64 0, .int .i64 0, .int .i64 0, .int .i64 x0, .int .i64 x1, .int .i64 x2, .int .i64 x3]).cell? ⟨w1.heap.size, 3, none⟩ = some (.int .i64 x3) ∧ (V.drew.setCells g (25 + p * 60) [.int .i64 3, .bool false, .int .i64 X, .int .i64 0, .int .i64 0, .int .i64 0, .int .i64 0, .int .i64 0, .int .i64 0, .int .i64 0, .int .i64 0, .int .i64 0, .int .i64 0, .int .i64 0, .int .i64 0, .int .i64 0, .int .i64 0, .int .i64 0, .int .i64 0, .int .i64 0, .int .i64 0, .int .i64 0, .int .i64 0, .int .i64 0, .int .i64 0, .int .i64 0, .int .i64 0, .int .i64 0, .int .i64 0, .int .i64 0, .int .i64 0, .int .i64 0, .int .i64 0, .int .i64 0, .int .i64 0, .int .i64 0, .int .i64 0, .int .i64 0, .int .i64 0, .int .i64 0, .int .i64 0, .int .i64 0, .int .i64 0, .int .i64 0, .int .i64 0, .int .i64 0, .int .i64 0, .int .i64 0, .int .i64 0, .int .i64 0, .int .i64 0, .int .i64 0, .int .i64 0, .int .i64 0, .int .i64 0, .int .i64 0, .int .i64 x0, .int .i64 x1, .int .i64 x2, .int .i64 x3]).there g (25 + p * 60) 60 :=
    ⟨World.rangeAt_setCells_same V.drew g (25 + p * 60) _ T1' 2 _ rfl, (hout 0).trans (k3.cell 0), (hout 1).trans (k3.cell 1), (hout 2).trans (k3.cell 2), (hout 3).trans (k3.cell 3), World.there_setCells T1' _ _ _⟩
  have HSS := Lib.hid hS
  have HTT := Lib.hid hT
  have K1 := Lib.hid k1
  have K2 := Lib.hid k2
  have HONE := Lib.hid (show (#[.int .i64 3, .bool false, .int .i64 X, .int .i64 0, .int .i64 0, .int .i64 0, .int .i64 0, .int .i64 0, .int .i64 0, .int .i64 0, .int .i64 0, .int .i64 0, .int .i64 0, .int .i64 0, .int .i64 0, .int .i64 0, .int .i64 0, .int .i64 0, .int .i64 0, .int .i64 0, .int .i64 0, .int .i64 0, .int .i64 0, .int .i64 0, .int .i64 0, .int .i64 0, .int .i64 0, .int .i64 0, .int .i64 0, .int .i64 0, .int .i64 0, .int .i64 0, .int .i64 0, .int .i64 0, .int .i64 0, .int .i64 0, .int .i64 0, .int .i64 0, .int .i64 0, .int .i64 0, .int .i64 0, .int .i64 0, .int .i64 0, .int .i64 0, .int .i64 0, .int .i64 0, .int .i64 0, .int .i64 0, .int .i64 0, .int .i64 0, .int .i64 0, .int .i64 0, .int .i64 0, .int .i64 0, .int .i64 0, .int .i64 0, .int .i64 x0, .int .i64 x1, .int .i64 x2, .int .i64 x3] : Array Value).all (·.oneCell') = true by rw [show (#[.int .i64 3, .bool false, .int .i64 X, .int .i64 0, .int .i64 0, .int .i64 0, .int .i64 0, .int .i64 0, .int .i64 0, .int .i64 0, .int .i64 0, .int .i64 0, .int .i64 0, .int .i64 0, .int .i64 0, .int .i64 0, .int .i64 0, .int .i64 0, .int .i64 0, .int .i64 0, .int .i64 0, .int .i64 0, .int .i64 0, .int .i64 0, .int .i64 0, .int .i64 0, .int .i64 0, .int .i64 0, .int .i64 0, .int .i64 0, .int .i64 0, .int .i64 0, .int .i64 0, .int .i64 0, .int .i64 0, .int .i64 0, .int .i64 0, .int .i64 0, .int .i64 0, .int .i64 0, .int .i64 0, .int .i64 0, .int .i64 0, .int .i64 0, .int .i64 0, .int .i64 0, .int .i64 0, .int .i64 0, .int .i64 0, .int .i64 0, .int .i64 0, .int .i64 0, .int .i64 0, .int .i64 0, .int .i64 0, .int .i64 0, .int .i64 x0, .int .i64 x1, .int .i64 x2, .int .i64 x3] : Array Value) = (cH _).toArray from congrArg List.toArray HB.out]; exact cH_one _)
  clear hl hj ht k1 k2 k3 T1 T1' hV HC hb hS hT hout
  go_wp2_with fail
  refine wp_region_held_drew (S := (fun W : World => W.cell? ⟨g, 25 + p * 60 + 2, none⟩ = some (.int .i64 X) ∧ W.cell? ⟨w1.heap.size, 0, none⟩ = some (.int .i64 x0) ∧ W.cell? ⟨w1.heap.size, 1, none⟩ = some (.int .i64 x1) ∧ W.cell? ⟨w1.heap.size, 2, none⟩ = some (.int .i64 x2) ∧ W.cell? ⟨w1.heap.size, 3, none⟩ = some (.int .i64 x3) ∧ W.there g (25 + p * 60) 60)) (by kernel_rfl) ?_ (fun hHeld => ?_)
  · exact HSS.out
  refine wpAnyH_take (i := 0) (oi := { dst := some 38, op := Op.move (Operand.tmp 1), type := 84, pos := "snap.go:124", after := #[], guard := none }) (v := .pointer (some ⟨g, 25 + p * 60, none⟩)) rfl (by kernel_rfl) (by kernel_rfl) (by kernel_rfl) (fun _ _ _ h => h) (Or.inl ⟨by rfl, fun W hSw => by (try dsimp only at hSw); go_simp⟩) (by assumption) ?_
  try simp only [Act.put, List.setIfInBounds_toArray, List.set_cons_zero, List.set_cons_succ]
  refine wpAnyH_take (i := 1) (oi := { dst := some 39, op := Op.move (Operand.tmp 1), type := 84, pos := "snap.go:124", after := #[], guard := none }) (v := .pointer (some ⟨g, 25 + p * 60, none⟩)) rfl (by kernel_rfl) (by kernel_rfl) (by kernel_rfl) (fun _ _ _ h => h) (Or.inl ⟨by rfl, fun W hSw => by (try dsimp only at hSw); go_simp⟩) (by assumption) ?_
  try simp only [Act.put, List.setIfInBounds_toArray, List.set_cons_zero, List.set_cons_succ]
  refine wpAnyH_take (i := 2) (oi := { dst := some 40, op := Op.nilCheck (Operand.tmp 39), type := 0, pos := "snap.go:124", after := #[{ on := 1, ground := Ground.data }], guard := none }) (v := .pointer (some ⟨g, 25 + p * 60, none⟩)) rfl (by kernel_rfl) (by kernel_rfl) (by kernel_rfl) (fun _ _ _ h => h) (Or.inl ⟨by rfl, fun W hSw => by (try dsimp only at hSw); go_simp⟩) (by assumption) ?_
  try simp only [Act.put, List.setIfInBounds_toArray, List.set_cons_zero, List.set_cons_succ]
  refine wpAnyH_take (i := 3) (oi := { dst := some 41, op := Op.fieldAddr 72 (Operand.tmp 40) 2, type := 0, pos := "snap.go:124", after := #[{ on := 2, ground := Ground.data }], guard := none }) (v := .pointer (some ⟨g, 25 + p * 60 + 2, none⟩)) rfl (by kernel_rfl) (by kernel_rfl) (by kernel_rfl) (fun _ _ _ h => h) (Or.inl ⟨by rfl, fun W hSw => by (try dsimp only at hSw); go_simp⟩) (by assumption) ?_
  try simp only [Act.put, List.setIfInBounds_toArray, List.set_cons_zero, List.set_cons_succ]
  refine wpAnyH_take (i := 4) (oi := { dst := some 42, op := Op.load 3 (Operand.tmp 41), type := 3, pos := "snap.go:124", after := #[{ on := 3, ground := Ground.data }], guard := none }) (v := .int .i64 X) rfl (by kernel_rfl) (by kernel_rfl) (by kernel_rfl) (fun _ _ _ h => h) (Or.inl ⟨by rfl, fun W hSw => by (try dsimp only at hSw); go_simp⟩) (by assumption) ?_
  try simp only [Act.put, List.setIfInBounds_toArray, List.set_cons_zero, List.set_cons_succ]
  refine wpAnyH_take (i := 5) (oi := { dst := some 43, op := Op.load 66 (Operand.tmp 6), type := 66, pos := "snap.go:124", after := #[], guard := none }) (v := .agg #[.int .i64 x0, .int .i64 x1, .int .i64 x2, .int .i64 x3]) rfl (by kernel_rfl) (by kernel_rfl) (by kernel_rfl) (fun _ _ _ h => h) (Or.inl ⟨by rfl, fun W hSw => by (try dsimp only at hSw); go_simp⟩) (by assumption) ?_
  try simp only [Act.put, List.setIfInBounds_toArray, List.set_cons_zero, List.set_cons_succ]
  refine wpAnyH_take (i := 6) (oi := { dst := some 44, op := Op.build 72 #[(0, Operand.const (Value.int IntKind.i64 3)), (2, Operand.tmp 42), (7, Operand.tmp 43)], type := 72, pos := "snap.go:124", after := #[{ on := 4, ground := Ground.data }, { on := 5, ground := Ground.data }], guard := none }) (v := .agg #[.int .i64 3, .bool false, .int .i64 X, .int .i64 0, .int .i64 0, .int .i64 0, .int .i64 0, .int .i64 0, .int .i64 0, .int .i64 0, .int .i64 0, .int .i64 0, .int .i64 0, .int .i64 0, .int .i64 0, .int .i64 0, .int .i64 0, .int .i64 0, .int .i64 0, .int .i64 0, .int .i64 0, .int .i64 0, .int .i64 0, .int .i64 0, .int .i64 0, .int .i64 0, .int .i64 0, .int .i64 0, .int .i64 0, .int .i64 0, .int .i64 0, .int .i64 0, .int .i64 0, .int .i64 0, .int .i64 0, .int .i64 0, .int .i64 0, .int .i64 0, .int .i64 0, .int .i64 0, .int .i64 0, .int .i64 0, .int .i64 0, .int .i64 0, .int .i64 0, .int .i64 0, .int .i64 0, .int .i64 0, .int .i64 0, .int .i64 0, .int .i64 0, .int .i64 0, .int .i64 0, .int .i64 0, .int .i64 0, .int .i64 0, .int .i64 x0, .int .i64 x1, .int .i64 x2, .int .i64 x3]) rfl (by kernel_rfl) (by kernel_rfl) (by kernel_rfl) (fun _ _ _ h => h) (Or.inl ⟨by rfl, fun W hSw => by (try dsimp only at hSw); go_simp⟩) (by assumption) ?_
  try simp only [Act.put, List.setIfInBounds_toArray, List.set_cons_zero, List.set_cons_succ]
  refine wpAnyH_take (i := 7) (oi := { dst := some 45, op := Op.nilCheck (Operand.tmp 38), type := 0, pos := "snap.go:124", after := #[{ on := 0, ground := Ground.data }, { on := 0, ground := Ground.phase }, { on := 1, ground := Ground.phase }, { on := 2, ground := Ground.phase }, { on := 3, ground := Ground.phase }, { on := 4, ground := Ground.phase }, { on := 5, ground := Ground.phase }, { on := 6, ground := Ground.phase }], guard := none }) (v := .pointer (some ⟨g, 25 + p * 60, none⟩)) rfl (by kernel_rfl) (by kernel_rfl) (by kernel_rfl) (fun _ _ _ h => h) (Or.inl ⟨by rfl, fun W hSw => by (try dsimp only at hSw); go_simp⟩) (by assumption) ?_
  try simp only [Act.put, List.setIfInBounds_toArray, List.set_cons_zero, List.set_cons_succ]
  refine held_store 8 (o := { dst := none, op := Op.store 72 (Operand.tmp 45) (Operand.tmp 44), type := 0, pos := "snap.go:124", after := #[{ on := 7, ground := Ground.data }, { on := 6, ground := Ground.data }, { on := 0, ground := Ground.phase }, { on := 1, ground := Ground.phase }, { on := 2, ground := Ground.phase }, { on := 3, ground := Ground.phase }, { on := 4, ground := Ground.phase }, { on := 5, ground := Ground.phase }, { on := 6, ground := Ground.phase }], guard := none }) ?hf ?hr ?ho ?hd ?hw 72 (.tmp 45) (.tmp 44) ?hop g (25 + p * 60) #[.int .i64 3, .bool false, .int .i64 X, .int .i64 0, .int .i64 0, .int .i64 0, .int .i64 0, .int .i64 0, .int .i64 0, .int .i64 0, .int .i64 0, .int .i64 0, .int .i64 0, .int .i64 0, .int .i64 0, .int .i64 0, .int .i64 0, .int .i64 0, .int .i64 0, .int .i64 0, .int .i64 0, .int .i64 0, .int .i64 0, .int .i64 0, .int .i64 0, .int .i64 0, .int .i64 0, .int .i64 0, .int .i64 0, .int .i64 0, .int .i64 0, .int .i64 0, .int .i64 0, .int .i64 0, .int .i64 0, .int .i64 0, .int .i64 0, .int .i64 0, .int .i64 0, .int .i64 0, .int .i64 0, .int .i64 0, .int .i64 0, .int .i64 0, .int .i64 0, .int .i64 0, .int .i64 0, .int .i64 0, .int .i64 0, .int .i64 0, .int .i64 0, .int .i64 0, .int .i64 0, .int .i64 0, .int .i64 0, .int .i64 0, .int .i64 x0, .int .i64 x1, .int .i64 x2, .int .i64 x3] ?hx ?hy ?ht ?hi ?h1 ?hS ?h
  case hf => rfl
  case hr => kernel_rfl
  case ho => kernel_rfl
  case hd => kernel_rfl
  case hw => kernel_rfl
  case hop => rfl
  case hx => rfl
  case hy => rfl
  case ht => exact HSS.out.2.2.2.2.2
  case hi => exact Th.info
  case h1 => exact HONE.out
  case hS => exact HTT.out
  case h =>
    go_wp2
    go_ret2
    have h2 := (K2.out.drew).setH hp ⟨3, 0, X, false, fun _ => sw0, fun _ => sw0, fun _ => 0, seen (v.h p)⟩
    rw [putH_two, ← HB.out] at h2
    have e : cmp (v.h p) = ⟨3, 0, X, false, fun _ => sw0, fun _ => sw0, fun _ => 0, seen (v.h p)⟩ := by unfold cmp; rw [HS.out, HW.out, HX.out]; rfl
    rw [← e] at h2
    exact ⟨CmpR.no (by rw [HS.out, HW.out]; rfl) rfl, h2, K1.out.drew.trans (touch_cells _ _ _) fun _ h => Or.inl h⟩
set_option maxHeartbeats 4000000 in
set_option maxRecDepth 100000 in
theorem compare_done {g n : Nat} {v : SS} (w : World) (hk : Lk w g n v) {p : Nat} (hp : p < 4) (hm : ∀ q, q < 4 → (v.h p).mv q ≤ 1) (hs : sees (v.h p) = true) (hw : (v.h p).w = false) (hn1 : 1 ≤ n) (hn4 : n ≤ 4) :
    Calls Tryd.prog 34 #[.pointer (some ⟨g, 0, none⟩), .pointer (some ⟨g, 25 + p * 60, none⟩)] w fun e w' =>
      CmpR n (v.h p) w w' e ∧ Lk w' g n (putH v p (cmp (v.h p))) ∧ Touch (fun k => k = g) w w' := by
  have HC := Lib.hid (sees_any w hk hp hm)
  rw [hs] at HC
  have HS := Lib.hid hs
  have HW := Lib.hid hw
  have HG := Lib.hid hk.lt
  clear hk hm hs hw
  obtain ⟨x0, hx0⟩ : ∃ x, x = seen (v.h p) 0 := ⟨_, rfl⟩
  obtain ⟨x1, hx1⟩ : ∃ x, x = seen (v.h p) 1 := ⟨_, rfl⟩
  obtain ⟨x2, hx2⟩ : ∃ x, x = seen (v.h p) 2 := ⟨_, rfl⟩
  obtain ⟨x3, hx3⟩ : ∃ x, x = seen (v.h p) 3 := ⟨_, rfl⟩
  rw [← hx0, ← hx1, ← hx2, ← hx3] at HC
  have HX := Lib.hid (⟨hx0, hx1, hx2, hx3⟩ : x0 = seen (v.h p) 0 ∧ x1 = seen (v.h p) 1 ∧ x2 = seen (v.h p) 2 ∧ x3 = seen (v.h p) 3)
  clear hx0 hx1 hx2 hx3
  go_enter Tryd.func34, Tryd.ntmps34
  go_upto_block 0 with (go_at_call 44; (with_reducible refine HC.out.mono ?_); rintro e w1 ⟨rfl, ⟨j, hl, hj⟩, ht⟩)
  obtain ⟨V, hV⟩ : ∃ V, V = w1.alloc (.cells #[.int .i64 x0, .int .i64 x1, .int .i64 x2, .int .i64 x3] 66) := ⟨_, rfl⟩
  rw [← hV]
  have k1 : Touch (fun k => k = g) w V := by rw [hV]; exact ht.alloc _
  have k2 : Lk V g n (putH v p (sv (v.h p) j)) := by rw [hV]; exact hl.alloc _
  have k3 : Block V w1.heap.size 66 #[.int .i64 x0, .int .i64 x1, .int .i64 x2, .int .i64 x3] := by rw [hV]; exact Block.made _ _ _
  have hg1 : g < w1.heap.size := hl.lt
  have c1 : V.cell? ⟨g, 25 + p * 60 + 1, none⟩ = some (.bool false) := by
    have c := k2.xW hp
    rw [putH_h] at c
    rw [← HW.out]; exact c
  have T1 : V.there g (25 + p * 60) 60 := k2.there (by omega)
  obtain ⟨V2, hV2⟩ : ∃ V2, V2 = V.setCells g (25 + p * 60) (#[.int .i64 0, .bool false, .int .i64 0, .int .i64 0, .int .i64 0, .int .i64 0, .int .i64 0, .int .i64 0, .int .i64 0, .int .i64 0, .int .i64 0, .int .i64 0, .int .i64 0, .int .i64 0, .int .i64 0, .int .i64 0, .int .i64 0, .int .i64 0, .int .i64 0, .int .i64 0, .int .i64 0, .int .i64 0, .int .i64 0, .int .i64 0, .int .i64 0, .int .i64 0, .int .i64 0, .int .i64 0, .int .i64 0, .int .i64 0, .int .i64 0, .int .i64 0, .int .i64 0, .int .i64 0, .int .i64 0, .int .i64 0, .int .i64 0, .int .i64 0, .int .i64 0, .int .i64 0, .int .i64 0, .int .i64 0, .int .i64 0, .int .i64 0, .int .i64 0, .int .i64 0, .int .i64 0, .int .i64 0, .int .i64 0, .int .i64 0, .int .i64 0, .int .i64 0, .int .i64 0, .int .i64 0, .int .i64 0, .int .i64 0, .int .i64 0, .int .i64 0, .int .i64 0, .int .i64 0] : Array Value).toList := ⟨_, rfl⟩
  have k4 : Lk V2 g n (putH v p sb0) := by
    have h2 := k2.setH hp sb0
    rw [putH_two] at h2
    rw [hV2, h60z]
    exact h2
  have k5 : Touch (fun k => k = g) V V2 := by rw [hV2]; exact touch_cells _ _ _
  have k6 : Block V2 w1.heap.size 66 #[.int .i64 x0, .int .i64 x1, .int .i64 x2, .int .i64 x3] := k3.touch k5 (by show ¬ w1.heap.size = g; omega)
  have s0 : V2.cell? ⟨w1.heap.size, 0, none⟩ = some (.int .i64 x0) := k6.cell 0
  have s1 : V2.cell? ⟨w1.heap.size, 1, none⟩ = some (.int .i64 x1) := k6.cell 1
  have s2 : V2.cell? ⟨w1.heap.size, 2, none⟩ = some (.int .i64 x2) := k6.cell 2
  have s3 : V2.cell? ⟨w1.heap.size, 3, none⟩ = some (.int .i64 x3) := k6.cell 3
  have HTO := Lib.hid (told_any (seen (v.h p)) V2 hn1 hn4 k4.num)
  rw [← HX.out.1, ← HX.out.2.1, ← HX.out.2.2.1, ← HX.out.2.2.2] at HTO
  have HV2 := Lib.hid hV2.symm
  have TT1 := Lib.hid T1
  have K1 := Lib.hid k1
  have K4 := Lib.hid k4
  have K5 := Lib.hid k5
  clear hl hj ht k1 k2 k3 k4 k5 k6 T1 hV HC hV2
  go_wp2_with (first | (refine wpList_store_mid rfl 72 _ _ rfl g (25 + p * 60) #[.int .i64 0, .bool false, .int .i64 0, .int .i64 0, .int .i64 0, .int .i64 0, .int .i64 0, .int .i64 0, .int .i64 0, .int .i64 0, .int .i64 0, .int .i64 0, .int .i64 0, .int .i64 0, .int .i64 0, .int .i64 0, .int .i64 0, .int .i64 0, .int .i64 0, .int .i64 0, .int .i64 0, .int .i64 0, .int .i64 0, .int .i64 0, .int .i64 0, .int .i64 0, .int .i64 0, .int .i64 0, .int .i64 0, .int .i64 0, .int .i64 0, .int .i64 0, .int .i64 0, .int .i64 0, .int .i64 0, .int .i64 0, .int .i64 0, .int .i64 0, .int .i64 0, .int .i64 0, .int .i64 0, .int .i64 0, .int .i64 0, .int .i64 0, .int .i64 0, .int .i64 0, .int .i64 0, .int .i64 0, .int .i64 0, .int .i64 0, .int .i64 0, .int .i64 0, .int .i64 0, .int .i64 0, .int .i64 0, .int .i64 0, .int .i64 0, .int .i64 0, .int .i64 0, .int .i64 0] rfl rfl TT1.out Th.info h60z_one ?_; rw [HV2.out]) | (go_at_call 35; (with_reducible refine HTO.out.mono ?_); rintro e w2 ⟨u, rfl, hu, hf, hb⟩; have HU := Lib.hid hu; have HF := Lib.hid hf; have HBB := Lib.hid hb; clear hu hb hf))
  go_ret2
  have e : cmp (v.h p) = sb0 := by unfold cmp; rw [HS.out, HW.out]; rfl
  rw [e]
  exact ⟨CmpR.yes (by rw [HS.out, HW.out]; rfl) rfl HU.out (fun k hk => Nat.le_trans (K1.out.trans K5.out fun _ h => Or.inl h).size (HF.out k hk)), K4.out.below HBB.out K4.out.lt, (K1.out.trans K5.out fun _ h => Or.inl h).calls HBB.out (K1.out.trans K5.out fun _ h => Or.inl h).size⟩
theorem compare_any {g n : Nat} {v : SS} (w : World) (hk : Lk w g n v) {p : Nat} (hp : p < 4) (hm : ∀ q, q < 4 → (v.h p).mv q ≤ 1) (hn1 : 1 ≤ n) (hn4 : n ≤ 4) :
    Calls Tryd.prog 34 #[.pointer (some ⟨g, 0, none⟩), .pointer (some ⟨g, 25 + p * 60, none⟩)] w fun e w' =>
      CmpR n (v.h p) w w' e ∧ Lk w' g n (putH v p (cmp (v.h p))) ∧ Touch (fun k => k = g) w w' := by
  cases hs : sees (v.h p) with
  | false => exact compare_no w hk hp hm hs
  | true =>
    cases hw : (v.h p).w with
    | true => exact compare_w w hk hp hm hs hw
    | false => exact compare_done w hk hp hm hs hw hn1 hn4
end Go.Proofs.YtnplhjbbkccdnaaDoor.Snap
