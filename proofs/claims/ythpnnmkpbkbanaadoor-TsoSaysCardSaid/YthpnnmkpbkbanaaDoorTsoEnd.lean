/-
  What (tso.state).ended answers.
-/
import Derived.Test.YthpnnmkpbkbanaaDoorTsoKey
import Derived.BigFrame
namespace Go.Proofs.YthpnnmkpbkbanaaDoor
open Go.RowKit Go.Maps

theorem Block.range33 {w : World} {g T : Nat} {z rest : List Int} (h : Block w g T (row (z ++ rest))) {n : Nat} (hz : z.length = n) : World.rangeAt w g n (rest.map (Value.int .i64)) := by
  intro j u hj
  rw [List.getElem?_map] at hj
  cases e : rest[j]? with
  | none => rw [e] at hj; cases hj
  | some x =>
    rw [e] at hj
    obtain rfl := Option.some.inj hj
    exact (h.cell _).trans (row_get (by rw [List.getElem?_append_right (by omega), hz, Nat.add_sub_cancel_left]; exact e))
theorem T62.info : (Tryd.prog.info? 78).map (·.size) = some 33 := by kernel_rfl
theorem Tpr.info : (Tryd.prog.info? 24).map (·.size) = some 2 := by kernel_rfl
set_option maxRecDepth 100000 in
set_option maxHeartbeats 1000000 in
theorem tended_any (z rest : List Int) (words : Int) (hv : Value) (hs : List (List Ln)) (w : World) (hh : Hands w w.heap.size hv hs) (h3 : hs.length ≤ 3) (hf : Fit hs z) (hr : rest.length = 33) (hw : Wf rest) :
    Calls Tryd.prog 34 #[.agg (row (z ++ rest)), .agg #[.int .i64 words, hv]] w fun e w' => e = .returned (.bool (decide (rest = List.replicate 33 0) && endB hs z)) ∧ Below w.heap.size w w' := by
  have HH := Lib.hid hh
  obtain ⟨A, c, rfl, hlen, hh⟩ := hh
  obtain ⟨b, hb⟩ : ∃ b, b = decide (rest = List.replicate 33 0) := ⟨_, rfl⟩
  have heq : ∀ x : World, (Op.equalIn 10000 78 (.agg (rest.map (Value.int .i64)).toArray) (.agg #[.int .i64 0, .int .i64 0, .int .i64 0, .int .i64 0, .int .i64 0, .int .i64 0, .int .i64 0, .int .i64 0, .int .i64 0, .int .i64 0, .int .i64 0, .int .i64 0, .int .i64 0, .int .i64 0, .int .i64 0, .int .i64 0, .int .i64 0, .int .i64 0, .int .i64 0, .int .i64 0, .int .i64 0, .int .i64 0, .int .i64 0, .int .i64 0, .int .i64 0, .int .i64 0, .int .i64 0, .int .i64 0, .int .i64 0, .int .i64 0, .int .i64 0, .int .i64 0, .int .i64 0])).run Tryd.prog x = .ok b x := fun x => by
    rw [hb]
    exact eql62 rest (List.replicate 33 0) hr (by simp) hw (fun y hy => by rw [List.eq_of_mem_replicate hy]; rfl) x
  rw [← hb]
  have HF := Lib.hid hf
  have k1 : Block ((w.alloc (.cells (row (z ++ rest)) 80)).alloc (.cells #[.int .i64 words, .slice A hs.length c] 24)) w.heap.size 80 (row (z ++ rest)) := (Block.made _ _ _).alloc _
  have hbe : Below w.heap.size w ((w.alloc (.cells (row (z ++ rest)) 80)).alloc (.cells #[.int .i64 words, .slice A hs.length c] 24)) := ((Below.refl _ _).alloc (Nat.le_refl _) _).alloc (by simp) _
  have K1 := Lib.hid k1
  have HR := Lib.hid (show (rest.map (Value.int .i64)).length = 33 by rw [List.length_map, hr])
  have HZ := Lib.hid (show (z.map (Value.int .i64)).length = 16 by rw [List.length_map, hf.1])
  have HBE := Lib.hid hbe
  clear hb hr hw hf hh k1 hbe
  go_enter Tryd.func34, Tryd.ntmps34
  cases b with
  | false =>
    go_wp2_with (refine wpList_load_mid rfl 78 (.tmp 5) rfl w.heap.size 16 rfl (rest.map (Value.int .i64)) _ (K1.out.range33 (by have := HZ.out; rwa [List.length_map] at this)) Tryd.underlying78 rfl (by rw [HR.out]; exact T62.info) ?_)
    go_ret
    exact ⟨rfl, HBE.out⟩
  | true =>
    go_wp2_with (first | (refine wpList_load_mid rfl 78 (.tmp 5) rfl w.heap.size 16 rfl (rest.map (Value.int .i64)) _ (K1.out.range33 (by have := HZ.out; rwa [List.length_map] at this)) Tryd.underlying78 rfl (by rw [HR.out]; exact T62.info) ?_) | (refine BigFrame.wpList_want (by rfl) (fun K hK => wp_load_mid 63 (.tmp 10) rfl w.heap.size 0 rfl (z.map (Value.int .i64)) _ K1.out.range16 Tryd.underlying63 rfl (by rw [HZ.out]; exact Tst.info) (hK _ _ ?_))))
    refine (ended_any z words _ hs _ (HH.out.below HBE.out (Nat.le_refl _) |>.more HBE.out.size) h3 HF.out).mono ?_
    rintro e w1 ⟨rfl, hb1⟩
    have HB1 := Lib.hid (HBE.out.trans (hb1.mono HBE.out.size))
    clear hb1
    go_wp2_with fail
    go_ret
    exact ⟨by rw [Bool.true_and]; rfl, HB1.out⟩
end Go.Proofs.YthpnnmkpbkbanaaDoor
