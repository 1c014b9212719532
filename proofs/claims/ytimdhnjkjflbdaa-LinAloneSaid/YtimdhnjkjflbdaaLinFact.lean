/-
  The law's swapped and linFact.
-/
import Derived.Test.YtimdhnjkjflbdaaLinRow
import Derived.Test.YtimdhnjkjflbdaaInts
namespace Go.Proofs.Ytimdhnjkjflbdaa.Lin
open Go.RowKit

/-- Two are put in, the second one is got first. -/
def hsw : List LO := [⟨0, 0, 1, -1, 0, 1⟩, ⟨0, 0, 2, -1, 1, 2⟩, ⟨1, 1, 0, 2, 3, 4⟩]
theorem ops_made (w : World) (h : List LO) (n : Nat) (hn : n = h.length) (hl : h.length ≤ 1000) (cs : Array Value) (hc : cs.toList = lcells h) (c : Nat) (hcn : h.length ≤ c ∧ c ≤ 9223372036854775807) : Ops (w.alloc (.cells cs 34)) (w.alloc (.cells cs 34)).heap.size (.slice (some ⟨w.heap.size, 0, none⟩) n c) h := by
  subst hn
  have _ := hl
  refine ⟨_, c, rfl, hcn, fun _ => ⟨w.heap.size, 0, rfl, by simp, fun i l hi k u hu => ?_⟩⟩
  have hB := Block.made w 34 cs
  have hk : k < 6 := (List.getElem?_eq_some_iff.1 hu).1
  rw [hB.cell, Nat.zero_add, ← Array.getElem?_toList, hc, lcells_get hi hk]
  exact hu
set_option maxHeartbeats 4000000 in
theorem swapped_any (w : World) : Calls Try.prog 45 #[] w fun e w' => (∃ u, e = .returned u ∧ Ops w' w'.heap.size u hsw) ∧ Below w.heap.size w w' := by
  have HO := Lib.hid (ops_made w hsw 3 rfl (by decide) _ rfl 3 (by decide))
  go_enter Try.func45, Try.ntmps45
  go_wp2
  go_ret
  exact ⟨⟨_, rfl, HO.out⟩, (Below.refl _ _).alloc (Nat.le_refl _) _⟩
theorem nums_made (W : World) (zs : List Int) (n : Nat) (hn : n = zs.length) (hl : zs.length ≤ 1000) (cs : Array Value) (hc : cs.toList = zs.map (Value.int .i64)) (c : Nat) : Nums (W.alloc (.cells cs 3)) (W.alloc (.cells cs 3)).heap.size (.slice (some ⟨W.heap.size, 0, none⟩) n c) zs := by
  subst hn
  refine ⟨_, c, rfl, by omega, fun _ => ⟨W.heap.size, 0, rfl, by simp, fun i z hz => ?_⟩⟩
  have hB := Block.made W 3 cs
  rw [hB.cell, Nat.zero_add, ← Array.getElem?_toList, hc, List.getElem?_map, hz]
  rfl
theorem ints_three (u : Value) (zs : List Int) (W : World) (h : Nums W W.heap.size u zs) :
    Calls Try.prog 10 #[u, .slice (some ⟨W.heap.size, 0, none⟩) 3 3] (W.alloc (.cells #[.int .i64 0, .int .i64 1, .int .i64 2] 3)) fun e w' => e = .returned (.bool (decide (zs = [0, 1, 2]))) ∧ ∃ n, w' = (W.alloc (.cells #[.int .i64 0, .int .i64 1, .int .i64 2] 3)).drewN n :=
  ints_any zs [0, 1, 2] _ _ _ _ _ (h.below ((Below.refl _ W).alloc (Nat.le_refl _) _) (Nat.le_refl _)) (nums_made W [0, 1, 2] 3 rfl (by decide) _ rfl 3)
theorem lans_queue : lans 2 hsw = none := by decide +kernel
theorem lans_stack : lans 1 hsw = some [0, 1, 2] := by decide +kernel
theorem lchk_queue : lchk 2 hsw = 0 := by decide +kernel
theorem lchk_stack : lchk 1 hsw = 0 := by decide +kernel
set_option maxHeartbeats 4000000 in
theorem linFact_any (w : World) : Calls Try.prog 26 #[] w fun e w' => e = .returned (.bool true) ∧ Below w.heap.size w w' := by
  have HS := Lib.hid swapped_any
  have HQ := Lib.hid (fun (v : Value) (W : World) (h : Ops W W.heap.size v hsw) => row_any 2 hsw v W h)
  have HT := Lib.hid (fun (v : Value) (W : World) (h : Ops W W.heap.size v hsw) => row_any 1 hsw v W h)
  have HI := Lib.hid (fun (u : Value) (W : World) (h : Nums W W.heap.size u [0, 1, 2]) => ints_three u [0, 1, 2] W h)
  rw [show decide (([0, 1, 2] : List Int) = [0, 1, 2]) = true from by decide] at HI
  rw [lans_queue, lchk_queue, show (none : Option (List Nat)).isSome = false from rfl, show errV 55 ((0 : Nat) : Int) = .nilIface from rfl] at HQ
  rw [lans_stack, lchk_stack, show (some [0, 1, 2] : Option (List Nat)).isSome = true from rfl, show errV 55 ((0 : Nat) : Int) = .nilIface from rfl, show lrowI 1 hsw = [0, 1, 2] from by rw [lrowI_some lans_stack]; rfl] at HT
  go_enter Try.func26, Try.ntmps26
  go_upto_region 2 with (first | (go_at_call 45; (with_reducible refine (HS.out _).mono ?_); rintro e w1 ⟨⟨u1, rfl, ho1⟩, hb1⟩; have HO1 := Lib.hid ho1; have HB1 := Lib.hid hb1; clear ho1 hb1) | (go_at_call 27; (with_reducible refine (HQ.out _ _ HO1.out).mono ?_); rintro e w2 ⟨⟨u2, rfl, -⟩, hb2⟩; have HB2 := Lib.hid (HB1.out.trans (hb2.mono HB1.out.size)); clear hb2))
  go_wp2_with (first | (go_at_call 45; (with_reducible refine (HS.out _).mono ?_); rintro e w3 ⟨⟨u3, rfl, ho3⟩, hb3⟩; have HO3 := Lib.hid ho3; have HB3 := Lib.hid (HB2.out.trans (hb3.mono HB2.out.size)); clear ho3 hb3) | (go_at_call 27; (with_reducible refine (HT.out _ _ HO3.out).mono ?_); rintro e w4 ⟨⟨u4, rfl, hn4⟩, hb4⟩; have HN4 := Lib.hid hn4; have HB4 := Lib.hid (HB3.out.trans (hb4.mono HB3.out.size)); clear hn4 hb4) | (go_at_call 10; (with_reducible refine (HI.out _ _ HN4.out).mono ?_); rintro e w5 ⟨rfl, n5, rfl⟩))
  go_ret
  exact ⟨rfl, below_drewN (HB4.out.alloc HB4.out.size _) _⟩
end Go.Proofs.Ytimdhnjkjflbdaa.Lin
