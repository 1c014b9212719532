/-
  Package dekker: Words, and At of what is no hand; the reference's step by any hand.
-/
import Derived.Test.YtjldbgecfongfaaDoorDekFact0
import Derived.Test.YtjldbgecfongfaaDoorDekRefA
import Derived.Test.YtjldbgecfongfaaDoorDekRefB
import Derived.StillTailTactics
namespace Go.Proofs.YtjldbgecfongfaaDoor
open Go.RowKit

theorem words_any (s : List Int) (hs : s ∈ pall) (g : Nat) (w : World) (hk : Lk w g s) :
    Calls Tryd.prog 12 #[.pointer (some ⟨g, 0, none⟩)] w fun e w' => ∃ v, e = .returned v ∧ Nums w' w'.heap.size v (s.take 3) ∧ Below w.heap.size w w' := by
  obtain ⟨f0, f1, t, a0, a1, rfl, -⟩ := pall_parts hs
  obtain ⟨c0, c1, c2, c3, c4⟩ := hk.cells
  clear hs hk
  go_enter Tryd.func12, Tryd.ntmps12
  go_wp2_with fail
  go_still_tail 14, (by kernel_rfl)
  change wpList _ _ _ _ _ w.drew
  go_wp2
  go_ret
  have hB : Block (w.drew.alloc (.cells #[.int .i64 f0, .int .i64 f1, .int .i64 t] 3)) w.heap.size 3 #[.int .i64 f0, .int .i64 f1, .int .i64 t] := Block.made w.drew _ _
  refine ⟨_, rfl, ⟨_, _, rfl, by simp, fun _ => ⟨_, 0, rfl, hB.lt, fun i z hz => ?_⟩⟩, (Below.refl w.heap.size w).drew.alloc (Nat.le_refl _) _⟩
  match i, hz with
  | 0, hz => simp at hz; subst hz; exact hB.cell 0
  | 1, hz => simp at hz; subst hz; exact hB.cell 1
  | 2, hz => simp at hz; subst hz; exact hB.cell 2

theorem at_none (g : Nat) (w : World) (q : Int) (hq : ¬ (0 ≤ q ∧ q < 2)) :
    Calls Tryd.prog 13 #[.pointer (some ⟨g, 0, none⟩), .int .i64 q] w fun e w' => e = .returned (.int .i64 0) ∧ w = w' := by
  have HI := Lib.hid (show ∀ w, Calls Tryd.prog 18 #[.int .i64 q] w fun e w' => e = .returned (.bool false) ∧ w = w' from fun w => by rw [← decide_eq_false hq]; exact isHand_any q w)
  clear hq
  go_enter Tryd.func13, Tryd.ntmps13
  go_wp2_with (go_at_call 18; refine (HI.out _).mono ?_; rintro e w' ⟨rfl, rfl⟩)
  go_ret
  exact ⟨rfl, rfl⟩

theorem refDek_any (s : List Int) (hs : s ∈ pall) (p : Int) (h0 : 0 ≤ p) (h1 : p ≤ 1) (v : Value) (os : List (List Int)) (w : World) {P : Nat → Prop} (hP : ∀ b, P b → b < w.heap.size) (h : Mc w P 2 v (s.take 3) (s.drop 3) os) :
    Calls Tryd.prog 8 #[v, .int .i64 p] w fun e w' => ∃ v', e = .returned v' ∧ Mc w' (New P w w') 2 v' ((pstp s p).take 3) ((pstp s p).drop 3) os ∧ Below w.heap.size w w' := by
  obtain ⟨f0, f1, t, a0, a1, rfl, i1, i2, i3, i4, i5, i6, i7, i8, i9, i10⟩ := pall_parts hs
  obtain rfl | rfl : p = 0 ∨ p = 1 := by omega
  · exact refDek_zero f0 f1 t a0 a1 i3 i4 i5 i6 i7 i8 v os w hP h
  · exact refDek_one f0 f1 t a0 a1 i1 i2 i5 i6 i9 i10 v os w hP h
end Go.Proofs.YtjldbgecfongfaaDoor
