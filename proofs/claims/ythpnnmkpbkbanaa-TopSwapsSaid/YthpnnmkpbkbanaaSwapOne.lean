/-
  The program of TopSwaps's closed fact, as it is laid.
-/
import Derived.Test.YthpnnmkpbkbanaaSwapMath
import Derived.Test.YthpnnmkpbkbanaaResults
namespace Go.Proofs.Ythpnnmkpbkbanaa
open Go.RowKit

theorem one_hands (w : World) (o1 o2 : Obj) (w' : World) (e : w' = (((w.alloc o1).alloc (.cells #[.int .i64 0, .int .i64 0, .int .i64 0, .int .i64 3, .int .i64 3, .int .i64 0, .int .i64 0, .int .i64 0] 26)).alloc (.cells #[.slice (some ⟨w.heap.size + 1, 0, none⟩) 2 2] 27)).alloc o2) :
    Hands w' w'.heap.size (.slice (some ⟨w.heap.size + 1 + 1, 0, none⟩) 1 1) oneL := by
  subst e
  have kL := ((Block.made (w.alloc o1) 26 #[.int .i64 0, .int .i64 0, .int .i64 0, .int .i64 3, .int .i64 3, .int .i64 0, .int .i64 0, .int .i64 0]).alloc (.cells #[.slice (some ⟨w.heap.size + 1, 0, none⟩) 2 2] 27)).alloc o2
  have kH := (Block.made ((w.alloc o1).alloc (.cells #[.int .i64 0, .int .i64 0, .int .i64 0, .int .i64 3, .int .i64 3, .int .i64 0, .int .i64 0, .int .i64 0] 26)) 27 #[.slice (some ⟨w.heap.size + 1, 0, none⟩) 2 2]).alloc o2
  rw [show (w.alloc o1).heap.size = w.heap.size + 1 by simp] at kL
  rw [show ((w.alloc o1).alloc (.cells #[.int .i64 0, .int .i64 0, .int .i64 0, .int .i64 3, .int .i64 3, .int .i64 0, .int .i64 0, .int .i64 0] 26)).heap.size = w.heap.size + 1 + 1 by simp] at kH
  refine ⟨_, _, rfl, by simp [oneL], fun _ => ⟨_, _, rfl, kH.lt, fun i l hl => ?_⟩⟩
  match i, hl with
  | 0, hl =>
    simp [oneL] at hl
    subst hl
    refine ⟨_, kH.cell 0, ⟨_, _, rfl, by simp, fun _ => ⟨_, _, rfl, kL.lt, fun i l hl => ?_⟩⟩⟩
    match i, hl with
    | 0, hl => simp at hl; subst hl; exact ⟨kL.cell 0, kL.cell 1, kL.cell 2, kL.cell 3⟩
    | 1, hl => simp at hl; subst hl; exact ⟨kL.cell 4, kL.cell 5, kL.cell 6, kL.cell 7⟩
theorem one_resL : resL 1 oneL = [[0, 0, 3]] := by rw [resL, if_pos one_check, one_res]
end Go.Proofs.Ythpnnmkpbkbanaa
