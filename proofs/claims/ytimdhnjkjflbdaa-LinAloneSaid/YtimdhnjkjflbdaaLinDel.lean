/-
  slices.Delete at []int, of the library's contract; a row of one's own that loses one.
-/
import Derived.Shelf.Slices.Delete
import Derived.Sort.OwnSortedInts
import Derived.Test.YtimdhnjkjflbdaaTch
namespace Go.Proofs.Ytimdhnjkjflbdaa.Lin
open Go.Shelf Go.RowKit Go.Lib Go.Sort
def delL_ren : Go.Shelf.Ren := ⟨fun | 23 => 87 | n => n, fun | 0 => 0 | 3 => 3 | 4 => 4 | 22 => 23 | n => n, fun | n => n⟩
theorem delL : Lays2.n23 Try.prog delL_ren := {
  mixed := by kernel_rfl
  f23 := Try.func87.trans (congrArg some (by kernel_rfl))
  t0 := Try.underlying0
  a0 := Try.isAgg0
  z0 := Try.sizeOf0
  v0 := Try.zeroValue0
  t3 := Try.underlying3
  a3 := Try.isAgg3
  z3 := Try.sizeOf3
  v3 := Try.zeroValue3
  t4 := Try.underlying4
  a4 := Try.isAgg4
  z4 := Try.sizeOf4
  v4 := Try.zeroValue4
  t22 := Try.underlying23
  a22 := Try.isAgg23
  z22 := Try.sizeOf23
  v22 := Try.zeroValue23
  i3 := by kernel_rfl }
theorem grow_none (w : World) : grow w #[] = w := by unfold grow; simp
/-- One is taken out of a row of one's own, in place. -/
theorem delete_any {base g cap i : Nat} {l : List Int} (w : World) (h : w.ownsRow base 3 1 (.slice (some ⟨g, 0, none⟩) l.length cap) l.length (l.map (Value.int .i64))) (hi : i < l.length) :
    Calls Try.prog 87 #[.slice (some ⟨g, 0, none⟩) l.length cap, .int .i64 i, .int .i64 (i + 1 : Nat)] w fun e w' =>
      e = .returned (.slice (some ⟨g, 0, none⟩) (l.length - 1) cap) ∧ w'.ownsRow base 3 1 (.slice (some ⟨g, 0, none⟩) (l.length - 1) cap) (l.length - 1) ((l.eraseIdx i).map (Value.int .i64)) ∧ Touch (fun k => k = g) w w' := by
  rcases h.2 with ⟨e, _⟩ | ⟨g', cap', cur, hv, hg, hb, h1, h2, h3, h4⟩
  · cases e
  cases hv
  have h2' : cap ≤ 9223372036854775807 := by unfold maxLen at h2; omega
  rw [Nat.mul_one] at h4 h3
  have hH := holds_of_blockI hb h4
  refine (Any.slices_Delete_int delL g 0 cap i (i + 1) l w hH h1 h2' (by omega) (by omega)).mono ?_
  rintro e w' ⟨rfl, q, rfl⟩
  have hlt : l.length = (l.take i ++ l.drop (i + 1) ++ List.replicate (i + 1 - i) 0).length := by simp; omega
  have hhp := heap_sortedI (n := q) (os := #[]) (l.take i ++ l.drop (i + 1) ++ List.replicate (i + 1 - i) 0).toArray hb
  have hgr := grownBy_sortedI (w := w) (g := g) (n := q) (os := #[]) (l.take i ++ l.drop (i + 1) ++ List.replicate (i + 1 - i) 0).toArray
  rw [grow_none] at hhp hgr
  refine ⟨by rw [show l.length - (i + 1 - i) = l.length - 1 by omega], ⟨by rw [List.length_map, List.length_eraseIdx, if_pos hi]; omega, .inr ⟨g, cap, _, rfl, hg, hhp, by omega, h2, ?_, ?_⟩⟩, (Touch.refl _ w).grown hgr fun k hk => Or.inl (Option.some.inj hk).symm⟩
  · simp [putCells, h3]
  · have ht := take_putCellsI cur (l.take i ++ l.drop (i + 1) ++ List.replicate (i + 1 - i) 0) (by rw [← hlt, h3]; exact h1)
    rw [← hlt] at ht
    have h5 : ((putCells (Value.int .i64) 0 (l.take i ++ l.drop (i + 1) ++ List.replicate (i + 1 - i) 0).toArray cur).toList.take l.length).take (l.length - 1) = ((l.take i ++ l.drop (i + 1) ++ List.replicate (i + 1 - i) 0).map (Value.int .i64)).take (l.length - 1) := by rw [ht]
    rw [List.take_take, Nat.min_eq_left (by omega)] at h5
    rw [Nat.mul_one, h5, ← List.map_take]
    congr 1
    rw [List.take_append_of_le_length (by simp; omega), List.take_of_length_le (by simp; omega), ← List.eraseIdx_eq_take_drop_succ]
end Go.Proofs.Ytimdhnjkjflbdaa.Lin
