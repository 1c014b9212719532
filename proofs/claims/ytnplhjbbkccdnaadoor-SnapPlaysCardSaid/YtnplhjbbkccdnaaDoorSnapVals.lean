/-
  Package snap: the values of words.
-/
import Derived.Test.YtnplhjbbkccdnaaDoorSnap
import Derived.Handy
import Derived.Deep.DeepCutAuto
import Derived.Deep.CutBlock
namespace Go.Proofs.YtnplhjbbkccdnaaDoor.Snap
open Go.RowKit
theorem Tv.info : (Tryd.prog.info? 66).map (·.size) = some 4 := by kernel_rfl
theorem Tws.info : (Tryd.prog.info? 70).map (·.size) = some 24 := by kernel_rfl
theorem Th.info : (Tryd.prog.info? 72).map (·.size) = some 60 := by kernel_rfl
theorem four {w : World} {g : Nat} {t : TypeId} {z0 z1 z2 z3 : Value} (h : Block w g t #[z0, z1, z2, z3]) (x0 x1 x2 x3 : Value) :
    Block ((((w.setCell ⟨g, 0, none⟩ x0).setCell ⟨g, 1, none⟩ x1).setCell ⟨g, 2, none⟩ x2).setCell ⟨g, 3, none⟩ x3) g t #[x0, x1, x2, x3] := by
  have := (((h.put 0 x0).put 1 x1).put 2 x2).put 3 x3
  simpa using this
set_option maxHeartbeats 2000000 in
theorem values_any {g o : Nat} (w : World) (a b c d : Nat) (h0 : w.cell? ⟨g, o, none⟩ = some (.int .i64 a)) (h1 : w.cell? ⟨g, o + 6, none⟩ = some (.int .i64 b)) (h2 : w.cell? ⟨g, o + 12, none⟩ = some (.int .i64 c)) (h3 : w.cell? ⟨g, o + 18, none⟩ = some (.int .i64 d)) :
    Calls Tryd.prog 36 #[.pointer (some ⟨g, o, none⟩)] w fun e w' => e = .returned (.agg #[.int .i64 a, .int .i64 b, .int .i64 c, .int .i64 d]) ∧ Below w.heap.size w w' := by
  have hg := lt_of_cell h0
  have hg : g < w.heap.size := hg
  obtain ⟨V, hV⟩ : ∃ V, V = (w.alloc (.cells #[.int .i64 0, .int .i64 0, .int .i64 0, .int .i64 0] 66)).alloc (.cells #[.int .i64 0, .int .i64 0, .int .i64 0, .int .i64 0] 66) := ⟨_, rfl⟩
  have hB : Below w.heap.size w V := by rw [hV]; exact ((Below.refl _ _).alloc (Nat.le_refl _) _).alloc (by simp) _
  have k1 : Block V (w.heap.size + 1) 66 #[.int .i64 0, .int .i64 0, .int .i64 0, .int .i64 0] := by
    rw [hV]
    have := Block.made (w.alloc (.cells #[.int .i64 0, .int .i64 0, .int .i64 0, .int .i64 0] 66)) 66 #[.int .i64 0, .int .i64 0, .int .i64 0, .int .i64 0]
    rwa [World.size_alloc] at this
  have k0 : Block V w.heap.size 66 #[.int .i64 0, .int .i64 0, .int .i64 0, .int .i64 0] := by rw [hV]; exact (Block.made _ _ _).alloc _
  have h0 : V.cell? ⟨g, o, none⟩ = some (.int .i64 a) := (hB.cell (p := ⟨g, o, none⟩) hg).trans h0
  have h1 : V.cell? ⟨g, o + 6, none⟩ = some (.int .i64 b) := (hB.cell (p := ⟨g, o + 6, none⟩) hg).trans h1
  have h2 : V.cell? ⟨g, o + 12, none⟩ = some (.int .i64 c) := (hB.cell (p := ⟨g, o + 12, none⟩) hg).trans h2
  have h3 : V.cell? ⟨g, o + 18, none⟩ = some (.int .i64 d) := (hB.cell (p := ⟨g, o + 18, none⟩) hg).trans h3
  have a00 : V.cell? ⟨w.heap.size, 0, none⟩ = some (.int .i64 0) := k0.cell 0
  have b00 : V.frozen? ⟨w.heap.size, 0, none⟩ = false := k0.free 0
  have a01 : V.cell? ⟨w.heap.size, 1, none⟩ = some (.int .i64 0) := k0.cell 1
  have b01 : V.frozen? ⟨w.heap.size, 1, none⟩ = false := k0.free 1
  have a02 : V.cell? ⟨w.heap.size, 2, none⟩ = some (.int .i64 0) := k0.cell 2
  have b02 : V.frozen? ⟨w.heap.size, 2, none⟩ = false := k0.free 2
  have a03 : V.cell? ⟨w.heap.size, 3, none⟩ = some (.int .i64 0) := k0.cell 3
  have b03 : V.frozen? ⟨w.heap.size, 3, none⟩ = false := k0.free 3
  have a10 : V.cell? ⟨w.heap.size + 1, 0, none⟩ = some (.int .i64 0) := k1.cell 0
  have b10 : V.frozen? ⟨w.heap.size + 1, 0, none⟩ = false := k1.free 0
  have a11 : V.cell? ⟨w.heap.size + 1, 1, none⟩ = some (.int .i64 0) := k1.cell 1
  have b11 : V.frozen? ⟨w.heap.size + 1, 1, none⟩ = false := k1.free 1
  have a12 : V.cell? ⟨w.heap.size + 1, 2, none⟩ = some (.int .i64 0) := k1.cell 2
  have b12 : V.frozen? ⟨w.heap.size + 1, 2, none⟩ = false := k1.free 2
  have a13 : V.cell? ⟨w.heap.size + 1, 3, none⟩ = some (.int .i64 0) := k1.cell 3
  have b13 : V.frozen? ⟨w.heap.size + 1, 3, none⟩ = false := k1.free 3
  have hg1 : g ≠ w.heap.size + 1 := by omega
  have HB := Lib.hid hB
  have HV := Lib.hid hV.symm
  have HK0 := Lib.hid k0
  clear hV hB k0 k1
  go_enter Tryd.func36, Tryd.ntmps36
  go_upto_block 0 with fail
  rw [HV.out]
  go_wp2_with fail
  go_rounds 5
  have hB := (HK0.out.far (p := ⟨w.heap.size + 1, 0, none⟩) (by simp) (.int .i64 a)).far (p := ⟨w.heap.size + 1, 1, none⟩) (by simp) (.int .i64 b)
  have hB2 := (hB.far (p := ⟨w.heap.size + 1, 2, none⟩) (by simp) (.int .i64 c)).far (p := ⟨w.heap.size + 1, 3, none⟩) (by simp) (.int .i64 d)
  refine bodyPost_ret (v := .agg #[.int .i64 a, .int .i64 b, .int .i64 c, .int .i64 d]) (results_cell_row rfl _ _ w.heap.size _ _ _ _ rfl (four hB2 _ _ _ _) Tryd.underlying66 rfl Tv.info) rfl ⟨rfl, ?_⟩
  exact ((((((((HB.out.setCell (by simp) _).setCell (by simp) _).setCell (by simp) _).setCell (by simp) _).setCell (by simp) _).setCell (by simp) _).setCell (by simp) _).setCell (by simp) _)
end Go.Proofs.YtnplhjbbkccdnaaDoor.Snap
