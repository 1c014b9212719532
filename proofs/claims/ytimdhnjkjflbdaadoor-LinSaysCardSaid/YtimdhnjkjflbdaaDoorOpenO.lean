/-
  What comes in, opened: a history.
-/
import Derived.Test.YtimdhnjkjflbdaaDoorOpenI
import Derived.Test.YtimdhnjkjflbdaaDoorOpsG
namespace Go.Proofs.YtimdhnjkjflbdaaDoor
open Go.ChangeShapes Go.WideShapes Go.ChangeAt Go.RowKit Go.Deep Go.Joins

section
variable {H : Type} {enc : TypeId × Value → H} {w : World} {base : Nat}
theorem Tcell.op : Tryd.prog.cellsOf 38 = 6 := by kernel_rfl
instance : Inhabited LO := ⟨⟨0, 0, 0, 0, 0, 0⟩⟩
set_option maxRecDepth 100000 in
/-- A slice of ops that came in. -/
theorem ops_in {n : Nat} {v : Value} {y : DataW H × List MemPlace} (h : DataW.trod enc Tryd.prog w base (fun _ => true) true n 22 [v] = some y) : ∃ ls, Ops w w.heap.size v ls := by
  rcases open_slice Tryd.underlying22 h with ⟨hv, _⟩ | ⟨a, len, cap, m, n', D, Pl, hv, _, hl, hcm, hm, _, hx⟩
  · obtain rfl := List.cons.inj hv |>.1
    exact ⟨[], Ops.nil _ _⟩
  · obtain rfl := List.cons.inj hv |>.1
    have hm' : m = cap := by simpa using hm
    have hz : ∀ i, i < len → ∃ l : LO, w.cell? ((a.add (i * 6)).add 0) = some (.int .i64 l.hd) ∧ w.cell? ((a.add (i * 6)).add 1) = some (.int .i64 l.kd) ∧ w.cell? ((a.add (i * 6)).add 2) = some (.int .i64 l.ar) ∧ w.cell? ((a.add (i * 6)).add 3) = some (.int .i64 l.gt) ∧ w.cell? ((a.add (i * 6)).add 4) = some (.int .i64 l.fr) ∧ w.cell? ((a.add (i * 6)).add 5) = some (.int .i64 l.to) := fun i hi => by
      obtain ⟨cs', hc, ht⟩ := hx i (by omega)
      rw [Tcell.op] at hc
      obtain ⟨_, hcl, hcat⟩ := World.cells?_some hc
      obtain ⟨xs, n2, _, _, _, hxl, hf⟩ := DataW.trod_struct Tryd.underlying38 ht
      match cs', hcl with
      | [c0, c1, c2, c3, c4, c5], _ =>
        have hxl6 : xs.length = 6 := hxl
        have f : ∀ (j : Nat) (c : Value), j < 6 → DataW.trod enc Tryd.prog w base (fun _ => true) true n2 3 [c] = xs[j]? → ∃ z : Int, c = .int .i64 z := fun j c hj hd => by
          rw [List.getElem?_eq_getElem (show j < xs.length by omega)] at hd
          obtain ⟨z, e, _, _⟩ := DataW.trod_int Tryd.underlying3 hd
          exact ⟨z, (List.cons.inj e).1⟩
        have t0 : DataW.trod enc Tryd.prog w base (fun _ => true) true n2 3 (([c0, c1, c2, c3, c4, c5].drop 0).take (Tryd.prog.cellsOf 3)) = xs[0]? := hf 0 _ rfl
        rw [Tcell.int] at t0
        have t1 : DataW.trod enc Tryd.prog w base (fun _ => true) true n2 3 (([c0, c1, c2, c3, c4, c5].drop 1).take (Tryd.prog.cellsOf 3)) = xs[1]? := hf 1 _ rfl
        rw [Tcell.int] at t1
        have t2 : DataW.trod enc Tryd.prog w base (fun _ => true) true n2 3 (([c0, c1, c2, c3, c4, c5].drop 2).take (Tryd.prog.cellsOf 3)) = xs[2]? := hf 2 _ rfl
        rw [Tcell.int] at t2
        have t3 : DataW.trod enc Tryd.prog w base (fun _ => true) true n2 3 (([c0, c1, c2, c3, c4, c5].drop 3).take (Tryd.prog.cellsOf 3)) = xs[3]? := hf 3 _ rfl
        rw [Tcell.int] at t3
        have t4 : DataW.trod enc Tryd.prog w base (fun _ => true) true n2 3 (([c0, c1, c2, c3, c4, c5].drop 4).take (Tryd.prog.cellsOf 3)) = xs[4]? := hf 4 _ rfl
        rw [Tcell.int] at t4
        have t5 : DataW.trod enc Tryd.prog w base (fun _ => true) true n2 3 (([c0, c1, c2, c3, c4, c5].drop 5).take (Tryd.prog.cellsOf 3)) = xs[5]? := hf 5 _ rfl
        rw [Tcell.int] at t5
        obtain ⟨z0, rfl⟩ := f 0 c0 (by omega) t0
        obtain ⟨z1, rfl⟩ := f 1 c1 (by omega) t1
        obtain ⟨z2, rfl⟩ := f 2 c2 (by omega) t2
        obtain ⟨z3, rfl⟩ := f 3 c3 (by omega) t3
        obtain ⟨z4, rfl⟩ := f 4 c4 (by omega) t4
        obtain ⟨z5, rfl⟩ := f 5 c5 (by omega) t5
        exact ⟨⟨z0, z1, z2, z3, z4, z5⟩, hcat 0 (by omega), hcat 1 (by omega), hcat 2 (by omega), hcat 3 (by omega), hcat 4 (by omega), hcat 5 (by omega)⟩
    obtain ⟨Z, hZ⟩ := choose_lt hz
    refine ⟨(List.range len).map Z, ⟨some a, cap, by simp, ⟨by simp; omega, by unfold maxLen at hcm; omega⟩, fun h0 => ?_⟩⟩
    have h0' : 0 < len := by simpa using h0
    have p0 := (hZ 0 h0').1
    rw [add_add] at p0
    obtain ⟨b, o, rfl⟩ := plain_of p0
    refine ⟨b, o, rfl, lt_of_cell ((add_at b o 0) ▸ p0), fun i l hi k u hu => ?_⟩
    have hil : i < len := by have := (List.getElem?_eq_some_iff.1 hi).1; simpa using this
    rw [List.getElem?_map, List.getElem?_range hil] at hi
    obtain rfl : Z i = l := Option.some.inj hi
    obtain ⟨a0, a1, a2, a3, a4, a5⟩ := hZ i hil
    simp only [add_at] at a0 a1 a2 a3 a4 a5
    match k, hu with
    | 0, hu => rw [← hu]; exact a0
    | 1, hu => rw [← hu]; exact a1
    | 2, hu => rw [← hu]; exact a2
    | 3, hu => rw [← hu]; exact a3
    | 4, hu => rw [← hu]; exact a4
    | 5, hu => rw [← hu]; exact a5
    | k + 6, hu => simp [LO.cells] at hu
end
end Go.Proofs.YtimdhnjkjflbdaaDoor
