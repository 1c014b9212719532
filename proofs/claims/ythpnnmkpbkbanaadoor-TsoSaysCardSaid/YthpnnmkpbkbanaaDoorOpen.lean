/-
  What comes in, opened: a slice of numbers, a slice of lines, a slice of hands, a program; the row's last step.
-/
import Derived.Test.YthpnnmkpbkbanaaDoorBase
import Derived.Test.YthpnnmkpbkbanaaDoorChecked
import Derived.ProofKit
import Derived.OpenShut
import Derived.Deep.Slices
import Derived.Deep.Fields
import Derived.Lib.SmallJoins
import Derived.Carry
namespace Go.Proofs.YthpnnmkpbkbanaaDoor
open Go.ChangeShapes Go.WideShapes Go.ChangeAt Go.RowKit Go.Deep Go.Joins

theorem Tlaid : laidOutB Tryd.prog = true := by kernel_rfl

section
variable {H : Type} {enc : TypeId × Value → H} {w : World} {base : Nat}

theorem plain_of {a : Addr} {v : Value} (h : w.cell? (a.add 0) = some v) : ∃ b o, a = ⟨b, o, none⟩ := by
  obtain ⟨b, o, s⟩ := a
  have hs : s = none := by simpa [Addr.add] using World.cell?_spot h
  exact ⟨b, o, by rw [hs]⟩
theorem add_at (b o i : Nat) : (⟨b, o, none⟩ : Addr).add i = ⟨b, o + i, none⟩ := by
  unfold Addr.add
  by_cases h : i = 0 <;> simp [h]

theorem Tcell.int : Tryd.prog.cellsOf 3 = 1 := by kernel_rfl
/-- A slice of numbers that came in. -/
theorem nums_in {n : Nat} {v : Value} {y : DataW H × List MemPlace} (h : DataW.trod enc Tryd.prog w base (fun _ => true) true n 47 [v] = some y) : ∃ zs, Nums w w.heap.size v zs ∧ ∀ z ∈ zs, (Lit.int .i64 z).wf = true := by
  rcases open_slice1 Tryd.underlying47 Tcell.int h with ⟨hv, _⟩ | ⟨a, len, cap, m, n', V, D, Pl, hv, _, hl, hcm, hm, _, hx⟩
  · obtain rfl := List.cons.inj hv |>.1
    exact ⟨[], ⟨none, 0, rfl, by simp, fun h => by simp at h⟩, by simp⟩
  · obtain rfl := List.cons.inj hv |>.1
    have hm' : m = cap := by simpa using hm
    have hz : ∀ i, i < len → ∃ z : Int, V i = .int .i64 z ∧ (Lit.int .i64 z).wf = true := fun i hi => by
      obtain ⟨_, ht⟩ := hx i (by omega)
      obtain ⟨z, e, _, hw⟩ := DataW.trod_int Tryd.underlying3 ht
      exact ⟨z, (List.cons.inj e).1, hw⟩
    obtain ⟨Z, hZ⟩ := choose_lt hz
    refine ⟨(List.range len).map Z, ⟨some a, cap, by simp, by simp; unfold maxLen at hcm; omega, fun h0 => ?_⟩, fun z hzm => ?_⟩
    · have h0' : 0 < len := by simpa using h0
      obtain ⟨b, o, rfl⟩ := plain_of (hx 0 (by omega)).1
      refine ⟨b, o, rfl, lt_of_cell ((add_at b o 0) ▸ (hx 0 (by omega)).1), fun i z hi => ?_⟩
      have hil : i < len := by have := (List.getElem?_eq_some_iff.1 hi).1; simpa using this
      rw [List.getElem?_map, List.getElem?_range hil] at hi
      rw [← add_at, (hx i (by omega)).1, (hZ i hil).1]
      exact congrArg (fun z => some (Value.int .i64 z)) (Option.some.inj hi)
    · obtain ⟨i, hi, rfl⟩ := List.mem_map.1 hzm
      exact (hZ i (List.mem_range.1 hi)).2

theorem Tcell.line : Tryd.prog.cellsOf 40 = 4 := by kernel_rfl
instance : Inhabited Ln := ⟨⟨0, 0, 0, 0⟩⟩
set_option maxRecDepth 100000 in
/-- A slice of lines that came in. -/
theorem lines_in {n : Nat} {v : Value} {y : DataW H × List MemPlace} (h : DataW.trod enc Tryd.prog w base (fun _ => true) true n 38 [v] = some y) : ∃ ls, Lines w w.heap.size v ls := by
  rcases open_slice Tryd.underlying38 h with ⟨hv, _⟩ | ⟨a, len, cap, m, n', D, Pl, hv, _, hl, hcm, hm, _, hx⟩
  · obtain rfl := List.cons.inj hv |>.1
    exact ⟨[], ⟨none, 0, rfl, by simp, fun h => by simp at h⟩⟩
  · obtain rfl := List.cons.inj hv |>.1
    have hm' : m = cap := by simpa using hm
    have hz : ∀ i, i < len → ∃ l : Ln, w.cell? ((a.add (i * 4)).add 0) = some (.int .i64 l.k) ∧ w.cell? ((a.add (i * 4)).add 1) = some (.int .i64 l.r) ∧ w.cell? ((a.add (i * 4)).add 2) = some (.int .i64 l.d) ∧ w.cell? ((a.add (i * 4)).add 3) = some (.int .i64 l.v) := fun i hi => by
      obtain ⟨cs', hc, ht⟩ := hx i (by omega)
      rw [Tcell.line] at hc
      obtain ⟨_, hcl, hcat⟩ := World.cells?_some hc
      obtain ⟨xs, n2, _, _, _, hxl, hf⟩ := DataW.trod_struct Tryd.underlying40 ht
      match cs', hcl with
      | [c0, c1, c2, c3], _ =>
        have hxl4 : xs.length = 4 := hxl
        have f : ∀ (j : Nat) (c : Value), j < 4 → DataW.trod enc Tryd.prog w base (fun _ => true) true n2 3 [c] = xs[j]? → ∃ z : Int, c = .int .i64 z := fun j c hj hd => by
          rw [List.getElem?_eq_getElem (show j < xs.length by omega)] at hd
          obtain ⟨z, e, _, _⟩ := DataW.trod_int Tryd.underlying3 hd
          exact ⟨z, (List.cons.inj e).1⟩
        have t0 : DataW.trod enc Tryd.prog w base (fun _ => true) true n2 3 (([c0, c1, c2, c3].drop 0).take (Tryd.prog.cellsOf 3)) = xs[0]? := hf 0 _ rfl
        rw [Tcell.int] at t0
        have t1 : DataW.trod enc Tryd.prog w base (fun _ => true) true n2 3 (([c0, c1, c2, c3].drop 1).take (Tryd.prog.cellsOf 3)) = xs[1]? := hf 1 _ rfl
        rw [Tcell.int] at t1
        have t2 : DataW.trod enc Tryd.prog w base (fun _ => true) true n2 3 (([c0, c1, c2, c3].drop 2).take (Tryd.prog.cellsOf 3)) = xs[2]? := hf 2 _ rfl
        rw [Tcell.int] at t2
        have t3 : DataW.trod enc Tryd.prog w base (fun _ => true) true n2 3 (([c0, c1, c2, c3].drop 3).take (Tryd.prog.cellsOf 3)) = xs[3]? := hf 3 _ rfl
        rw [Tcell.int] at t3
        obtain ⟨z0, rfl⟩ := f 0 c0 (by omega) t0
        obtain ⟨z1, rfl⟩ := f 1 c1 (by omega) t1
        obtain ⟨z2, rfl⟩ := f 2 c2 (by omega) t2
        obtain ⟨z3, rfl⟩ := f 3 c3 (by omega) t3
        exact ⟨⟨z0, z1, z2, z3⟩, hcat 0 (by omega), hcat 1 (by omega), hcat 2 (by omega), hcat 3 (by omega)⟩
    obtain ⟨Z, hZ⟩ := choose_lt hz
    refine ⟨(List.range len).map Z, ⟨some a, cap, by simp, by simp; unfold maxLen at hcm; omega, fun h0 => ?_⟩⟩
    have h0' : 0 < len := by simpa using h0
    have p0 := (hZ 0 h0').1
    rw [add_add] at p0
    obtain ⟨b, o, rfl⟩ := plain_of p0
    refine ⟨b, o, rfl, lt_of_cell ((add_at b o 0) ▸ p0), fun i l hi => ?_⟩
    have hil : i < len := by have := (List.getElem?_eq_some_iff.1 hi).1; simpa using this
    rw [List.getElem?_map, List.getElem?_range hil] at hi
    obtain rfl : Z i = l := Option.some.inj hi
    obtain ⟨a0, a1, a2, a3⟩ := hZ i hil
    simp only [add_at] at a0 a1 a2 a3
    exact ⟨a0, a1, a2, a3⟩

theorem Tcell.hand : Tryd.prog.cellsOf 38 = 1 := by kernel_rfl
/-- A slice of hands that came in. -/
theorem hands_in {n : Nat} {v : Value} {y : DataW H × List MemPlace} (h : DataW.trod enc Tryd.prog w base (fun _ => true) true n 22 [v] = some y) : ∃ hs, Hands w w.heap.size v hs := by
  rcases open_slice1 Tryd.underlying22 Tcell.hand h with ⟨hv, _⟩ | ⟨a, len, cap, m, n', V, D, Pl, hv, _, hl, hcm, hm, _, hx⟩
  · obtain rfl := List.cons.inj hv |>.1
    exact ⟨[], ⟨none, 0, rfl, by simp, fun h => by simp at h⟩⟩
  · obtain rfl := List.cons.inj hv |>.1
    have hm' : m = cap := by simpa using hm
    have hz : ∀ i, i < len → ∃ ls : List Ln, Lines w w.heap.size (V i) ls := fun i hi => lines_in (hx i (by omega)).2
    obtain ⟨Z, hZ⟩ := choose_lt hz
    refine ⟨(List.range len).map Z, ⟨some a, cap, by simp, by simp; unfold maxLen at hcm; omega, fun h0 => ?_⟩⟩
    have h0' : 0 < len := by simpa using h0
    obtain ⟨b, o, rfl⟩ := plain_of (hx 0 (by omega)).1
    refine ⟨b, o, rfl, lt_of_cell ((add_at b o 0) ▸ (hx 0 (by omega)).1), fun i l hi => ?_⟩
    have hil : i < len := by have := (List.getElem?_eq_some_iff.1 hi).1; simpa using this
    rw [List.getElem?_map, List.getElem?_range hil] at hi
    obtain rfl : Z i = l := Option.some.inj hi
    exact ⟨V i, by rw [← add_at]; exact (hx i (by omega)).1, hZ i hil⟩

theorem Tcell.prog : Tryd.prog.cellsOf 24 = 2 := by kernel_rfl
set_option maxRecDepth 100000 in
/-- A program that came in. -/
theorem prog_in {r : Reach} {b0 : Nat} {v : Value} {d : DataW H} {p : List MemPlace} (hv : Value.okWide Tryd.prog w r b0 24 v) (h : DataW.Trod enc Tryd.prog w base (fun _ => true) true 24 v d p) :
    ∃ words hv hs, v = .agg #[.int .i64 words, hv] ∧ Hands w w.heap.size hv hs := by
  obtain ⟨v0, v1, y0, y1, n, rfl, _, _, h0, h1⟩ := open_agg2 Tryd.underlying24 (by kernel_rfl) Tcell.prog hv h
  obtain ⟨z, e, _, _⟩ := DataW.trod_int Tryd.underlying3 h0
  obtain ⟨hs, hh⟩ := hands_in h1
  exact ⟨z, v1, hs, by rw [(List.cons.inj e).1], hh⟩
end
end Go.Proofs.YthpnnmkpbkbanaaDoor
