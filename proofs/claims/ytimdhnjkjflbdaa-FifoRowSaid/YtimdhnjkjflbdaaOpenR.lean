/-
  What comes in, opened: a slice of lists of numbers.
-/
import Derived.Test.YtimdhnjkjflbdaaOpenI
import Derived.Test.YtimdhnjkjflbdaaRws
namespace Go.Proofs.Ytimdhnjkjflbdaa
open Go.ChangeShapes Go.WideShapes Go.ChangeAt Go.RowKit Go.Deep Go.Joins

section
variable {H : Type} {enc : TypeId × Value → H} {w : World} {base : Nat}
theorem Tcell.ints : Try.prog.cellsOf 23 = 1 := by kernel_rfl
/-- A slice of lists of numbers that came in. -/
theorem rws_in {n : Nat} {v : Value} {y : DataW H × List MemPlace} (h : DataW.trod enc Try.prog w base (fun _ => true) true n 22 [v] = some y) : ∃ hs, Rws w w.heap.size v hs := by
  rcases open_slice1 Try.underlying22 Tcell.ints h with ⟨hv, _⟩ | ⟨a, len, cap, m, n', V, D, Pl, hv, _, hl, hcm, hm, _, hx⟩
  · obtain rfl := List.cons.inj hv |>.1
    exact ⟨[], ⟨none, 0, rfl, by simp, fun h => by simp at h⟩⟩
  · obtain rfl := List.cons.inj hv |>.1
    have hm' : m = cap := by simpa using hm
    have hz : ∀ i, i < len → ∃ ls : List Int, Nums w w.heap.size (V i) ls := fun i hi => by
      obtain ⟨zs, h1, _⟩ := nums_in (hx i (by omega)).2
      exact ⟨zs, h1⟩
    obtain ⟨Z, hZ⟩ := choose_lt hz
    refine ⟨(List.range len).map Z, ⟨some a, cap, by simp, by simp; unfold maxLen at hcm; omega, fun h0 => ?_⟩⟩
    have h0' : 0 < len := by simpa using h0
    obtain ⟨b, o, rfl⟩ := plain_of (hx 0 (by omega)).1
    refine ⟨b, o, rfl, lt_of_cell ((add_at b o 0) ▸ (hx 0 (by omega)).1), fun i l hi => ?_⟩
    have hil : i < len := by have := (List.getElem?_eq_some_iff.1 hi).1; simpa using this
    rw [List.getElem?_map, List.getElem?_range hil] at hi
    obtain rfl : Z i = l := Option.some.inj hi
    exact ⟨V i, by rw [← add_at]; exact (hx i (by omega)).1, hZ i hil⟩
end
end Go.Proofs.Ytimdhnjkjflbdaa
