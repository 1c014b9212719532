/-
  What comes in, opened: a slice of numbers.
-/
import Derived.Test.YtimdhnjkjflbdaaBase
import Derived.Test.YtimdhnjkjflbdaaChecked
import Derived.ProofKit
import Derived.OpenShut
import Derived.Deep.Slices
import Derived.Deep.Fields
import Derived.Lib.SmallJoins
import Derived.Carry
namespace Go.Proofs.Ytimdhnjkjflbdaa
open Go.ChangeShapes Go.WideShapes Go.ChangeAt Go.RowKit Go.Deep Go.Joins

theorem Tlaid : laidOutB Try.prog = true := by kernel_rfl

section
variable {H : Type} {enc : TypeId × Value → H} {w : World} {base : Nat}

theorem plain_of {a : Addr} {v : Value} (h : w.cell? (a.add 0) = some v) : ∃ b o, a = ⟨b, o, none⟩ := by
  obtain ⟨b, o, s⟩ := a
  have hs : s = none := by simpa [Addr.add] using World.cell?_spot h
  exact ⟨b, o, by rw [hs]⟩
theorem add_at (b o i : Nat) : (⟨b, o, none⟩ : Addr).add i = ⟨b, o + i, none⟩ := by
  unfold Addr.add
  by_cases h : i = 0 <;> simp [h]

theorem Tcell.int : Try.prog.cellsOf 3 = 1 := by kernel_rfl
/-- A slice of numbers that came in. -/
theorem nums_in {n : Nat} {v : Value} {y : DataW H × List MemPlace} (h : DataW.trod enc Try.prog w base (fun _ => true) true n 23 [v] = some y) : ∃ zs, Nums w w.heap.size v zs ∧ ∀ z ∈ zs, (Lit.int .i64 z).wf = true := by
  rcases open_slice1 Try.underlying23 Tcell.int h with ⟨hv, _⟩ | ⟨a, len, cap, m, n', V, D, Pl, hv, _, hl, hcm, hm, _, hx⟩
  · obtain rfl := List.cons.inj hv |>.1
    exact ⟨[], ⟨none, 0, rfl, by simp, fun h => by simp at h⟩, by simp⟩
  · obtain rfl := List.cons.inj hv |>.1
    have hm' : m = cap := by simpa using hm
    have hz : ∀ i, i < len → ∃ z : Int, V i = .int .i64 z ∧ (Lit.int .i64 z).wf = true := fun i hi => by
      obtain ⟨_, ht⟩ := hx i (by omega)
      obtain ⟨z, e, _, hw⟩ := DataW.trod_int Try.underlying3 ht
      exact ⟨z, (List.cons.inj e).1, hw⟩
    obtain ⟨Z, hZ⟩ := choose_lt hz
    refine ⟨(List.range len).map Z, ⟨some a, cap, by simp, by simp; unfold maxLen at hcm; omega, fun h0 => ?_⟩, fun z hzm => ?_⟩
    · have h0' : 0 < len := by simpa using h0
      obtain ⟨b, o, rfl⟩ := plain_of (hx 0 (by omega)).1
      refine ⟨b, o, rfl, lt_of_cell ((add_at b o 0) ▸ (hx 0 (by omega)).1), fun i z hi => ?_⟩
      have hil : i < len := by have := (List.getElem?_eq_some_iff.1 hi).1; simpa using this
      rw [List.getElem?_map, List.getElem?_range hil] at hi
      rw [← add_at, (hx i (by omega)).1, (hZ i hil).1]
      exact congrArg (fun z => some (Value.int .i64 z)) (Option.some.inj hi)
    · obtain ⟨i, hi, rfl⟩ := List.mem_map.1 hzm
      exact (hZ i (List.mem_range.1 hi)).2

end
end Go.Proofs.Ytimdhnjkjflbdaa
