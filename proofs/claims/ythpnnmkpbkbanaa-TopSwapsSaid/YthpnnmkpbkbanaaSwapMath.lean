/-
  What TopSwaps makes of a program: plain mathematics; and its closed fact, reckoned.
-/
import Derived.Test.YthpnnmkpbkbanaaTsoLw
import Derived.Test.YthpnnmkpbkbanaaGrowing
import Derived.Test.YthpnnmkpbkbanaaInts
namespace Go.Proofs.Ythpnnmkpbkbanaa

/-- A line whose load or store is a swap. -/
def swL (l : Ln) : Ln := if l.k = 1 ∨ l.k = 2 then ⟨3, l.r, l.d, l.v⟩ else l
def sw6 (ls : List Ln) : List Ln := (ls.take 6).map swL
def rowsS (hs : List (List Ln)) (k : Nat) : List (List Ln) := (hs.take k).map sw6
theorem swL_no (l : Ln) : (swL l).k ≠ 1 ∧ (swL l).k ≠ 2 := by
  unfold swL
  split
  · exact ⟨by simp, by simp⟩
  · omega
theorem rowsS_no (hs : List (List Ln)) (k : Nat) : ∀ (p : Nat) (l : Ln), l ∈ (rowsS hs k).getD p [] → l.k ≠ 1 ∧ l.k ≠ 2 := by
  intro p l hl
  rw [List.getD_eq_getElem?_getD, rowsS, List.getElem?_map] at hl
  cases h : (hs.take k)[p]? with
  | none => rw [h] at hl; cases hl
  | some ls =>
    rw [h] at hl
    obtain ⟨x, _, rfl⟩ := List.mem_map.1 (show l ∈ (ls.take 6).map swL from hl)
    exact swL_no x
theorem rowsS_succ {hs : List (List Ln)} {k : Nat} {ls : List Ln} (h : hs[k]? = some ls) : rowsS hs (k + 1) = rowsS hs k ++ [sw6 ls] := by rw [rowsS, take_succ_at h, List.map_append]; rfl
theorem sw_succ {ls : List Ln} {j : Nat} {l : Ln} (h : ls[j]? = some l) : (ls.take (j + 1)).map swL = (ls.take j).map swL ++ [swL l] := by rw [take_succ_at h, List.map_append]; rfl
theorem sw6_end {ls : List Ln} {j : Nat} (hj : j = 6 ∨ ls.length ≤ j) (h : j ≤ 6) : (ls.take j).map swL = sw6 ls := by
  rcases hj with rfl | hj
  · rfl
  · rw [sw6, List.take_of_length_le hj, List.take_of_length_le (by omega)]

/-- The program of the closed fact. -/
def oneL : List (List Ln) := [[⟨0, 0, 0, 3⟩, ⟨3, 0, 0, 0⟩]]
theorem one_check : check 1 oneL = 0 := by decide
theorem one_res : scR 1 oneL = [[0, 0, 3]] := by decide +kernel
end Go.Proofs.Ythpnnmkpbkbanaa
