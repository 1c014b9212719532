/-
  The reference's machine of the grid, new.
-/
import Derived.Test.YthainkgpafbjcaaDoorMachAt
import Derived.Test.YthainkgpafbjcaaDoorSplitRef3
namespace Go.Proofs.YthainkgpafbjcaaDoor.Split
open Go.RowKit

theorem mkOwns_done (n : Nat) : List.replicate n (List.replicate 2 (0 : Int)) = lkOwns n (lkNew n) := by
  apply List.ext_getElem?
  intro i
  by_cases hi : i < n
  · rw [lkOwns, range_get _ hi, List.getElem?_replicate, if_pos hi]; rfl
  · rw [List.getElem?_eq_none (by simp; omega), List.getElem?_eq_none (by simp [lkOwns]; omega)]
theorem mkWords_done (n : Nat) : List.replicate (n * (n + 1)) (0 : Int) = lkWords n (lkNew n) := by
  apply List.ext_getElem?
  intro i
  by_cases hi : i < n * (n + 1)
  · rw [lkWords, range_get _ hi, List.getElem?_replicate, if_pos hi]
    unfold wordOf
    split <;> rfl
  · rw [List.getElem?_eq_none (by simp; omega), List.getElem?_eq_none (by rw [lkWords_len]; omega)]
theorem mkLines_done (n : Nat) : List.replicate n (1 : Int) = lkLines n (lkNew n) := by
  apply List.ext_getElem?
  intro i
  by_cases hi : i < n
  · rw [lkLines, range_get _ hi, List.getElem?_replicate, if_pos hi]; rfl
  · rw [List.getElem?_eq_none (by simp; omega), List.getElem?_eq_none (by simp [lkLines]; omega)]
/-- What New(n, Zeros(n (n + 1)), 2) answers, of the zeros' memory and its own. -/
theorem newMach_any (n : Nat) (hn : n ≤ 4) (x : Value) (w1 w2 : World) (hx : NumsP w2 (fun b => w1.heap.size ≤ b ∧ b < w2.heap.size) x (List.replicate (n * (n + 1)) 0)) (hb : Below w1.heap.size w1 w2) :
    Calls Tryd.prog 6 #[.int .i64 n, x, .int .i64 2] w2 fun e w' => ∃ v, e = .returned v ∧ Mc w' (fun b => w1.heap.size ≤ b ∧ b < w'.heap.size) n v (lkWords n (lkNew n)) (lkLines n (lkNew n)) (lkOwns n (lkNew n)) ∧ Below w1.heap.size w1 w' :=
  (machNew_any n 2 (by omega) (by omega) x _ w2 (fun _ hb => hb.2) hx).mono fun _ w' ⟨v, he, hm, hb2⟩ => by
    refine ⟨v, he, ?_, hb.trans (hb2.mono hb.size)⟩
    rw [mkWords_done, mkLines_done, mkOwns_done] at hm
    refine hm.keep (fun b h => ?_) fun _ _ => rfl
    have := hb.size
    have := hb2.size
    rcases h with h | h
    · exact ⟨h.1, by omega⟩
    · exact ⟨by omega, h.2⟩
end Go.Proofs.YthainkgpafbjcaaDoor.Split
