/-
  Package snap: what New answers.
-/
import Derived.Test.YtnplhjbbkccdnaaDoorSnapBeg
import Derived.Deep.WholeRow
namespace Go.Proofs.YtnplhjbbkccdnaaDoor.Snap
open Go.RowKit
def zcell (i : Nat) : Value := if i = 26 ∨ i = 86 ∨ i = 146 ∨ i = 206 then .bool false else .int .i64 0
def zb : Array Value := ((List.range 265).map zcell).toArray
theorem zb_size : zb.size = 265 := by simp [zb]
theorem zb_at {k : Nat} (h : k < 265) : zb[k]? = some (zcell k) := by simp [zb, h]
theorem zero_row : (Tryd.prog.info? 75).map (fun i => (i.zero, i.size)) = some (some (.agg zb), 265) := by kernel_rfl
theorem wc_zero (j : Nat) : wc sw0 j = .int .i64 0 := by unfold wc; split <;> first | rfl | (split <;> rfl)
theorem hc_zero (i : Nat) : hc sb0 i = if i = 1 then .bool false else .int .i64 0 := by
  by_cases h1 : i = 1
  · subst h1; rfl
  · rw [if_neg h1]
    unfold hc
    repeat' split
    all_goals first | rfl | exact wc_zero _ | omega
theorem new_cel (n : Nat) : Cel (zb.setIfInBounds 0 (.int .i64 n)) n ssnew := by
  have hs := zb_size
  have hz : ∀ k, 1 ≤ k → k < 265 → (zb.setIfInBounds 0 (.int .i64 n))[k]? = some (zcell k) := fun k h1 h2 => by
    rw [Array.getElem?_setIfInBounds_ne (by omega)]
    exact zb_at h2
  refine ⟨by simpa using hs, by rw [Array.getElem?_setIfInBounds_self, if_pos (by omega)], fun q hq j hj => ?_, fun p hp i hi => ?_⟩
  · rw [hz _ (by omega) (by omega)]
    show _ = some (wc sw0 j)
    rw [wc_zero]
    unfold zcell
    rw [if_neg (by omega)]
  · rw [hz _ (by omega) (by omega)]
    show _ = some (hc sb0 i)
    rw [hc_zero]
    unfold zcell
    by_cases h1 : i = 1
    · rw [if_pos h1, if_pos (by omega)]
    · rw [if_neg h1, if_neg (by omega)]
set_option maxHeartbeats 4000000 in
theorem snew_bad (n : Int) (h : ¬ (1 ≤ n ∧ n ≤ 4)) (w : World) : Calls Tryd.prog 5 #[.int .i64 n] w fun e w' => e = .returned (.tuple #[.pointer none, errV 64 1]) ∧ Below w.heap.size w w' := by
  by_cases h1 : n < 1
  · go_enter Tryd.func5, Tryd.ntmps5
    go_wp2
    go_ret2
    exact ⟨rfl, Below.refl _ _⟩
  · have h2 : 4 < n := by omega
    go_enter Tryd.func5, Tryd.ntmps5
    go_wp2
    go_ret2
    exact ⟨rfl, Below.refl _ _⟩
set_option maxHeartbeats 4000000 in
theorem snew_any (n : Nat) (h1 : 1 ≤ n) (h4 : n ≤ 4) (w : World) : Calls Tryd.prog 5 #[.int .i64 n] w fun e w' => e = .returned (.tuple #[.pointer (some ⟨w.heap.size, 0, none⟩), .nilIface]) ∧ Lk w' w.heap.size n ssnew ∧ Below w.heap.size w w' := by
  have h1I : ¬ (n : Int) < 1 := by omega
  have h4I : ¬ 4 < (n : Int) := by omega
  obtain ⟨zs, hzs⟩ : ∃ zs, zs = zb := ⟨_, rfl⟩
  have hz := (zero_of_info zero_row).1
  rw [← hzs] at hz
  have hs : zs.size = 265 := by rw [hzs, zb_size]
  have hne : ¬ zs = #[] := fun e => by rw [e] at hs; cases hs
  have hc := new_cel n
  rw [← hzs] at hc
  have HC := Lib.hid hc
  have HK := Lib.hid (Block.made w 75 (zs.setIfInBounds 0 (.int .i64 n)))
  have HB := Lib.hid ((Below.refl w.heap.size w).alloc (Nat.le_refl _) (.cells (zs.setIfInBounds 0 (.int .i64 n)) 75))
  clear hc hzs
  go_enter Tryd.func5, Tryd.ntmps5
  go_wp2
  go_ret2
  exact ⟨rfl, ⟨_, HK.out, HC.out⟩, HB.out⟩
end Go.Proofs.YtnplhjbbkccdnaaDoor.Snap
