/-
  Package univ: what New answers.
-/
import Derived.Test.YtegplglokaoemaaDoorUnivStep
import Derived.Deep.WholeRow
namespace Go.Proofs.YtegplglokaoemaaDoor.Univ
open Go.RowKit

theorem zero_row : (Tryd.prog.info? 50).map (fun i => (i.zero, i.size)) = some (some (.agg (row (List.replicate 99 0))), 99) := by kernel_rfl
theorem new_cel (n : Nat) : Cel ((row (List.replicate 99 0)).setIfInBounds 0 (.int .i64 n)) n unew := by
  have h : ∀ k, k < 99 → (List.replicate 99 (0 : Int))[k]? = some 0 := by decide
  have hs : (row (List.replicate 99 0)).size = 99 := by rw [row_size]; rfl
  have hz : ∀ k, 1 ≤ k → k < 99 → ((row (List.replicate 99 0)).setIfInBounds 0 (.int .i64 n))[k]? = some (.int .i64 0) := fun k h1 h2 => by
    rw [set_off (by omega)]
    exact row_get (h k h2)
  exact ⟨by simpa using hs, set_at (by omega), hz _ (by omega) (by omega), hz _ (by omega) (by omega), fun i hi => hz _ (by omega) (by omega), fun i hi => hz _ (by omega) (by omega),
    fun p hp => hz _ (by omega) (by omega), fun p hp => hz _ (by omega) (by omega), fun p hp => hz _ (by omega) (by omega), fun p hp => hz _ (by omega) (by omega)⟩
set_option maxHeartbeats 4000000 in
theorem unew_bad (n : Int) (h : ¬ (1 ≤ n ∧ n ≤ 4)) (w : World) : Calls Tryd.prog 4 #[.int .i64 n] w fun e w' => e = .returned (.tuple #[.pointer none, errV 44 1]) ∧ Below w.heap.size w w' := by
  by_cases h1 : n < 1
  · go_enter Tryd.func4, Tryd.ntmps4
    go_wp2
    go_ret2
    exact ⟨rfl, Below.refl _ _⟩
  · have h2 : 4 < n := by omega
    go_enter Tryd.func4, Tryd.ntmps4
    go_wp2
    go_ret2
    exact ⟨rfl, Below.refl _ _⟩
set_option maxHeartbeats 4000000 in
theorem unew_any (n : Nat) (h1 : 1 ≤ n) (h4 : n ≤ 4) (w : World) : Calls Tryd.prog 4 #[.int .i64 n] w fun e w' => e = .returned (.tuple #[.pointer (some ⟨w.heap.size, 0, none⟩), .nilIface]) ∧ Lk w' w.heap.size n unew ∧ Below w.heap.size w w' := by
  have h1I : ¬ (n : Int) < 1 := by omega
  have h4I : ¬ 4 < (n : Int) := by omega
  obtain ⟨zs, hzs⟩ : ∃ zs, zs = row (List.replicate 99 0) := ⟨_, rfl⟩
  have hz := (zero_of_info zero_row).1
  rw [← hzs] at hz
  have hs : zs.size = 99 := by rw [hzs, row_size]; rfl
  have hne : ¬ zs = #[] := fun e => by rw [e] at hs; cases hs
  have hc := new_cel n
  rw [← hzs] at hc
  have HC := Lib.hid hc
  have HK := Lib.hid (Block.made w 50 (zs.setIfInBounds 0 (.int .i64 n)))
  have HB := Lib.hid ((Below.refl w.heap.size w).alloc (Nat.le_refl _) (.cells (zs.setIfInBounds 0 (.int .i64 n)) 50))
  clear hc hzs
  go_enter Tryd.func4, Tryd.ntmps4
  go_wp2
  go_ret2
  exact ⟨rfl, ⟨_, HK.out, HC.out⟩, HB.out⟩
end Go.Proofs.YtegplglokaoemaaDoor.Univ
