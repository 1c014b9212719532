/-
  The closed fact of package prog's statements.
-/
import Derived.Test.YtkohobbjnafljaaRun2
import Derived.Test.YtkohobbjnafljaaInts
import Derived.Test.YtkohobbjnafljaaDekker
import Derived.Test.YtkohobbjnafljaaAgainMath
namespace Go.Proofs.Ytkohobbjnafljaa
open Go.RowKit

/-- A row that was just made reads as its numbers. -/
theorem nums_lit (w : World) (T : TypeId) (zs : List Int) (hm : zs.length ≤ 9223372036854775807) : Nums (w.alloc (.cells (row zs) T)) (w.heap.size + 1) (.slice (some ⟨w.heap.size, 0, none⟩) zs.length zs.length) zs :=
  ⟨_, _, rfl, hm, fun _ => ⟨_, _, rfl, by omega, fun i z hz => ((Block.made w T (row zs)).cell (0 + i)).trans (by rw [Nat.zero_add]; exact row_get hz)⟩⟩

theorem progFact_math : runErr 2 (dekkerL false false) [0, 0, 0] = 0 ∧ runTold 2 (dekkerL false false) [0, 0, 0] = [1, 0, 1, 1, 1, 1] := by decide

set_option maxHeartbeats 1000000 in
theorem progFact_any (w : World) : Calls Try.prog 8 #[] w fun e w' => e = .returned (.bool true) ∧ Below w.heap.size w w' := by
  go_enter Try.func8, Try.ntmps8
  go_wp2_with fail
  refine (dekker_any false false _).mono ?_
  rintro e w1 ⟨v, rfl, hh, hb1⟩
  have HH := Lib.hid hh
  obtain ⟨A, c, rfl, _, _⟩ := hh
  have HB1 := Lib.hid hb1
  clear hb1
  go_wp2_with fail
  refine (run_any 2 _ _ (dekkerL false false) [0, 0, 0] _ ((HH.out.keep (fun p hp => World.cell?_alloc_lt _ _ p hp)).more (by simp)) ((nums_lit w1 3 [0, 0, 0] (by simp)).more (by simp))).mono ?_
  rintro e w2 ⟨v2, he, hn2, hb2⟩
  rw [progFact_math.1, show errV 23 0 = .nilIface from rfl] at he
  rw [progFact_math.2] at hn2
  subst he
  have HN2 := Lib.hid hn2
  obtain ⟨A2, c2, rfl, _, _⟩ := hn2
  have HB2 := Lib.hid hb2
  clear hb2
  go_wp2_with fail
  refine (ints_any [1, 0, 1, 1, 1, 1] [1, 0, 1, 1, 1, 1] _ _ _ _ _ (HN2.out.keep (fun p hp => World.cell?_alloc_lt _ _ p hp)) (nums_lit w2 3 [1, 0, 1, 1, 1, 1] (by simp))).mono ?_
  rintro e w3 ⟨rfl, n, rfl⟩
  go_wp2
  go_ret
  have hs1 := HB1.out.size
  have hs2 := HB2.out.size
  simp at hs2
  exact ⟨rfl, below_drewN ((((HB1.out).alloc HB1.out.size _).trans (HB2.out.mono (by simp; omega))).alloc (by omega) _) _⟩
end Go.Proofs.Ytkohobbjnafljaa
