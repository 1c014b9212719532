/-
  law3's in and row.
-/
import Derived.Test.YtimdhnjkjflbdaaLinRow
import Derived.Test.YtimdhnjkjflbdaaLinOps
namespace Go.Proofs.Ytimdhnjkjflbdaa.Lin
open Go.RowKit
theorem in3_any (n lo hi : Int) (w : World) : Calls Try.prog 12 #[.int .i64 n, .int .i64 lo, .int .i64 hi] w fun e w' => e = .returned (.bool (inR n lo hi)) ∧ w = w' := by
  by_cases h1 : lo ≤ n
  · by_cases h2 : n ≤ hi
    · go_enter Try.func12, Try.ntmps12
      go_wp2
      go_ret
      exact ⟨by simp [inR, h1, h2], rfl⟩
    · go_enter Try.func12, Try.ntmps12
      go_wp2
      go_ret
      exact ⟨by simp [inR, h2], rfl⟩
  · go_enter Try.func12, Try.ntmps12
    go_wp2
    go_ret
    exact ⟨by simp [inR]; omega, rfl⟩
set_option maxHeartbeats 4000000 in
/-- The law's row: of a history that is fine and has a row. -/
theorem row3_any (ob : Nat) (h : List LO) (hf : LFine (ob : Int) h) (hL : lans (ob : Int) h ≠ none) (v : Value) (w : World) (hh : Ops w w.heap.size v h) :
    Calls Try.prog 16 #[.int .i64 ob, v] w fun e w' => e = .returned (.bool true) ∧ Below w.heap.size w w' := by
  have HR := Lib.hid (row_any ob h v w hh)
  rw [lchk_zero.2 hf, show errV 55 ((0 : Nat) : Int) = .nilIface from rfl, show (lans (ob : Int) h).isSome = true from Option.isSome_iff_ne_none.2 hL] at HR
  clear hf hL hh
  go_enter Try.func16, Try.ntmps16
  go_wp2_with (go_at_call 27; (with_reducible refine HR.out.mono ?_); rintro e w1 ⟨⟨u1, rfl, hn1⟩, hb1⟩; have HB1 := Lib.hid hb1; clear hn1 hb1)
  go_ret
  exact ⟨rfl, HB1.out⟩
end Go.Proofs.Ytimdhnjkjflbdaa.Lin
