/-
  What prog.within and prog.fits answer.
-/
import Derived.Test.YthpnnmkpbkbanaaDoorBase
import Derived.Deep.QuietTactic
import Derived.BigQuiet
import Derived.Outline
namespace Go.Proofs.YthpnnmkpbkbanaaDoor
open Go.RowKit

theorem within_any (n lo hi : Int) (w : World) : Calls Tryd.prog 41 #[.int .i64 n, .int .i64 lo, .int .i64 hi] w fun e w' => e = .returned (.bool (inR n lo hi)) ∧ w = w' := by
  by_cases h1 : lo ≤ n
  · by_cases h2 : n ≤ hi
    · go_enter Tryd.func41, Tryd.ntmps41
      go_wp2
      go_ret
      exact ⟨by simp [inR, h1, h2], rfl⟩
    · go_enter Tryd.func41, Tryd.ntmps41
      go_wp2
      go_ret
      exact ⟨by simp [inR, h2], rfl⟩
  · go_enter Tryd.func41, Tryd.ntmps41
    go_wp2
    go_ret
    exact ⟨by simp [inR]; omega, rfl⟩



theorem fits_any (l : Ln) (words : Int) (hw : 1 ≤ words) (hw2 : words ≤ 4) (w : World) : Calls Tryd.prog 42 #[.agg #[.int .i64 l.k, .int .i64 l.r, .int .i64 l.d, .int .i64 l.v], .int .i64 words] w
    fun e w' => e = .returned (.bool (okLn words l)) ∧ Below w.heap.size w w' := by
  obtain ⟨k, r, d, v⟩ := l
  simp only
  go_enter Tryd.func42, Tryd.ntmps42
  go_wp2_with (go_at_call 41; refine (within_any _ _ _ _).mono ?_; rintro e w' ⟨rfl, rfl⟩)
  all_goals go_ret
  all_goals refine ⟨?_, (Below.refl _ _).alloc (Nat.le_refl _) _⟩
  all_goals simp_all [okLn]
end Go.Proofs.YthpnnmkpbkbanaaDoor
