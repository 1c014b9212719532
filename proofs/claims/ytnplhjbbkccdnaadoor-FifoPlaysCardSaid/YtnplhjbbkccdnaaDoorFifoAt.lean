/-
  Package fifo: what At answers (a seat that knows it).
-/
import Derived.Test.YtnplhjbbkccdnaaDoorFifoLkN
namespace Go.Proofs.YtnplhjbbkccdnaaDoor.Fif
open Go.RowKit

set_option maxHeartbeats 4000000 in
theorem at_any {g n : Nat} {v : QF} (w : World) (hk : Lk w g n v) (hn : n ≤ 4) (p : Int) :
    Calls Tryd.prog 24 #[.pointer (some ⟨g, 0, none⟩), .int .i64 p] w fun e w' => e = .returned (.int .i64 (lkAt n v p)) ∧ w = w' := by
  have HI := Lib.hid (isHand_any p w hk.xnum)
  by_cases hp : 0 ≤ p ∧ p < n
  · obtain ⟨q, rfl⟩ := Int.eq_ofNat_of_zero_le hp.1
    have hq : q < n := by omega
    have hp4 : (q : Int) < 4 := by omega
    rw [decide_eq_true hp] at HI
    have hca := hk.xa (show q < 4 by omega)
    rw [lkAt_in hq]
    clear hk hp
    go_enter Tryd.func24, Tryd.ntmps24
    go_wp2_with (go_at_call 41; refine HI.out.mono ?_; rintro e w' ⟨rfl, rfl⟩)
    go_ret
    exact ⟨rfl, rfl⟩
  · rw [decide_eq_false hp] at HI
    rw [lkAt, if_neg hp]
    clear hk hp
    go_enter Tryd.func24, Tryd.ntmps24
    go_wp2_with (go_at_call 41; refine HI.out.mono ?_; rintro e w' ⟨rfl, rfl⟩)
    go_ret
    exact ⟨rfl, rfl⟩
theorem atL {w wr : World} {g n : Nat} {s : FG} {vl : Nat → Int} (h : LkAt w wr g n s vl) (p : Int) :
    Calls Tryd.prog 24 #[.pointer (some ⟨g, 0, none⟩), .int .i64 p] wr fun e w' => e = .returned (.int .i64 (sAt n s p)) ∧ wr = w' := by
  obtain ⟨v, hv, hr⟩ := h.lk
  have h1 := at_any wr hv h.four p
  rwa [hr.at_] at h1
end Go.Proofs.YtnplhjbbkccdnaaDoor.Fif
