/-
  Package fifo: what Ends answers (a seat that knows it).
-/
import Derived.Test.YtimdhnjkjflbdaaFifoLkN
namespace Go.Proofs.Ytimdhnjkjflbdaa.Fif
open Go.RowKit

set_option maxHeartbeats 4000000 in
theorem ends_any {g n : Nat} {v : QF} (w : World) (hk : Lk w g n v) :
    Calls Try.prog 36 #[.pointer (some ⟨g, 0, none⟩)] w fun e w' => e = .returned (.tuple #[.int .i64 (v.hd : Nat), .int .i64 (v.tl : Nat)]) ∧ ∃ i, w' = w.drewN i := by
  have h1 := hk.xhd
  have h2 := hk.xtl
  clear hk
  go_enter Try.func36, Try.ntmps36
  go_wp2_with fail
  go_quiet (fail)
  go_wp2
  go_ret2
  exact ⟨rfl, _, rfl⟩
section
variable {w wr w' : World} {g n : Nat} {s s' : FG} {vl vl' : Nat → Int}
theorem endsL (h : LkAt w wr g n s vl) :
    Calls Try.prog 36 #[.pointer (some ⟨g, 0, none⟩)] wr fun e w' => e = .returned (.tuple #[.int .i64 (s.v.hd : Nat), .int .i64 (s.v.tl : Nat)]) ∧ ∃ i, w' = wr.drewN i := by
  obtain ⟨v, hv, hr⟩ := h.lk
  exact (ends_any wr hv).mono fun _ _ ⟨he, hk⟩ => ⟨by rw [he, hr.hd, hr.tl], hk⟩
end
end Go.Proofs.Ytimdhnjkjflbdaa.Fif
