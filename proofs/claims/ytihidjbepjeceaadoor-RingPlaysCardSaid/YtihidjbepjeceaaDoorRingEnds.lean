/-
  Package ring: what Ends answers (a seat that knows it).
-/
import Derived.Test.YtihidjbepjeceaaDoorRingLkN
namespace Go.Proofs.YtihidjbepjeceaaDoor.Ring
open Go.RowKit

set_option maxHeartbeats 4000000 in
theorem ends_any {g n : Nat} {v : RF} (w : World) (hk : Lk w g n v) :
    Calls Tryd.prog 13 #[.pointer (some ⟨g, 0, none⟩)] w fun e w' => e = .returned (.tuple #[.int .i64 (v.hd : Nat), .int .i64 (v.tl : Nat)]) ∧ ∃ i, w' = w.drewN i := by
  have h1 := hk.xhd
  have h2 := hk.xtl
  clear hk
  go_enter Tryd.func13, Tryd.ntmps13
  go_wp2_with fail
  go_quiet (fail)
  go_wp2
  go_ret2
  exact ⟨rfl, _, rfl⟩
theorem endsL {w wr : World} {g n : Nat} {s : RGS} {a : Nat} (h : LkAt w wr g n s a) :
    Calls Tryd.prog 13 #[.pointer (some ⟨g, 0, none⟩)] wr fun e w' => e = .returned (.tuple #[.int .i64 (s.hd : Nat), .int .i64 (s.tl : Nat)]) ∧ ∃ i, w' = wr.drewN i := ends_any wr h.lk
end Go.Proofs.YtihidjbepjeceaaDoor.Ring
