/-
  The closed fact of the laws of package ring.
-/
import Derived.Test.YtihidjbepjeceaaRingAt
import Derived.Test.YtihidjbepjeceaaInts
namespace Go.Proofs.Ytihidjbepjeceaa.Ring
open Go.RowKit

theorem bad_true {z : Int} (h : ¬ (1 ≤ z ∧ z ≤ 8)) : (decide (z < 1) || decide (8 < z)) = true := by
  simp only [Bool.or_eq_true, decide_eq_true_eq]; omega
/-- Where the ring stands in the closed fact. -/
def pf1 : RGS := sPut rgnew 4
def pf2 : RGS := sSp 1 pf1
def pf3 : RGS := sSp 1 pf2
def pf4 : RGS := sSp 1 pf3
def pf5 : RGS := sGet pf4
theorem pf_is : sE rgnew.pa = 0 ∧ (pD 1 pf1 = false ∧ pP pf1 = false ∧ pE pf1 = 0) ∧ (pD 1 pf2 = false ∧ pP pf2 = false ∧ pE pf2 = 0) ∧ (pD 1 pf3 = true ∧ pP pf3 = true ∧ pE pf3 = 0) ∧ sE pf4.ga = 0 ∧ lkPlaces 1 pf5 = [4] := by decide +kernel

section
variable (w : World) {wr : World} {g : Nat}
theorem fb (h : LkAt w wr g 1 rgnew 0) : Calls Try.prog 8 #[.pointer (some ⟨g, 0, none⟩), .int .i64 4] wr fun e w' => e = .returned .nilIface ∧ LkAt w w' g 1 pf1 0 :=
  (putL h 4 (by omega)).mono fun _ _ ⟨he, hk, _⟩ => ⟨he.trans (by rw [pf_is.1]; rfl), hk⟩
theorem fs1 (h : LkAt w wr g 1 pf1 0) : Calls Try.prog 9 #[.pointer (some ⟨g, 0, none⟩)] wr fun e w' => e = .returned (.tuple #[.bool false, .bool false, .nilIface]) ∧ LkAt w w' g 1 pf2 1 :=
  (spL h (by omega)).mono fun _ _ ⟨he, hk, _⟩ => ⟨he.trans (by rw [pf_is.2.1.1, pf_is.2.1.2.1, pf_is.2.1.2.2]; rfl), hk⟩
theorem fs2 (h : LkAt w wr g 1 pf2 1) : Calls Try.prog 9 #[.pointer (some ⟨g, 0, none⟩)] wr fun e w' => e = .returned (.tuple #[.bool false, .bool false, .nilIface]) ∧ LkAt w w' g 1 pf3 2 :=
  (spL h (by omega)).mono fun _ _ ⟨he, hk, _⟩ => ⟨he.trans (by rw [pf_is.2.2.1.1, pf_is.2.2.1.2.1, pf_is.2.2.1.2.2]; rfl), hk⟩
theorem fs3 (h : LkAt w wr g 1 pf3 2) : Calls Try.prog 9 #[.pointer (some ⟨g, 0, none⟩)] wr fun e w' => e = .returned (.tuple #[.bool true, .bool true, .nilIface]) ∧ LkAt w w' g 1 pf4 3 :=
  (spL h (by omega)).mono fun _ _ ⟨he, hk, _⟩ => ⟨he.trans (by rw [pf_is.2.2.2.1.1, pf_is.2.2.2.1.2.1, pf_is.2.2.2.1.2.2]; rfl), hk⟩
theorem fg (h : LkAt w wr g 1 pf4 3) : Calls Try.prog 7 #[.pointer (some ⟨g, 0, none⟩)] wr fun e w' => e = .returned .nilIface ∧ LkAt w w' g 1 pf5 3 :=
  (getL h).mono fun _ _ ⟨he, hk, _⟩ => ⟨he.trans (by rw [pf_is.2.2.2.2.1]; rfl), hk⟩
theorem fo (h : LkAt w wr g 1 pf5 3) : Calls Try.prog 16 #[.pointer (some ⟨g, 0, none⟩)] wr fun e w' => ∃ u, e = .returned u ∧ Nums w' w'.heap.size u [4] ∧ Below wr.heap.size wr w' ∧ LkAt w w' g 1 pf5 3 :=
  (placesL h).mono fun _ _ ⟨u, he, hu, hb, hk⟩ => ⟨u, he, pf_is.2.2.2.2.2 ▸ hu, hb, hk⟩
end
theorem nums_one {w : World} {k c : Nat} {z : Int} (h : w.cell? ⟨k, 0, none⟩ = some (.int .i64 z)) : Nums w w.heap.size (.slice (some ⟨k, 0, none⟩) 1 c) [z] :=
  ⟨_, _, rfl, by simp, fun _ => ⟨k, 0, rfl, lt_of_cell h, fun i x hx => by
    match i, hx with
    | 0, hx => simp at hx; subst hx; exact h⟩⟩
theorem fi {w5 : World} {u : Value} (h : Nums w5 w5.heap.size u [4]) : Calls Try.prog 15 #[u, .slice (some ⟨w5.heap.size, 0, none⟩) 1 1] (w5.alloc (.cells #[.int .i64 4] 3)) fun e w' =>
    e = .returned (.bool true) ∧ ∃ n, w' = (w5.alloc (.cells #[.int .i64 4] 3)).drewN n :=
  (ints_any [4] [4] _ _ _ _ _ (h.below ((Below.refl w5.heap.size w5).alloc (Nat.le_refl _) _) (Nat.le_refl _)) (nums_one ((Block.made w5 3 #[.int .i64 4]).cell 0))).mono fun _ _ h => h
set_option maxHeartbeats 4000000 in
theorem fact_any (w : World) : Calls Try.prog 5 #[] w fun e w' => e = .returned (.bool true) ∧ Below w.heap.size w w' := by
  go_enter Try.func5, Try.ntmps5
  go_wp2_with (first | (go_at_call 6; refine (newL (n := 1) (Below.refl _ _) (by omega) (by omega)).mono ?_; rintro e w1 ⟨g, rfl, hl, -⟩; have H1 := Lib.hid hl; clear hl) | (go_at_call 8; (with_reducible refine (fb w H1.out).mono ?_); rintro e w2 ⟨rfl, hl⟩; have H2 := Lib.hid hl; clear hl) | (go_at_call 9; (with_reducible refine (fs1 w H2.out).mono ?_); rintro e w3 ⟨rfl, hl⟩; have H3 := Lib.hid hl; clear hl) | (go_at_call 9; (with_reducible refine (fs2 w H3.out).mono ?_); rintro e w4 ⟨rfl, hl⟩; have H4 := Lib.hid hl; clear hl) | (go_at_call 9; (with_reducible refine (fs3 w H4.out).mono ?_); rintro e w5 ⟨rfl, hl⟩; have H5 := Lib.hid hl; clear hl) | (go_at_call 7; (with_reducible refine (fg w H5.out).mono ?_); rintro e w6 ⟨rfl, hl⟩; have H6 := Lib.hid hl; clear hl) | (go_at_call 16; (with_reducible refine (fo w H6.out).mono ?_); rintro e w7 ⟨u, rfl, hu, -, hl⟩; have HU := Lib.hid hu; have H7 := Lib.hid hl; clear hl hu) | (go_at_call 15; (with_reducible refine (fi HU.out).mono ?_); rintro e w8 ⟨rfl, i8, rfl⟩))
  go_ret
  exact ⟨rfl, below_drewN (H7.out.made _).below _⟩
end Go.Proofs.Ytihidjbepjeceaa.Ring
