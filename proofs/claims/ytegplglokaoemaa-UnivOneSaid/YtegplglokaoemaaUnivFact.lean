/-
  The closed fact of the laws of package univ.
-/
import Derived.Test.YtegplglokaoemaaUnivLkN
import Derived.Test.YtegplglokaoemaaInts
namespace Go.Proofs.Ytegplglokaoemaa.Univ
open Go.RowKit

theorem bad_true {z : Int} (h : ¬ (1 ≤ z ∧ z ≤ 4)) : (decide (z < 1) || decide (4 < z)) = true := by
  simp only [Bool.or_eq_true, decide_eq_true_eq]; omega
/-- Where the row stands in the closed fact. -/
def pf1 : UG := gbeg 1 0 ugnew 0 7
def pf2 : UG := gstp 1 1 pf1 0
def pf3 : UG := gstp 1 2 pf2 0
theorem pf_is : begE 1 ugnew.v 0 7 = 0 ∧ stpD 1 pf1.v 0 = false ∧ stpG 1 pf1.v 0 = 0 ∧ stpE 1 pf1.v 0 = 0 ∧ stpD 1 pf2.v 0 = true ∧ stpG 1 pf2.v 0 = 0 ∧ stpE 1 pf2.v 0 = 0 ∧ lkOrder pf3.v = [0] := by decide +kernel

theorem fb (w : World) {wr : World} {g : Nat} (h : LkAt w wr g 1 0 ugnew) : Calls Try.prog 7 #[.pointer (some ⟨g, 0, none⟩), .int .i64 0, .int .i64 7] wr fun e w' => e = .returned .nilIface ∧ LkAt w w' g 1 1 pf1 :=
  (beginT h (by omega) 0 7).mono fun _ _ ⟨he, hk, _⟩ => ⟨he.trans (by rw [pf_is.1]; rfl), hk⟩
theorem fs1 (w : World) {wr : World} {g : Nat} (h : LkAt w wr g 1 1 pf1) : Calls Try.prog 9 #[.pointer (some ⟨g, 0, none⟩), .int .i64 0] wr fun e w' => e = .returned (.tuple #[.bool false, .int .i64 0, .nilIface]) ∧ LkAt w w' g 1 2 pf2 :=
  (stepT h 0).mono fun _ _ ⟨he, hk, _⟩ => ⟨he.trans (by rw [pf_is.2.1, pf_is.2.2.1, pf_is.2.2.2.1]; rfl), hk⟩
theorem fs2 (w : World) {wr : World} {g : Nat} (h : LkAt w wr g 1 2 pf2) : Calls Try.prog 9 #[.pointer (some ⟨g, 0, none⟩), .int .i64 0] wr fun e w' => e = .returned (.tuple #[.bool true, .int .i64 0, .nilIface]) ∧ LkAt w w' g 1 3 pf3 :=
  (stepT h 0).mono fun _ _ ⟨he, hk, _⟩ => ⟨he.trans (by rw [pf_is.2.2.2.2.1, pf_is.2.2.2.2.2.1, pf_is.2.2.2.2.2.2.1]; rfl), hk⟩
theorem fo (w : World) {wr : World} {g : Nat} (h : LkAt w wr g 1 3 pf3) : Calls Try.prog 10 #[.pointer (some ⟨g, 0, none⟩)] wr fun e w' => ∃ u, e = .returned u ∧ Nums w' w'.heap.size u [0] ∧ Below wr.heap.size wr w' ∧ LkAt w w' g 1 3 pf3 :=
  (orderL h).mono fun _ _ ⟨u, he, hu, hb, hk⟩ => ⟨u, he, pf_is.2.2.2.2.2.2.2 ▸ hu, hb, hk⟩
theorem nums_one {w : World} {k c : Nat} {z : Int} (h : w.cell? ⟨k, 0, none⟩ = some (.int .i64 z)) : Nums w w.heap.size (.slice (some ⟨k, 0, none⟩) 1 c) [z] :=
  ⟨_, _, rfl, by simp, fun _ => ⟨k, 0, rfl, lt_of_cell h, fun i x hx => by
    match i, hx with
    | 0, hx => simp at hx; subst hx; exact h⟩⟩
theorem fi {w5 : World} {u : Value} (h : Nums w5 w5.heap.size u [0]) : Calls Try.prog 12 #[u, .slice (some ⟨w5.heap.size, 0, none⟩) 1 1] (w5.alloc (.cells #[.int .i64 0] 3)) fun e w' =>
    e = .returned (.bool true) ∧ ∃ n, w' = (w5.alloc (.cells #[.int .i64 0] 3)).drewN n :=
  (ints_any [0] [0] _ _ _ _ _ (h.below ((Below.refl w5.heap.size w5).alloc (Nat.le_refl _) _) (Nat.le_refl _)) (nums_one ((Block.made w5 3 #[.int .i64 0]).cell 0))).mono fun _ _ h => h
set_option maxHeartbeats 4000000 in
theorem fact_any (w : World) : Calls Try.prog 5 #[] w fun e w' => e = .returned (.bool true) ∧ Below w.heap.size w w' := by
  go_enter Try.func5, Try.ntmps5
  go_wp2_with (first | (go_at_call 6; refine (newL (n := 1) (Below.refl _ _) (by omega) (by omega)).mono ?_; rintro e w1 ⟨g, rfl, hl⟩; have H1 := Lib.hid hl; clear hl) | (go_at_call 7; (with_reducible refine (fb w H1.out).mono ?_); rintro e w2 ⟨rfl, hl⟩; have H2 := Lib.hid hl; clear hl) | (go_at_call 9; (with_reducible refine (fs1 w H2.out).mono ?_); rintro e w3 ⟨rfl, hl⟩; have H3 := Lib.hid hl; clear hl) | (go_at_call 9; (with_reducible refine (fs2 w H3.out).mono ?_); rintro e w4 ⟨rfl, hl⟩; have H4 := Lib.hid hl; clear hl) | (go_at_call 10; (with_reducible refine (fo w H4.out).mono ?_); rintro e w5 ⟨u, rfl, hu, -, hl⟩; have HU := Lib.hid hu; have H5 := Lib.hid hl; clear hl hu) | (go_at_call 12; (with_reducible refine (fi HU.out).mono ?_); rintro e w6 ⟨rfl, i6, rfl⟩))
  go_ret
  exact ⟨rfl, below_drewN (H5.out.made _).below _⟩
end Go.Proofs.Ytegplglokaoemaa.Univ
