/-
  The closed fact of the laws of package fifo; in of the laws' package.
-/
import Derived.Test.YtimdhnjkjflbdaaFifoEnds
namespace Go.Proofs.Ytimdhnjkjflbdaa.Fif
open Go.RowKit

theorem bad_true {z : Int} (h : ¬ (1 ≤ z ∧ z ≤ 4)) : (decide (z < 1) || decide (4 < z)) = true := by
  simp only [Bool.or_eq_true, decide_eq_true_eq]; omega
theorem inB_any (z lo hi : Int) (b : Bool) (hb : decide (lo ≤ z ∧ z ≤ hi) = b) (w : World) : Calls Try.prog 12 #[.int .i64 z, .int .i64 lo, .int .i64 hi] w fun e w' => e = .returned (.bool b) ∧ w = w' := by
  rw [← hb]
  by_cases h0 : lo ≤ z
  · by_cases h1 : z ≤ hi
    · rw [decide_eq_true (show lo ≤ z ∧ z ≤ hi from ⟨h0, h1⟩)]
      go_enter Try.func12, Try.ntmps12
      go_wp2
      go_ret
      exact ⟨rfl, rfl⟩
    · rw [decide_eq_false (show ¬ (lo ≤ z ∧ z ≤ hi) from fun h => h1 h.2)]
      go_enter Try.func12, Try.ntmps12
      go_wp2
      go_ret
      exact ⟨rfl, rfl⟩
  · rw [decide_eq_false (show ¬ (lo ≤ z ∧ z ≤ hi) from fun h => h0 h.1)]
    go_enter Try.func12, Try.ntmps12
    go_wp2
    go_ret
    exact ⟨rfl, rfl⟩
theorem row_case (l : List Int) : (∃ x y, l = [x, y]) ∨ (∃ x, l = [x]) ∨ l.length ≠ 2 ∧ l.length ≠ 1 := by
  match l with
  | [] => exact .inr (.inr ⟨by simp, by simp⟩)
  | [x] => exact .inr (.inl ⟨x, rfl⟩)
  | [x, y] => exact .inl ⟨x, y, rfl⟩
  | _ :: _ :: _ :: _ => exact .inr (.inr ⟨by simp, by simp⟩)
/-- Where the queue stands in the closed fact. -/
def pfs : Nat → FG
  | 0 => sBegS 1 fgnew 0 6
  | k + 1 => sStpS 1 (pfs k) 0
theorem pf_is : sBegE 1 fgnew 0 6 = 0 ∧ (∀ k, k < 4 → sStpE 1 (pfs k) 0 = 0) ∧ (pfs 4).v.hd = 0 ∧ (pfs 4).v.tl = 1 ∧ sBegE 1 (pfs 4) 0 (-1) = 0 := by decide +kernel
theorem fb (w : World) {wr : World} {g : Nat} (h : LkAt w wr g 1 fgnew (fun _ => 0)) : Calls Try.prog 20 #[.pointer (some ⟨g, 0, none⟩), .int .i64 0, .int .i64 6] wr fun e w' => e = .returned .nilIface ∧ ∃ vl, LkAt w w' g 1 (pfs 0) vl :=
  (putL h 0 6 (by omega) (by omega)).mono fun _ _ ⟨he, hk, _⟩ => ⟨he.trans (by rw [pf_is.1]; rfl), _, hk⟩
theorem fs (w : World) {wr : World} {g k : Nat} {vl : Nat → Int} (hk : k < 4) (h : LkAt w wr g 1 (pfs k) vl) : Calls Try.prog 21 #[.pointer (some ⟨g, 0, none⟩), .int .i64 0] wr fun e w' => ∃ D G, e = .returned (.tuple #[.bool D, .int .i64 G, .nilIface]) ∧ LkAt w w' g 1 (pfs (k + 1)) vl :=
  (stepL h 0).mono fun _ _ ⟨he, hl, _⟩ => ⟨_, _, he.trans (by rw [pf_is.2.1 k hk]; rfl), hl⟩
theorem fe (w : World) {wr : World} {g : Nat} {vl : Nat → Int} (h : LkAt w wr g 1 (pfs 4) vl) : Calls Try.prog 36 #[.pointer (some ⟨g, 0, none⟩)] wr fun e w' => e = .returned (.tuple #[.int .i64 0, .int .i64 1]) ∧ LkAt w w' g 1 (pfs 4) vl :=
  (endsL h).mono fun _ w' ⟨he, i, hw⟩ => ⟨he.trans (by rw [pf_is.2.2.1, pf_is.2.2.2.1]; rfl), by rw [hw]; exact h.drewN i⟩
theorem fg (w : World) {wr : World} {g : Nat} {vl : Nat → Int} (h : LkAt w wr g 1 (pfs 4) vl) : Calls Try.prog 19 #[.pointer (some ⟨g, 0, none⟩), .int .i64 0] wr fun e w' => e = .returned .nilIface ∧ Below w.heap.size w w' :=
  (getL h 0 (-1) (by omega)).mono fun _ _ ⟨he, hl, _⟩ => ⟨he.trans (by rw [pf_is.2.2.2.2]; rfl), hl.below⟩
set_option maxHeartbeats 4000000 in
theorem fact_any (w : World) : Calls Try.prog 17 #[] w fun e w' => e = .returned (.bool true) ∧ Below w.heap.size w w' := by
  go_enter Try.func17, Try.ntmps17
  go_wp2_with (first | (go_at_call 18; refine (newL (n := 1) (Below.refl _ _) (by omega) (by omega)).mono ?_; rintro e w1 ⟨g, rfl, hl⟩; have H1 := Lib.hid hl; clear hl) | (go_at_call 20; (with_reducible refine (fb w H1.out).mono ?_); rintro e w2 ⟨rfl, vl, hl⟩; have H2 := Lib.hid hl; clear hl))
  have HH2 := H2
  clear H1 H2
  go_loopw [3] (fun i wr => ∃ k : Nat, k ≤ 4 ∧ i = .int .i64 k ∧ LkAt w wr g 1 (pfs k) vl) (fun i _ => 4 - (intOf i).toNat)
  case atStart => exact ⟨0, by omega, rfl, HH2.out⟩
  case round =>
    clear HH2
    obtain ⟨k, hk, rfl, hl⟩ := hrel
    by_cases hlt : k < 4
    · have hI : (k : Int) < 4 := by omega
      have HS := Lib.hid (fs w hlt hl)
      clear hl
      go_wp2_with (go_at_call 21; (with_reducible refine HS.out.mono ?_); rintro e w3 ⟨D, G, rfl, hl3⟩; have HL3 := Lib.hid hl3; clear hl3)
      go_roundw
      case rel => exact ⟨k + 1, by omega, by go_num, HL3.out⟩
      case measure => simp [intOf]; omega
    · obtain rfl : k = 4 := by omega
      have hI : ¬ ((4 : Nat) : Int) < 4 := by omega
      have H3 := Lib.hid hl
      clear hl
      go_wp2_with (first | (go_at_call 36; (with_reducible refine (fe w H3.out).mono ?_); rintro e w4 ⟨rfl, hl⟩; have H4 := Lib.hid hl; clear hl) | (go_at_call 19; (with_reducible refine (fg w H4.out).mono ?_); rintro e w5 ⟨rfl, hb⟩; have HB := Lib.hid hb; clear hb))
      go_ret
      exact ⟨rfl, HB.out⟩
end Go.Proofs.Ytimdhnjkjflbdaa.Fif
