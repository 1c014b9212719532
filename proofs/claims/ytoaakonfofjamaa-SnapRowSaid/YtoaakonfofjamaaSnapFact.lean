/-
  The closed fact of the laws of package snap.
-/
import Derived.Test.YtoaakonfofjamaaSnapLkN
import Derived.Test.YtoaakonfofjamaaInts
namespace Go.Proofs.Ytoaakonfofjamaa.Snap
open Go.RowKit

theorem bad_true {z : Int} (h : ¬ (1 ≤ z ∧ z ≤ 4)) : (decide (z < 1) || decide (4 < z)) = true := by
  simp only [Bool.or_eq_true, decide_eq_true_eq]; omega
/-- Where the board stands in the closed fact. -/
def pfs : Nat → SS
  | 0 => gwr 1 ssnew 0 5
  | k + 1 => gst 1 (pfs k) 0
def pf4 : SS := glk 1 (pfs 3) 0
def pf5 : SS := gst 1 pf4 0
theorem pf_is : wrE 1 ssnew 0 5 = 0 ∧ (∀ k, k < 3 → ((pfs k).h 0).a ≠ 0 ∧ (stold 1 (pfs k) 0).isNone = true) ∧ bgE 1 (pfs 3) 0 = 0 ∧ (pf4.h 0).a ≠ 0 ∧ (stold 1 pf4 0).isNone = true ∧ (pf5.h 0).a ≠ 0 ∧ (sone 1 pf5 0).a = 0 ∧ (stold 1 pf5 0).map (fun f => f 0) = some 5 := by decide +kernel
theorem fw (w : World) {wr : World} {g : Nat} (h : LkAt w wr g 1 0 ssnew) : Calls Try.prog 8 #[.pointer (some ⟨g, 0, none⟩), .int .i64 0, .int .i64 5] wr fun e w' => e = .returned .nilIface ∧ LkAt w w' g 1 0 (pfs 0) :=
  (writeT h 0 5).mono fun _ _ ⟨he, hk, _⟩ => ⟨he.trans (by rw [pf_is.1]; rfl), hk⟩
theorem GR.none_ {n : Nat} {s : SS} {w0 w' : World} {e : Ending} (h : GR n s 0 w0 w' e) (hn : 0 < n) (ha : (s.h 0).a ≠ 0) (ht : (stold n s 0).isNone = true) : ∃ b, e = .returned (.tuple #[.bool b, .slice none 0 0, .nilIface]) := by
  unfold GR at h
  rw [if_neg (show ¬ ¬ ((0 : Int) ≤ 0 ∧ (0 : Int) < n) by omega), show (0 : Int).toNat = 0 from rfl, if_neg ha] at h
  obtain ⟨u, h1, -, h3⟩ := h
  rw [h3 (by simpa using ht)] at h1
  exact ⟨_, h1⟩
theorem fs (w : World) {wr : World} {g k T : Nat} (hk : k < 3) (h : LkAt w wr g 1 k (pfs k)) (hT : T = k + 1) : Calls Try.prog 10 #[.pointer (some ⟨g, 0, none⟩), .int .i64 0] wr fun e w' => ∃ b, e = .returned (.tuple #[.bool b, .slice none 0 0, .nilIface]) ∧ LkAt w w' g 1 T (pfs T) :=
  (stepT h (by omega) 0).mono fun _ _ ⟨he, hl, _⟩ => by
    obtain ⟨b, e⟩ := he.none_ (by omega) (pf_is.2.1 k hk).1 (pf_is.2.1 k hk).2
    subst hT
    exact ⟨b, e, hl⟩
theorem fl (w : World) {wr : World} {g : Nat} (h : LkAt w wr g 1 3 (pfs 3)) : Calls Try.prog 9 #[.pointer (some ⟨g, 0, none⟩), .int .i64 0] wr fun e w' => e = .returned .nilIface ∧ LkAt w w' g 1 3 pf4 :=
  (lookT h 0).mono fun _ _ ⟨he, hk, _⟩ => ⟨he.trans (by rw [pf_is.2.2.1]; rfl), hk⟩
theorem fs4 (w : World) {wr : World} {g : Nat} (h : LkAt w wr g 1 3 pf4) : Calls Try.prog 10 #[.pointer (some ⟨g, 0, none⟩), .int .i64 0] wr fun e w' => ∃ b, e = .returned (.tuple #[.bool b, .slice none 0 0, .nilIface]) ∧ LkAt w w' g 1 4 pf5 :=
  (stepT h (by omega) 0).mono fun _ _ ⟨he, hl, _⟩ => by
    obtain ⟨b, e⟩ := he.none_ (by omega) pf_is.2.2.2.1 pf_is.2.2.2.2.1
    exact ⟨b, e, hl⟩
theorem fs5 (w : World) {wr : World} {g : Nat} (h : LkAt w wr g 1 4 pf5) : Calls Try.prog 10 #[.pointer (some ⟨g, 0, none⟩), .int .i64 0] wr fun e w' => ∃ u, e = .returned (.tuple #[.bool true, u, .nilIface]) ∧ Nums w' w'.heap.size u [5] ∧ Below w.heap.size w w' :=
  (stepT h (by omega) 0).mono fun _ w' ⟨he, hl, _⟩ => by
    unfold GR at he
    rw [if_neg (show ¬ ¬ ((0 : Int) ≤ 0 ∧ (0 : Int) < ((1 : Nat) : Int)) by decide), show (0 : Int).toNat = 0 from rfl, if_neg pf_is.2.2.2.2.2.1, decide_eq_true pf_is.2.2.2.2.2.2.1] at he
    obtain ⟨u, h1, h2, -⟩ := he
    have h7 := pf_is.2.2.2.2.2.2.2
    cases e : stold 1 pf5 0 with
    | none => rw [e] at h7; cases h7
    | some f =>
      rw [e] at h7
      have h8 : f 0 = 5 := by simpa using h7
      have h9 := (h2 f e).1
      have h10 : lkS 1 f = [5] := by simp [lkS, List.range, List.range.loop, h8]
      rw [h10] at h9
      exact ⟨u, h1, h9, hl.below⟩
theorem nums_one {w : World} {k c : Nat} {z : Int} (h : w.cell? ⟨k, 0, none⟩ = some (.int .i64 z)) : Nums w w.heap.size (.slice (some ⟨k, 0, none⟩) 1 c) [z] :=
  ⟨_, _, rfl, by simp, fun _ => ⟨k, 0, rfl, lt_of_cell h, fun i x hx => by
    match i, hx with
    | 0, hx => simp at hx; subst hx; exact h⟩⟩
theorem fi {w5 : World} {u : Value} (h : Nums w5 w5.heap.size u [5]) : Calls Try.prog 11 #[u, .slice (some ⟨w5.heap.size, 0, none⟩) 1 1] (w5.alloc (.cells #[.int .i64 5] 3)) fun e w' =>
    e = .returned (.bool true) ∧ ∃ n, w' = (w5.alloc (.cells #[.int .i64 5] 3)).drewN n :=
  (ints_any [5] [5] _ _ _ _ _ (h.below ((Below.refl w5.heap.size w5).alloc (Nat.le_refl _) _) (Nat.le_refl _)) (nums_one ((Block.made w5 3 #[.int .i64 5]).cell 0))).mono fun _ _ h => h
set_option maxHeartbeats 4000000 in
theorem fact_any (w : World) : Calls Try.prog 5 #[] w fun e w' => e = .returned (.bool true) ∧ Below w.heap.size w w' := by
  go_enter Try.func5, Try.ntmps5
  go_wp2_with (first | (go_at_call 6; refine (newL (n := 1) (Below.refl _ _) (by omega) (by omega)).mono ?_; rintro e w1 ⟨g, rfl, hl⟩; have H1 := Lib.hid hl; clear hl) | (go_at_call 8; (with_reducible refine (fw w H1.out).mono ?_); rintro e w2 ⟨rfl, hl⟩; have H2 := Lib.hid hl; clear hl))
  have HH2 := H2
  clear H1 H2
  go_loopw [3] (fun i wr => ∃ k : Nat, k ≤ 3 ∧ i = .int .i64 k ∧ LkAt w wr g 1 k (pfs k)) (fun i _ => 3 - (intOf i).toNat)
  case atStart => exact ⟨0, by omega, rfl, HH2.out⟩
  case round =>
    clear HH2
    obtain ⟨k, hk, rfl, hl⟩ := hrel
    by_cases hlt : k < 3
    · have hI : (k : Int) < 3 := by omega
      have HS := Lib.hid (fs w hlt hl rfl)
      clear hl
      go_wp2_with (go_at_call 10; (with_reducible refine HS.out.mono ?_); rintro e w3 ⟨b, rfl, hl3⟩; have HL3 := Lib.hid hl3; clear hl3)
      go_roundw
      case rel => exact ⟨k + 1, by omega, by go_num, HL3.out⟩
      case measure => simp [intOf]; omega
    · obtain rfl : k = 3 := by omega
      have hI : ¬ ((3 : Nat) : Int) < 3 := by omega
      have H3 := Lib.hid hl
      clear hl
      go_wp2_with (first | (go_at_call 9; (with_reducible refine (fl w H3.out).mono ?_); rintro e w4 ⟨rfl, hl⟩; have H4 := Lib.hid hl; clear hl) | (go_at_call 10; (with_reducible refine (fs4 w H4.out).mono ?_); rintro e w5 ⟨b5, rfl, hl⟩; have H5 := Lib.hid hl; clear hl) | (go_at_call 10; (with_reducible refine (fs5 w H5.out).mono ?_); rintro e w6 ⟨u6, rfl, hu, hb⟩; have HU := Lib.hid hu; have HB := Lib.hid hb; clear hu hb) | (go_at_call 11; (with_reducible refine (fi HU.out).mono ?_); rintro e w7 ⟨rfl, i7, rfl⟩))
      go_ret
      exact ⟨rfl, below_drewN (HB.out.alloc HB.out.size _) _⟩
end Go.Proofs.Ytoaakonfofjamaa.Snap
