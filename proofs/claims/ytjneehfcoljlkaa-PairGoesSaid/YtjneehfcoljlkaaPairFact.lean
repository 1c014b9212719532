/-
  A lock beside what was there; the closed fact of the laws of package pair.
-/
import Derived.Test.YtjneehfcoljlkaaPair
namespace Go.Proofs.Ytjneehfcoljlkaa
open Go.RowKit

/-- At which line a hand stands. -/
def atP (s : List Int) (q : Nat) : Int := s.getD (3 + q) 0

/-- Since w nothing has turned but new memory; in it a lock is as the row says. -/
structure LkAt (w wr : World) (g : Nat) (s : List Int) : Prop where
  new : w.heap.size ≤ g
  lk : Lk wr g s
  below : Below w.heap.size w wr
  all : s ∈ pall
theorem LkAt.turn {w wr w' : World} {g : Nat} {s s' : List Int} (h : LkAt w wr g s) (hk : Lk w' g s') (ht : Touch (fun k => k = g) wr w') (ha : s' ∈ pall) : LkAt w w' g s' :=
  ⟨h.new, hk, h.below.trans (ht.below h.below.size fun _ hi => hi ▸ h.new), ha⟩

theorem stepL {w wr : World} {g : Nat} {s : List Int} (h : LkAt w wr g s) (p : Int) :
    Calls Try.prog 9 #[.pointer (some ⟨g, 0, none⟩), .int .i64 p] wr fun e w' => e = .returned (errV 38 (perr p)) ∧ LkAt w w' g (pstp s p) :=
  (step_any s h.all g wr h.lk p).mono fun _ _ ⟨he, hk, ht⟩ => ⟨he, h.turn hk ht (pall_stp h.all p)⟩
theorem stepG {w wr : World} {g : Nat} {s : List Int} (h : LkAt w wr g s) (p : Int) (h0 : 0 ≤ p) (h1 : p ≤ 1) :
    Calls Try.prog 9 #[.pointer (some ⟨g, 0, none⟩), .int .i64 p] wr fun e w' => e = .returned .nilIface ∧ LkAt w w' g (pstp s p) :=
  (stepL h p).mono fun _ _ ⟨he, hl⟩ => ⟨he.trans (by rw [perr, if_pos (by omega)]; rfl), hl⟩
theorem atL {w wr : World} {g : Nat} {s : List Int} (h : LkAt w wr g s) (q : Nat) (hq : q < 2) :
    Calls Try.prog 10 #[.pointer (some ⟨g, 0, none⟩), .int .i64 q] wr fun e w' => e = .returned (.int .i64 (atP s q)) ∧ wr = w' :=
  at_any s h.all g wr h.lk q hq
theorem at0 {w wr : World} {g : Nat} {s : List Int} (h : LkAt w wr g s) :
    Calls Try.prog 10 #[.pointer (some ⟨g, 0, none⟩), .int .i64 0] wr fun e w' => e = .returned (.int .i64 (atP s 0)) ∧ wr = w' := atL h 0 (by omega)
theorem at1 {w wr : World} {g : Nat} {s : List Int} (h : LkAt w wr g s) :
    Calls Try.prog 10 #[.pointer (some ⟨g, 0, none⟩), .int .i64 1] wr fun e w' => e = .returned (.int .i64 (atP s 1)) ∧ wr = w' := atL h 1 (by omega)
theorem newL {w w1 : World} (h : Below w.heap.size w w1) : Calls Try.prog 8 #[] w1 fun e w' => ∃ g, e = .returned (.pointer (some ⟨g, 0, none⟩)) ∧ LkAt w w' g pnew :=
  (lnew_any w1).mono fun _ _ ⟨he, hk, hb⟩ => ⟨_, he, h.size, hk, h.trans (hb.mono h.size), pall_new⟩

theorem atI {w wr : World} {g : Nat} {s : List Int} (h : LkAt w wr g s) (p : Int) (h0 : 0 ≤ p) (h1 : p ≤ 1) :
    Calls Try.prog 10 #[.pointer (some ⟨g, 0, none⟩), .int .i64 p] wr fun e w' => e = .returned (.int .i64 (atP s p.toNat)) ∧ wr = w' := by
  obtain ⟨n, rfl⟩ := Int.eq_ofNat_of_zero_le h0
  exact atL h n (by omega)
/-- Where the lock stands in the closed fact. -/
def pfc : Nat → List Int
  | 0 => pnew
  | 1 => [0, 1, 0, 1, 2]
  | _ => [0, 1, 0, 1, 3]
def pfcEnd : List Int := [0, 1, 0, 1, 5]
theorem pfc_step : pstp (pfc 0) 1 = pfc 1 ∧ pstp (pfc 1) 1 = pfc 2 ∧ pstp (pfc 2) 1 = pfcEnd := by decide +kernel
theorem pfc_at : atP (pfc 1) 1 = 2 ∧ atP (pfc 2) 1 = 3 ∧ atP pfcEnd 1 = 5 ∧ atP pfcEnd 0 = 1 := by decide +kernel

set_option maxHeartbeats 1000000 in
theorem pairFact_any (w : World) : Calls Try.prog 7 #[] w fun e w' => e = .returned (.bool true) ∧ Below w.heap.size w w' := by
  go_enter Try.func7, Try.ntmps7
  go_wp2_with (go_at_call 8; refine (newL (Below.refl _ _)).mono ?_; rintro e w1 ⟨g, rfl, hl⟩; have HL := Lib.hid hl; clear hl)
  go_loopw [2] (fun i wr => ∃ k : Nat, k ≤ 2 ∧ i = .int .i64 k ∧ LkAt w wr g (pfc k)) (fun i _ => 12 - (intOf i).toNat)
  case atStart => exact ⟨0, by omega, rfl, HL.out⟩
  case round =>
    clear HL
    obtain ⟨k, hk, rfl, hl⟩ := hrel
    have HL := Lib.hid hl
    clear hl
    obtain rfl | rfl | rfl : k = 0 ∨ k = 1 ∨ k = 2 := by omega
    · go_wp2_with (first | (go_at_call 9; refine (stepG HL.out 1 (by omega) (by omega)).mono ?_; rw [pfc_step.1]; rintro e w2 ⟨rfl, hl⟩; have H2 := Lib.hid hl; clear hl) | (go_at_call 10; (with_reducible refine (at1 H2.out).mono ?_); rw [pfc_at.1]; rintro e w3 ⟨rfl, rfl⟩))
      go_roundw
      case rel => exact ⟨1, by omega, by go_num, H2.out⟩
      case measure => simp [intOf]
    · go_wp2_with (first | (go_at_call 9; refine (stepG HL.out 1 (by omega) (by omega)).mono ?_; rw [pfc_step.2.1]; rintro e w2 ⟨rfl, hl⟩; have H2 := Lib.hid hl; clear hl) | (go_at_call 10; (with_reducible refine (at1 H2.out).mono ?_); rw [pfc_at.2.1]; rintro e w3 ⟨rfl, rfl⟩))
      go_roundw
      case rel => exact ⟨2, by omega, by go_num, H2.out⟩
      case measure => simp [intOf]
    · go_wp2_with (first | (go_at_call 9; refine (stepG HL.out 1 (by omega) (by omega)).mono ?_; rw [pfc_step.2.2]; rintro e w2 ⟨rfl, hl⟩; have H2 := Lib.hid hl; clear hl) | (go_at_call 10; (with_reducible refine (at1 H2.out).mono ?_); rw [pfc_at.2.2.1]; rintro e w3 ⟨rfl, rfl⟩) | (go_at_call 10; (with_reducible refine (at0 H2.out).mono ?_); rw [pfc_at.2.2.2]; rintro e w3 ⟨rfl, rfl⟩))
      go_ret
      exact ⟨rfl, H2.out.below⟩
end Go.Proofs.Ytjneehfcoljlkaa
