/-
  A lock beside what was there.
-/
import Derived.Test.YtjldbgecfongfaaDoorDek
namespace Go.Proofs.YtjldbgecfongfaaDoor
open Go.RowKit

/-- At which line a hand stands. -/
def atP (s : List Int) (q : Nat) : Int := s.getD (3 + q) 0

/-- Since w nothing has turned but new memory; in it a lock is as the row says. -/
structure LkAt (w wr : World) (g : Nat) (s : List Int) : Prop where
  new : w.heap.size ≤ g
  lk : Lk wr g s
  below : Below w.heap.size w wr
  all : s ∈ pall
theorem LkAt.turn {w wr w' : World} {g : Nat} {s s' : List Int} (h : LkAt w wr g s) (hk : Lk w' g s') (ht : Touch (fun k => k = g) wr w') (ha : s' ∈ pall) : LkAt w w' g s' :=
  ⟨h.new, hk, h.below.trans (ht.below h.below.size fun _ hi => hi ▸ h.new), ha⟩

theorem stepL {w wr : World} {g : Nat} {s : List Int} (h : LkAt w wr g s) (p : Int) :
    Calls Tryd.prog 10 #[.pointer (some ⟨g, 0, none⟩), .int .i64 p] wr fun e w' => e = .returned (errV 45 (perr p)) ∧ LkAt w w' g (pstp s p) :=
  (step_any s h.all g wr h.lk p).mono fun _ _ ⟨he, hk, ht⟩ => ⟨he, h.turn hk ht (pall_stp h.all p)⟩
theorem stepG {w wr : World} {g : Nat} {s : List Int} (h : LkAt w wr g s) (p : Int) (h0 : 0 ≤ p) (h1 : p ≤ 1) :
    Calls Tryd.prog 10 #[.pointer (some ⟨g, 0, none⟩), .int .i64 p] wr fun e w' => e = .returned .nilIface ∧ LkAt w w' g (pstp s p) :=
  (stepL h p).mono fun _ _ ⟨he, hl⟩ => ⟨he.trans (by rw [perr, if_pos (by omega)]; rfl), hl⟩
theorem atL {w wr : World} {g : Nat} {s : List Int} (h : LkAt w wr g s) (q : Nat) (hq : q < 2) :
    Calls Tryd.prog 13 #[.pointer (some ⟨g, 0, none⟩), .int .i64 q] wr fun e w' => e = .returned (.int .i64 (atP s q)) ∧ wr = w' :=
  at_any s h.all g wr h.lk q hq
theorem at0 {w wr : World} {g : Nat} {s : List Int} (h : LkAt w wr g s) :
    Calls Tryd.prog 13 #[.pointer (some ⟨g, 0, none⟩), .int .i64 0] wr fun e w' => e = .returned (.int .i64 (atP s 0)) ∧ wr = w' := atL h 0 (by omega)
theorem at1 {w wr : World} {g : Nat} {s : List Int} (h : LkAt w wr g s) :
    Calls Tryd.prog 13 #[.pointer (some ⟨g, 0, none⟩), .int .i64 1] wr fun e w' => e = .returned (.int .i64 (atP s 1)) ∧ wr = w' := atL h 1 (by omega)
theorem newL {w w1 : World} (h : Below w.heap.size w w1) : Calls Tryd.prog 4 #[] w1 fun e w' => ∃ g, e = .returned (.pointer (some ⟨g, 0, none⟩)) ∧ LkAt w w' g pnew :=
  (lnew_any w1).mono fun _ _ ⟨he, hk, hb⟩ => ⟨_, he, h.size, hk, h.trans (hb.mono h.size), pall_new⟩

theorem atI {w wr : World} {g : Nat} {s : List Int} (h : LkAt w wr g s) (p : Int) (h0 : 0 ≤ p) (h1 : p ≤ 1) :
    Calls Tryd.prog 13 #[.pointer (some ⟨g, 0, none⟩), .int .i64 p] wr fun e w' => e = .returned (.int .i64 (atP s p.toNat)) ∧ wr = w' := by
  obtain ⟨n, rfl⟩ := Int.eq_ofNat_of_zero_le h0
  exact atL h n (by omega)
end Go.Proofs.YtjldbgecfongfaaDoor
