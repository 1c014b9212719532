/-
  A grid of package split beside what was there.
-/
import Derived.Test.YthainkgpafbjcaaDoorSplitNew
namespace Go.Proofs.YthainkgpafbjcaaDoor.Split
open Go.RowKit

theorem Lk.far {w : World} {g n : Nat} {s : LSt} (h : Lk w g n s) {p : Addr} (hp : g ≠ p.block) (u : Value) : Lk (w.setCell p u) g n s := by
  obtain ⟨cs, h, c⟩ := h
  exact ⟨cs, h.far hp u, c⟩
theorem Lk.alloc {w : World} {g n : Nat} {s : LSt} (h : Lk w g n s) (o : Obj) : Lk (w.alloc o) g n s := by
  obtain ⟨cs, h, c⟩ := h
  exact ⟨cs, h.alloc o, c⟩
theorem Lk.below {w w' : World} {g n : Nat} {s : LSt} (h : Lk w g n s) {B : Nat} (hb : Below B w w') (hg : g < B) : Lk w' g n s := by
  obtain ⟨cs, h, c⟩ := h
  exact ⟨cs, h.below hb hg, c⟩
theorem Lk.touch {O : Nat → Prop} {w w' : World} {g n : Nat} {s : LSt} (h : Lk w g n s) (k : Touch O w w') (hn : ¬ O g) : Lk w' g n s := by
  obtain ⟨cs, h, c⟩ := h
  exact ⟨cs, h.touch k hn, c⟩
/-- Since w nothing has turned but new memory; in it a lock of n hands is as s says, and its numbers are no more than A steps make them. -/
structure LkAt (w wr : World) (g n : Nat) (s : LSt) (A : Nat) : Prop where
  new : w.heap.size ≤ g
  lk : Lk wr g n s
  below : Below w.heap.size w wr
  ok : lkOk n s
  pos : 1 ≤ n
  four : n ≤ 4
  fit : lkFit n s A
section
variable {w wr w' : World} {g n A : Nat} {s s' : LSt}
theorem LkAt.turn (h : LkAt w wr g n s A) (hk : Lk w' g n s') (ht : Touch (fun k => k = g) wr w') (ha : lkOk n s') {A' : Nat} (hf : lkFit n s' A') : LkAt w w' g n s' A' :=
  ⟨h.new, hk, h.below.trans (ht.below h.below.size fun _ hi => hi ▸ h.new), ha, h.pos, h.four, hf⟩
theorem LkAt.other {i k : Nat} {u : Value} (h : LkAt w wr g n s A) (hn : w.heap.size ≤ k) (hf : k ≠ g) : LkAt w (wr.setCell ⟨k, i, none⟩ u) g n s A :=
  ⟨h.new, h.lk.far (p := ⟨k, i, none⟩) (fun e => hf e.symm) u, h.below.setCell hn _, h.ok, h.pos, h.four, h.fit⟩
theorem LkAt.made (h : LkAt w wr g n s A) (o : Obj) : LkAt w (wr.alloc o) g n s A := ⟨h.new, h.lk.alloc o, h.below.alloc h.below.size o, h.ok, h.pos, h.four, h.fit⟩
theorem LkAt.on (h : LkAt w wr g n s A) {B : Nat} (hb : Below B wr w') (hB : wr.heap.size ≤ B) : LkAt w w' g n s A :=
  ⟨h.new, h.lk.below (hb.mono hB) h.lk.lt, h.below.trans (hb.mono (Nat.le_trans h.below.size hB)), h.ok, h.pos, h.four, h.fit⟩
theorem LkAt.age (h : LkAt w wr g n s A) {A' : Nat} (hA : A ≤ A') : LkAt w wr g n s A' := ⟨h.new, h.lk, h.below, h.ok, h.pos, h.four, lkFit_mono h.fit hA⟩
theorem stepT (h : LkAt w wr g n s A) (hA : A ≤ 100000) (p : Int) :
    Calls Tryd.prog 10 #[.pointer (some ⟨g, 0, none⟩), .int .i64 p] wr fun e w' => e = .returned (errV 40 (perr n p)) ∧ LkAt w w' g n (lkStep n s p) (A + 1) ∧ Touch (fun k => k = g) wr w' :=
  (lkStep_any wr h.lk h.four h.ok h.fit hA p).mono fun _ _ ⟨he, hk, ht⟩ => ⟨he, h.turn hk ht (lkStep_ok h.ok p) (lkFit_step h.ok h.fit p), ht⟩
theorem stepL (h : LkAt w wr g n s A) (hA : A ≤ 100000) (p : Int) :
    Calls Tryd.prog 10 #[.pointer (some ⟨g, 0, none⟩), .int .i64 p] wr fun e w' => e = .returned (errV 40 (perr n p)) ∧ LkAt w w' g n (lkStep n s p) (A + 1) :=
  (stepT h hA p).mono fun _ _ ⟨he, hk, _⟩ => ⟨he, hk⟩
theorem stepG (h : LkAt w wr g n s A) (hA : A ≤ 100000) (p : Int) (h0 : 0 ≤ p) (h1 : p < n) :
    Calls Tryd.prog 10 #[.pointer (some ⟨g, 0, none⟩), .int .i64 p] wr fun e w' => e = .returned .nilIface ∧ LkAt w w' g n (lkStep n s p) (A + 1) ∧ Touch (fun k => k = g) wr w' :=
  (stepT h hA p).mono fun _ _ ⟨he, hl⟩ => ⟨he.trans (by rw [perr, if_pos ⟨h0, h1⟩]; rfl), hl⟩
theorem atL (h : LkAt w wr g n s A) (p : Int) :
    Calls Tryd.prog 12 #[.pointer (some ⟨g, 0, none⟩), .int .i64 p] wr fun e w' => e = .returned (.int .i64 (lkAt n s p)) ∧ wr = w' :=
  at_any wr h.lk h.four p
theorem nameL (h : LkAt w wr g n s A) (p : Int) :
    Calls Tryd.prog 13 #[.pointer (some ⟨g, 0, none⟩), .int .i64 p] wr fun e w' => e = .returned (.int .i64 (lkName n s p)) ∧ LkAt w w' g n s A ∧ Below wr.heap.size wr w' :=
  (name_any wr h.lk h.four h.ok p).mono fun _ _ ⟨he, hb⟩ => ⟨he, h.on hb (Nat.le_refl _), hb⟩
theorem newL {w1 : World} (h : Below w.heap.size w w1) (h1 : 1 ≤ n) (h4 : n ≤ 4) : Calls Tryd.prog 4 #[.int .i64 n] w1 fun e w' => ∃ g, e = .returned (.tuple #[.pointer (some ⟨g, 0, none⟩), .nilIface]) ∧ LkAt w w' g n (lkNew n) 0 :=
  (lnew_any n h1 h4 w1).mono fun _ _ ⟨he, hk, hb⟩ => ⟨_, he, h.size, hk, h.trans (hb.mono h.size), lkNew_ok h1, h1, h4, lkFit_new n⟩
theorem newBad {w1 : World} (h : Below w.heap.size w w1) (z : Int) (hz : ¬ (1 ≤ z ∧ z ≤ 4)) : Calls Tryd.prog 4 #[.int .i64 z] w1 fun e w' => e = .returned (.tuple #[.pointer none, errV 40 1]) ∧ Below w.heap.size w w' :=
  (lnew_bad z hz w1).mono fun _ _ ⟨he, hb⟩ => ⟨he, h.trans (hb.mono h.size)⟩
end
theorem errV_one : errV 40 1 = .iface 40 (.int .i64 1) := rfl
end Go.Proofs.YthainkgpafbjcaaDoor.Split
