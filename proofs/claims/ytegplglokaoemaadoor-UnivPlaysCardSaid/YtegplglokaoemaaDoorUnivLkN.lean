/-
  A row of package univ beside what was there, with what is known of all that was done.
-/
import Derived.Test.YtegplglokaoemaaDoorUnivNew
namespace Go.Proofs.YtegplglokaoemaaDoor.Univ
open Go.RowKit

/-- The state with its ghosts; what holds of all at time T. -/
structure UF (n T : Nat) (g : UG) : Prop where
  ok : UOk n T g
  k : g.v.k ≤ 40
  x : ∀ i, g.v.add i ≤ 1000
theorem ufnew (n : Nat) : UF n 0 ugnew := ⟨ugnew_ok n, Nat.zero_le _, fun _ => Nat.zero_le _⟩
theorem usum_le {add cell : Nat → Nat} (h : ∀ i, add i ≤ 1000) : ∀ j, usum add cell j ≤ 1000 * j := by
  intro j
  induction j with
  | zero => exact Nat.le_refl _
  | succ j ih =>
    have h1 := h (cell j)
    unfold usum
    omega
section
variable {n T : Nat} {s : UG}
theorem UF.m (h : UF n T s) : s.v.m ≤ 40 := by have := h.ok.few; have := h.k; omega
theorem UF.loc (h : UF n T s) : Loc n s.v := by
  refine ⟨h.m, h.k, h.ok.ln, fun p hp ha => ?_, fun p hp ha => ?_, fun p hp ha => ?_, h.x⟩
  · have h1 := uleft_pos h.ok hp ha
    have := h.k; omega
  · have h1 := (h.ok.cm p hp (by omega)).2 ha
    have h2 := (h.ok.ck _ h1).1
    have := h.k; omega
  · have h1 := (h.ok.cm p hp ha).1
    have h2 := h.ok.sm p hp ha
    have h3 := usum_le (cell := s.v.cell) h.x (s.v.h p).c
    have := h.m; omega
theorem UF.later (h : UF n T s) {U : Nat} (hU : T ≤ U) : UF n U s := ⟨h.ok.later hU, h.k, h.x⟩
/-- What Begin, Step make of the state at time T. -/
def gbeg (n T : Nat) (s : UG) (p x : Int) : UG := if begE n s.v p x = 0 then ugbeg s T p.toNat x.toNat else s
def gstp (n T : Nat) (s : UG) (p : Int) : UG := if stpE n s.v p = 0 then ugstep s T p.toNat else s
theorem gbeg_v (n T : Nat) (s : UG) (p x : Int) : (gbeg n T s p x).v = begS n s.v p x := by
  unfold gbeg begS; split <;> rfl
theorem gstp_v (n T : Nat) (s : UG) (p : Int) : (gstp n T s p).v = stpS n s.v p := by
  unfold gstp stpS; split <;> rfl
theorem stp_some {v : US} {p : Int} (h : stpE n v p = 0) : ∃ q : Nat, p = (q : Int) ∧ q < n ∧ (v.h q).a ≠ 0 := by
  unfold stpE at h
  split at h
  · omega
  · rename_i h1
    split at h
    · omega
    · rename_i h2
      exact ⟨p.toNat, by omega, by omega, h2⟩
theorem stp_err {v : US} {p : Int} : stpE n v p = 0 ∨ stpE n v p = 1 ∨ stpE n v p = 7 := by
  unfold stpE; split
  · omega
  · split <;> omega
theorem UF.beg (h : UF n T s) (hT : T ≤ 1000) (p x : Int) : UF n (T + 1) (gbeg n T s p x) := by
  by_cases he : begE n s.v p x = 0
  · obtain ⟨q, y, rfl, rfl, hq, hy, ha, hk, _⟩ := beg_some he
    unfold gbeg
    rw [if_pos he]
    refine ⟨h.ok.beg hq ha hT, ?_, fun i => ?_⟩
    · have := h.k
      show s.v.k + 1 ≤ 40
      omega
    · show uput s.v.add s.v.k y i ≤ 1000
      by_cases e : i = s.v.k
      · rw [e, uput_same]; exact hy
      · rw [uput_other e]; exact h.x i
  · unfold gbeg
    rw [if_neg he]
    exact h.later (Nat.le_succ _)
theorem UF.stp (h : UF n T s) (p : Int) : UF n (T + 1) (gstp n T s p) := by
  by_cases he : stpE n s.v p = 0
  · obtain ⟨q, rfl, hq, ha⟩ := stp_some he
    unfold gstp
    rw [if_pos he]
    exact ⟨h.ok.step hq ha, h.k, h.x⟩
  · unfold gstp
    rw [if_neg he]
    exact h.later (Nat.le_succ _)
end
/-- Since w nothing has turned but new memory; in it a row of n hands is as s says, at time T. -/
structure LkAt (w wr : World) (g n T : Nat) (s : UG) : Prop where
  new : w.heap.size ≤ g
  lk : Lk wr g n s.v
  below : Below w.heap.size w wr
  ok : UF n T s
  pos : 1 ≤ n
  four : n ≤ 4
section
variable {w wr w' : World} {g n T : Nat} {s s' : UG}
theorem LkAt.turn (h : LkAt w wr g n T s) (hk : Lk w' g n s'.v) (ht : Touch (fun k => k = g) wr w') {T' : Nat} (ha : UF n T' s') : LkAt w w' g n T' s' :=
  ⟨h.new, hk, h.below.trans (ht.below h.below.size fun _ hi => hi ▸ h.new), ha, h.pos, h.four⟩
theorem LkAt.other {i k : Nat} {u : Value} (h : LkAt w wr g n T s) (hn : w.heap.size ≤ k) (hf : k ≠ g) : LkAt w (wr.setCell ⟨k, i, none⟩ u) g n T s :=
  ⟨h.new, h.lk.far (p := ⟨k, i, none⟩) (fun e => hf e.symm) u, h.below.setCell hn _, h.ok, h.pos, h.four⟩
theorem LkAt.made (h : LkAt w wr g n T s) (o : Obj) : LkAt w (wr.alloc o) g n T s := ⟨h.new, h.lk.alloc o, h.below.alloc h.below.size o, h.ok, h.pos, h.four⟩
theorem LkAt.on (h : LkAt w wr g n T s) {B : Nat} (hb : Below B wr w') (hB : wr.heap.size ≤ B) : LkAt w w' g n T s :=
  ⟨h.new, h.lk.below (hb.mono hB) h.lk.lt, h.below.trans (hb.mono (Nat.le_trans h.below.size hB)), h.ok, h.pos, h.four⟩
theorem LkAt.touch {O : Nat → Prop} (h : LkAt w wr g n T s) (ht : Touch O wr w') (hO : ∀ k, O k → w.heap.size ≤ k ∧ k ≠ g) : LkAt w w' g n T s :=
  ⟨h.new, h.lk.touch ht fun e => (hO g e).2 rfl, h.below.trans (ht.below h.below.size fun i hi => (hO i hi).1), h.ok, h.pos, h.four⟩
theorem LkAt.later (h : LkAt w wr g n T s) {U : Nat} (hU : T ≤ U) : LkAt w wr g n U s := ⟨h.new, h.lk, h.below, h.ok.later hU, h.pos, h.four⟩
theorem beginT (h : LkAt w wr g n T s) (hT : T ≤ 1000) (p x : Int) :
    Calls Tryd.prog 8 #[.pointer (some ⟨g, 0, none⟩), .int .i64 p, .int .i64 x] wr fun e w' => e = .returned (errV 44 (begE n s.v p x)) ∧ LkAt w w' g n (T + 1) (gbeg n T s p x) ∧ Touch (fun k => k = g) wr w' :=
  (begin_any wr h.lk h.four h.ok.loc p x).mono fun _ _ ⟨he, hk, ht⟩ => ⟨he, h.turn ((gbeg_v n T s p x).symm ▸ hk) ht (h.ok.beg hT p x), ht⟩
theorem stepT (h : LkAt w wr g n T s) (p : Int) :
    Calls Tryd.prog 10 #[.pointer (some ⟨g, 0, none⟩), .int .i64 p] wr fun e w' =>
      e = .returned (.tuple #[.bool (stpD n s.v p), .int .i64 (stpG n s.v p), errV 44 (stpE n s.v p)]) ∧ LkAt w w' g n (T + 1) (gstp n T s p) ∧ Touch (fun k => k = g) wr w' :=
  (step_any wr h.lk h.four h.ok.loc p).mono fun _ _ ⟨he, hk, ht⟩ => ⟨he, h.turn ((gstp_v n T s p).symm ▸ hk) ht (h.ok.stp p), ht⟩
theorem atL (h : LkAt w wr g n T s) (p : Int) :
    Calls Tryd.prog 11 #[.pointer (some ⟨g, 0, none⟩), .int .i64 p] wr fun e w' => e = .returned (.int .i64 (lkAt n s.v p)) ∧ wr = w' :=
  at_any wr h.lk h.four p
theorem orderL (h : LkAt w wr g n T s) :
    Calls Tryd.prog 13 #[.pointer (some ⟨g, 0, none⟩)] wr fun e w' => ∃ u, e = .returned u ∧ Nums w' w'.heap.size u (lkOrder s.v) ∧ Below wr.heap.size wr w' ∧ LkAt w w' g n T s :=
  (order_any wr h.lk h.ok.m).mono fun _ _ ⟨u, he, hu, hb⟩ => ⟨u, he, hu, hb, h.on hb (Nat.le_refl _)⟩
theorem newL {w1 : World} (h : Below w.heap.size w w1) (h1 : 1 ≤ n) (h4 : n ≤ 4) : Calls Tryd.prog 4 #[.int .i64 n] w1 fun e w' => ∃ g, e = .returned (.tuple #[.pointer (some ⟨g, 0, none⟩), .nilIface]) ∧ LkAt w w' g n 0 ugnew :=
  (unew_any n h1 h4 w1).mono fun _ _ ⟨he, hk, hb⟩ => ⟨_, he, h.size, hk, h.trans (hb.mono h.size), ufnew n, h1, h4⟩
theorem newBad {w1 : World} (h : Below w.heap.size w w1) (z : Int) (hz : ¬ (1 ≤ z ∧ z ≤ 4)) : Calls Tryd.prog 4 #[.int .i64 z] w1 fun e w' => e = .returned (.tuple #[.pointer none, errV 44 1]) ∧ Below w.heap.size w w' :=
  (unew_bad z hz w1).mono fun _ _ ⟨he, hb⟩ => ⟨he, h.trans (hb.mono h.size)⟩
end
theorem errV_one : errV 44 1 = .iface 44 (.int .i64 1) := rfl
theorem errV_four : errV 44 4 = .iface 44 (.int .i64 4) := rfl
theorem errV_seven : errV 44 7 = .iface 44 (.int .i64 7) := rfl
theorem errV_zero : errV 44 0 = .nilIface := rfl
end Go.Proofs.YtegplglokaoemaaDoor.Univ
