/-
  A queue of package fifo beside what was there, as chapter 16 has it.
-/
import Derived.Test.YtimdhnjkjflbdaaFifoRel
namespace Go.Proofs.Ytimdhnjkjflbdaa.Fif
open Go.RowKit

/-- What Put (x from 0 on) and Get (x below 0) answer, and make of the state. -/
def sBegE (n : Nat) (s : FG) (p x : Int) : Int := if ¬ (0 ≤ p ∧ p < n) then 1 else if (s.v.h p.toNat).a ≠ 0 then 7 else if x < 0 then 0 else if s.v.k = 40 then 4 else 0
def sBegS (n : Nat) (s : FG) (p x : Int) : FG := if sBegE n s p x = 0 then (if x < 0 then fgget s p.toNat else fgput s p.toNat) else s
def sBegV (n : Nat) (s : FG) (vl : Nat → Int) (p x : Int) : Nat → Int := if sBegE n s p x = 0 then (if x < 0 then vl else rput vl s.v.k x) else vl
/-- What Step answers, and makes of the state. -/
def sStpE (n : Nat) (s : FG) (p : Int) : Int := if ¬ (0 ≤ p ∧ p < n) then 1 else if (s.v.h p.toNat).a = 0 then 7 else 0
def sStpD (n : Nat) (s : FG) (p : Int) : Bool := if sStpE n s p = 0 then sfin s.v p.toNat else false
def sStpG (n : Nat) (s : FG) (vl : Nat → Int) (p : Int) : Int := if sStpE n s p = 0 then stold s.v vl p.toNat else 0
def sStpS (n : Nat) (s : FG) (p : Int) : FG := if sStpE n s p = 0 then fgstp s p.toNat else s
def sAt (n : Nat) (s : FG) (p : Int) : Nat := if 0 ≤ p ∧ p < n then (s.v.h p.toNat).a else 0
section
variable {n : Nat} {s : FG} {p x : Int}
theorem sStp_some (h : sStpE n s p = 0) : ∃ q : Nat, p = (q : Int) ∧ q < n ∧ (s.v.h q).a ≠ 0 := by
  unfold sStpE at h
  split at h
  · omega
  · rename_i h1
    split at h
    · omega
    · rename_i h2
      exact ⟨p.toNat, by omega, by omega, h2⟩
theorem sStp_err : sStpE n s p = 0 ∨ sStpE n s p = 1 ∨ sStpE n s p = 7 := by
  unfold sStpE; split
  · omega
  · split <;> omega
theorem sBeg_some (h : sBegE n s p x = 0) : ∃ q : Nat, p = (q : Int) ∧ q < n ∧ (s.v.h q).a = 0 ∧ (¬ x < 0 → s.v.k ≠ 40) := by
  unfold sBegE at h
  split at h
  · omega
  · rename_i h1
    split at h
    · omega
    · rename_i h2
      refine ⟨p.toNat, by omega, by omega, by omega, fun hx => ?_⟩
      rw [if_neg hx] at h
      intro e
      rw [if_pos e] at h
      omega
theorem sBeg_err : sBegE n s p x = 0 ∨ sBegE n s p x = 1 ∨ sBegE n s p x = 7 ∨ sBegE n s p x = 4 := by
  unfold sBegE; split
  · omega
  · split
    · omega
    · split
      · omega
      · split <;> omega
theorem sStep_ok (h : FOk n s) : FOk n (sStpS n s p) := by
  by_cases he : sStpE n s p = 0
  · obtain ⟨q, rfl, hq, ha⟩ := sStp_some he
    unfold sStpS; rw [if_pos he]
    exact h.step hq ha
  · unfold sStpS; rw [if_neg he]; exact h
theorem sBeg_ok (h : FOk n s) : FOk n (sBegS n s p x) := by
  unfold sBegS
  split
  · split
    · exact h.beginGet
    · exact h.beginPut
  · exact h
theorem sStep_k : (sStpS n s p).v.k = s.v.k := by unfold sStpS; split <;> rfl
theorem sBeg_k (hk : s.v.k ≤ 40) : (sBegS n s p x).v.k ≤ 40 := by
  unfold sBegS
  split
  · rename_i he
    split
    · exact hk
    · rename_i hx
      obtain ⟨q, _, _, _, h4⟩ := sBeg_some he
      have := h4 hx
      show s.v.k + 1 ≤ 40
      omega
  · exact hk
variable {v : QF} {vl : Nat → Int}
theorem PR.begE (h : PR n v s.v vl) : begE n v p x = sBegE n s p x := by
  unfold Fif.begE sBegE
  by_cases hp : 0 ≤ p ∧ p < n
  · rw [if_neg (show ¬ ¬ (0 ≤ p ∧ p < (n : Int)) from fun q => q hp), if_neg (show ¬ ¬ (0 ≤ p ∧ p < (n : Int)) from fun q => q hp), (h.hand p.toNat (by omega)).1, h.ct]
  · rw [if_pos hp, if_pos hp]
theorem PR.begS (h : PR n v s.v vl) : PR n (begS n v p x) (sBegS n s p x).v (sBegV n s vl p x) := by
  have e := h.begE (p := p) (x := x)
  unfold Fif.begS sBegS sBegV
  rw [e]
  split
  · split
    · exact h.get p.toNat
    · exact h.put p.toNat x
  · exact h
theorem PR.stpE (h : PR n v s.v vl) : stpE n v p = sStpE n s p := by
  unfold Fif.stpE sStpE
  by_cases hp : 0 ≤ p ∧ p < n
  · rw [if_neg (show ¬ ¬ (0 ≤ p ∧ p < (n : Int)) from fun q => q hp), if_neg (show ¬ ¬ (0 ≤ p ∧ p < (n : Int)) from fun q => q hp), (h.hand p.toNat (by omega)).1]
  · rw [if_pos hp, if_pos hp]
theorem PR.stp (h : PR n v s.v vl) (k : FOk n s) : stpD n v p = sStpD n s p ∧ stpG n v p = sStpG n s vl p ∧ PR n (stpS n v p) (sStpS n s p).v vl := by
  have e := h.stpE (p := p)
  by_cases he : sStpE n s p = 0
  · obtain ⟨q, rfl, hq, ha⟩ := sStp_some he
    obtain ⟨f1, f2⟩ := h.fin k hq
    unfold stpD stpG stpS sStpD sStpG sStpS
    rw [e, he]
    exact ⟨f1, f2, h.step k hq ha⟩
  · unfold stpD stpG stpS sStpD sStpG sStpS
    rw [e, if_neg he, if_neg he, if_neg he, if_neg he, if_neg he, if_neg he]
    exact ⟨rfl, rfl, h⟩
theorem PR.at_ (h : PR n v s.v vl) : lkAt n v p = sAt n s p := by
  unfold lkAt sAt
  by_cases hp : 0 ≤ p ∧ p < n
  · rw [if_pos hp, if_pos hp, (h.hand p.toNat (by omega)).1]
  · rw [if_neg hp, if_neg hp]
end
/-- Since w nothing has turned but new memory; in it a queue for n hands is as s says, its nodes' values as vl says. -/
structure LkAt (w wr : World) (g n : Nat) (s : FG) (vl : Nat → Int) : Prop where
  new : w.heap.size ≤ g
  lk : ∃ v, Lk wr g n v ∧ PR n v s.v vl
  below : Below w.heap.size w wr
  ok : FOk n s
  k : s.v.k ≤ 40
  pos : 1 ≤ n
  four : n ≤ 4
section
variable {w wr w' : World} {g n : Nat} {s s' : FG} {vl vl' : Nat → Int}
theorem LkAt.lt (h : LkAt w wr g n s vl) : g < wr.heap.size := by
  obtain ⟨v, hv, _⟩ := h.lk
  exact hv.lt
theorem LkAt.turn (h : LkAt w wr g n s vl) {v : QF} (hk : Lk w' g n v) (hr : PR n v s'.v vl') (ht : Touch (fun k => k = g) wr w') (ha : FOk n s') (h4 : s'.v.k ≤ 40) : LkAt w w' g n s' vl' :=
  ⟨h.new, ⟨v, hk, hr⟩, h.below.trans (ht.below h.below.size fun _ hi => hi ▸ h.new), ha, h4, h.pos, h.four⟩
theorem LkAt.made (h : LkAt w wr g n s vl) (o : Obj) : LkAt w (wr.alloc o) g n s vl := ⟨h.new, h.lk.imp fun _ q => ⟨q.1.alloc o, q.2⟩, h.below.alloc h.below.size o, h.ok, h.k, h.pos, h.four⟩
theorem LkAt.on (h : LkAt w wr g n s vl) {B : Nat} (hb : Below B wr w') (hB : wr.heap.size ≤ B) : LkAt w w' g n s vl :=
  ⟨h.new, h.lk.imp fun _ q => ⟨q.1.below (hb.mono hB) q.1.lt, q.2⟩, h.below.trans (hb.mono (Nat.le_trans h.below.size hB)), h.ok, h.k, h.pos, h.four⟩
theorem LkAt.drewN (h : LkAt w wr g n s vl) (i : Nat) : LkAt w (wr.drewN i) g n s vl := h.on (w' := wr.drewN i) (below_drewN (Below.refl wr.heap.size wr) i) (Nat.le_refl _)
theorem LkAt.drew (h : LkAt w wr g n s vl) : LkAt w wr.drew g n s vl := h.on (w' := wr.drew) (Below.refl wr.heap.size wr).drew (Nat.le_refl _)
theorem LkAt.touch {O : Nat → Prop} (h : LkAt w wr g n s vl) (ht : Touch O wr w') (hO : ∀ k, O k → w.heap.size ≤ k ∧ k ≠ g) : LkAt w w' g n s vl :=
  ⟨h.new, h.lk.imp fun _ q => ⟨q.1.touch ht fun e => (hO g e).2 rfl, q.2⟩, h.below.trans (ht.below h.below.size fun i hi => (hO i hi).1), h.ok, h.k, h.pos, h.four⟩
theorem putL (h : LkAt w wr g n s vl) (p x : Int) (hx : 0 ≤ x) (hx2 : x ≤ 1000) :
    Calls Try.prog 20 #[.pointer (some ⟨g, 0, none⟩), .int .i64 p, .int .i64 x] wr fun e w' => e = .returned (errV 55 (sBegE n s p x)) ∧ LkAt w w' g n (sBegS n s p x) (sBegV n s vl p x) ∧ Touch (fun k => k = g) wr w' := by
  obtain ⟨v, hv, hr⟩ := h.lk
  exact (put_any wr hv h.four (by rw [hr.ct]; exact h.k) p x hx hx2).mono fun _ _ ⟨he, hk, ht⟩ => ⟨by rw [he, hr.begE], h.turn hk hr.begS ht (sBeg_ok h.ok) (sBeg_k h.k), ht⟩
theorem putFar (h : LkAt w wr g n s vl) (p x : Int) (hx : 1000 < x) :
    Calls Try.prog 20 #[.pointer (some ⟨g, 0, none⟩), .int .i64 p, .int .i64 x] wr fun e w' => e = .returned (errV 55 1) ∧ LkAt w w' g n s vl ∧ Touch (fun k => k = g) wr w' := by
  obtain ⟨v, hv, hr⟩ := h.lk
  exact (put_far wr hv p x hx).mono fun _ _ ⟨he, hk, ht⟩ => ⟨he, h.turn hk hr ht h.ok h.k, ht⟩
theorem getL (h : LkAt w wr g n s vl) (p x : Int) (hx : x < 0) :
    Calls Try.prog 19 #[.pointer (some ⟨g, 0, none⟩), .int .i64 p] wr fun e w' => e = .returned (errV 55 (sBegE n s p x)) ∧ LkAt w w' g n (sBegS n s p x) (sBegV n s vl p x) ∧ Touch (fun k => k = g) wr w' := by
  obtain ⟨v, hv, hr⟩ := h.lk
  exact (get_any wr hv h.four p x hx).mono fun _ _ ⟨he, hk, ht⟩ => ⟨by rw [he, hr.begE], h.turn hk hr.begS ht (sBeg_ok h.ok) (sBeg_k h.k), ht⟩
theorem stepL (h : LkAt w wr g n s vl) (p : Int) :
    Calls Try.prog 21 #[.pointer (some ⟨g, 0, none⟩), .int .i64 p] wr fun e w' =>
      e = .returned (.tuple #[.bool (sStpD n s p), .int .i64 (sStpG n s vl p), errV 55 (sStpE n s p)]) ∧ LkAt w w' g n (sStpS n s p) vl ∧ Touch (fun k => k = g) wr w' := by
  obtain ⟨v, hv, hr⟩ := h.lk
  obtain ⟨f1, f2, f3⟩ := hr.stp h.ok (p := p)
  exact (step_any wr hv h.four (hr.loc h.ok h.k) p).mono fun _ _ ⟨he, hk, ht⟩ => ⟨by rw [he, hr.stpE, f1, f2], h.turn hk f3 ht (sStep_ok h.ok) (by rw [sStep_k]; exact h.k), ht⟩
theorem newL {w1 : World} (h : Below w.heap.size w w1) (h1 : 1 ≤ n) (h4 : n ≤ 4) : Calls Try.prog 18 #[.int .i64 n] w1 fun e w' => ∃ g, e = .returned (.tuple #[.pointer (some ⟨g, 0, none⟩), .nilIface]) ∧ LkAt w w' g n fgnew (fun _ => 0) :=
  (new_any n h1 h4 w1).mono fun _ _ ⟨he, hk, hb⟩ => ⟨_, he, h.size, ⟨_, hk, qnew_pr n⟩, h.trans (hb.mono h.size), fgnew_ok n, by decide, h1, h4⟩
theorem newBad {w1 : World} (h : Below w.heap.size w w1) (z : Int) (hz : ¬ (1 ≤ z ∧ z ≤ 4)) : Calls Try.prog 18 #[.int .i64 z] w1 fun e w' => e = .returned (.tuple #[.pointer none, errV 55 1]) ∧ Below w.heap.size w w' :=
  (new_bad z hz w1).mono fun _ _ ⟨he, hb⟩ => ⟨he, h.trans (hb.mono h.size)⟩
end
theorem errV_one : errV 55 1 = .iface 55 (.int .i64 1) := rfl
theorem errV_four : errV 55 4 = .iface 55 (.int .i64 4) := rfl
theorem errV_seven : errV 55 7 = .iface 55 (.int .i64 7) := rfl
theorem errV_zero : errV 55 0 = .nilIface := rfl
end Go.Proofs.Ytimdhnjkjflbdaa.Fif
