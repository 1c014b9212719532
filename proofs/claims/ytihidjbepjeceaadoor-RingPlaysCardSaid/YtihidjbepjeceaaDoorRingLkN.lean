/-
  A ring of package ring beside what was there, as chapter 17 has it.
-/
import Derived.Test.YtihidjbepjeceaaDoorRing
import Derived.Test.YtihidjbepjeceaaDoorRngMath
namespace Go.Proofs.YtihidjbepjeceaaDoor.Ring
open Go.RowKit

/-- What the cells have of a state: a side that does nothing has no value; who gets has none ahead of line 6. -/
def raw (s : RGS) : RF := ⟨s.pl, s.hd, s.tl, s.pa, if s.pa = 0 then 0 else s.pv, s.ga, if s.ga = 6 then s.gv else 0⟩
/-- What Put (of what may be put), Get and the steps make of a state. -/
def sPut (s : RGS) (x : Nat) : RGS := if s.pa = 0 then rgput s x else s
def sGet (s : RGS) : RGS := if s.ga = 0 then rgget s else s
def sSp (n : Nat) (s : RGS) : RGS := if s.pa = 0 then s else rgsp n s
def sSg (n : Nat) (s : RGS) : RGS := if s.ga = 0 then s else rgsg n s
/-- What they answer. -/
def sE (a : Nat) : Int := if a = 0 then 0 else 7
def pD (n : Nat) (s : RGS) : Bool := if s.pa = 1 then decide (s.tl = s.hd + n) else if s.pa = 3 then true else false
def pP (s : RGS) : Bool := decide (s.pa = 3)
def pE (s : RGS) : Int := if s.pa = 0 then 7 else 0
def gD (s : RGS) : Bool := if s.ga = 4 then decide (s.tl = s.hd) else if s.ga = 6 then true else false
def gG (s : RGS) : Int := if s.ga = 4 then (if s.tl = s.hd then -1 else 0) else if s.ga = 6 then (s.gv : Int) else 0
def gE (s : RGS) : Int := if s.ga = 0 then 7 else 0
theorem rf_ext {a b : RF} (h1 : a.pl = b.pl) (h2 : a.hd = b.hd) (h3 : a.tl = b.tl) (h4 : a.pa = b.pa) (h5 : a.pv = b.pv) (h6 : a.ga = b.ga) (h7 : a.gv = b.gv) : a = b := by
  cases a; cases b
  dsimp only at *
  subst h1 h2 h3 h4 h5 h6 h7
  rfl
theorem rput_gup (f : Nat → Nat) (i x : Nat) : rput f i x = gup f i x := rfl
section
variable {n : Nat} {s : RGS}
theorem raw_put (x : Nat) : bput (raw s) x = raw (sPut s x) := by
  unfold bput sPut
  by_cases h : s.pa = 0
  · rw [if_pos (show (raw s).pa = 0 from h), if_pos h]
    exact rf_ext rfl rfl rfl rfl rfl rfl rfl
  · rw [if_neg (show ¬ (raw s).pa = 0 from h), if_neg h]
theorem raw_get : bget (raw s) = raw (sGet s) := by
  unfold bget sGet
  by_cases h : s.ga = 0
  · rw [if_pos (show (raw s).ga = 0 from h), if_pos h]
    exact rf_ext rfl rfl rfl rfl rfl rfl rfl
  · rw [if_neg (show ¬ (raw s).ga = 0 from h), if_neg h]
theorem raw_sp : spS n (raw s) = raw (sSp n s) := by
  unfold spS sSp
  by_cases h : s.pa = 0
  · rw [if_pos (show (raw s).pa = 0 from h), if_pos h]
  · rw [if_neg (show ¬ (raw s).pa = 0 from h), if_neg h]
    unfold rgsp
    by_cases h1 : s.pa = 1
    · rw [if_pos (show (raw s).pa = 1 from h1), if_pos h1]
      by_cases hf : s.tl = s.hd + n
      · rw [if_pos (show (raw s).tl = (raw s).hd + n from hf), if_pos hf]
        exact rf_ext rfl rfl rfl rfl rfl rfl rfl
      · rw [if_neg (show ¬ (raw s).tl = (raw s).hd + n from hf), if_neg hf]
        exact rf_ext rfl rfl rfl rfl (show (if s.pa = 0 then 0 else s.pv) = s.pv from if_neg h) rfl rfl
    · rw [if_neg (show ¬ (raw s).pa = 1 from h1), if_neg h1]
      by_cases h2 : s.pa = 2
      · rw [if_pos (show (raw s).pa = 2 from h2), if_pos h2]
        refine rf_ext ?_ rfl rfl rfl (show (if s.pa = 0 then 0 else s.pv) = s.pv from if_neg h) rfl rfl
        show rput s.pl (s.tl % n) (if s.pa = 0 then 0 else s.pv) = gup s.pl (s.tl % n) s.pv
        rw [if_neg h]; rfl
      · rw [if_neg (show ¬ (raw s).pa = 2 from h2), if_neg h2]
        exact rf_ext rfl rfl rfl rfl rfl rfl rfl
theorem raw_sg : sgS n (raw s) = raw (sSg n s) := by
  unfold sgS sSg
  by_cases h : s.ga = 0
  · rw [if_pos (show (raw s).ga = 0 from h), if_pos h]
  · rw [if_neg (show ¬ (raw s).ga = 0 from h), if_neg h]
    unfold rgsg
    by_cases h1 : s.ga = 4
    · rw [if_pos (show (raw s).ga = 4 from h1), if_pos h1]
      by_cases hf : s.tl = s.hd
      · rw [if_pos (show (raw s).tl = (raw s).hd from hf), if_pos hf]
        exact rf_ext rfl rfl rfl rfl rfl rfl rfl
      · rw [if_neg (show ¬ (raw s).tl = (raw s).hd from hf), if_neg hf]
        exact rf_ext rfl rfl rfl rfl rfl rfl (show (if s.ga = 6 then s.gv else 0) = 0 from if_neg (by omega))
    · rw [if_neg (show ¬ (raw s).ga = 4 from h1), if_neg h1]
      by_cases h2 : s.ga = 5
      · rw [if_pos (show (raw s).ga = 5 from h2), if_pos h2]
        exact rf_ext rfl rfl rfl rfl rfl rfl rfl
      · rw [if_neg (show ¬ (raw s).ga = 5 from h2), if_neg h2]
        exact rf_ext rfl rfl rfl rfl rfl rfl rfl
theorem raw_gG : sgG (raw s) = gG s := by
  unfold sgG gG
  by_cases h1 : s.ga = 4
  · rw [if_pos (show (raw s).ga = 4 from h1), if_pos h1]; rfl
  · rw [if_neg (show ¬ (raw s).ga = 4 from h1), if_neg h1]
    by_cases h2 : s.ga = 6
    · rw [if_pos (show (raw s).ga = 6 from h2), if_pos h2]
      show ((if s.ga = 6 then s.gv else 0 : Nat) : Int) = _
      rw [if_pos h2]
    · rw [if_neg (show ¬ (raw s).ga = 6 from h2), if_neg h2]
theorem sPut_ok (k : RGOk n s) (x : Nat) : RGOk n (sPut s x) := by
  unfold sPut; split
  · exact k.beginPut x
  · exact k
theorem sGet_ok (k : RGOk n s) : RGOk n (sGet s) := by
  unfold sGet; split
  · exact k.beginGet
  · exact k
theorem sSp_ok (k : RGOk n s) : RGOk n (sSp n s) := by
  unfold sSp; split
  · exact k
  · exact k.stepPut (by assumption)
theorem sSg_ok (k : RGOk n s) : RGOk n (sSg n s) := by
  unfold sSg; split
  · exact k
  · exact k.stepGet (by assumption)
theorem sPut_tl (x : Nat) : (sPut s x).tl = s.tl := by unfold sPut; split <;> rfl
theorem sGet_tl : (sGet s).tl = s.tl := by unfold sGet; split <;> rfl
theorem sSp_tl : (sSp n s).tl ≤ s.tl + 1 := by
  unfold sSp; split
  · omega
  · unfold rgsp
    split
    · split
      · exact Nat.le_succ _
      · exact Nat.le_succ _
    · split
      · exact Nat.le_succ _
      · exact Nat.le_refl _
theorem sSg_tl : (sSg n s).tl = s.tl := by
  unfold sSg; split
  · rfl
  · unfold rgsg
    split
    · split <;> rfl
    · split <;> rfl
end
/-- Since w nothing has turned but new memory; in it a ring of n places is as s says; no more than a were put. -/
structure LkAt (w wr : World) (g n : Nat) (s : RGS) (a : Nat) : Prop where
  new : w.heap.size ≤ g
  lk : Lk wr g n (raw s)
  below : Below w.heap.size w wr
  ok : RGOk n s
  age : s.tl ≤ a
  pos : 1 ≤ n
  eight : n ≤ 8
section
variable {w wr w' : World} {g n : Nat} {s s' : RGS} {a a' : Nat}
theorem LkAt.lt (h : LkAt w wr g n s a) : g < wr.heap.size := h.lk.lt
theorem LkAt.turn (h : LkAt w wr g n s a) (hk : Lk w' g n (raw s')) (ht : Touch (fun k => k = g) wr w') (ho : RGOk n s') (ha : s'.tl ≤ a') : LkAt w w' g n s' a' :=
  ⟨h.new, hk, h.below.trans (ht.below h.below.size fun _ hi => hi ▸ h.new), ho, ha, h.pos, h.eight⟩
theorem LkAt.older (h : LkAt w wr g n s a) (ha : a ≤ a') : LkAt w wr g n s a' := ⟨h.new, h.lk, h.below, h.ok, Nat.le_trans h.age ha, h.pos, h.eight⟩
theorem LkAt.made (h : LkAt w wr g n s a) (o : Obj) : LkAt w (wr.alloc o) g n s a := ⟨h.new, h.lk.alloc o, h.below.alloc h.below.size o, h.ok, h.age, h.pos, h.eight⟩
theorem LkAt.on (h : LkAt w wr g n s a) {B : Nat} (hb : Below B wr w') (hB : wr.heap.size ≤ B) : LkAt w w' g n s a :=
  ⟨h.new, h.lk.below (hb.mono hB) h.lt, h.below.trans (hb.mono (Nat.le_trans h.below.size hB)), h.ok, h.age, h.pos, h.eight⟩
theorem LkAt.drewN (h : LkAt w wr g n s a) (i : Nat) : LkAt w (wr.drewN i) g n s a := h.on (w' := wr.drewN i) (below_drewN (Below.refl wr.heap.size wr) i) (Nat.le_refl _)
theorem LkAt.drew (h : LkAt w wr g n s a) : LkAt w wr.drew g n s a := h.on (w' := wr.drew) (Below.refl wr.heap.size wr).drew (Nat.le_refl _)
theorem LkAt.touch {O : Nat → Prop} (h : LkAt w wr g n s a) (ht : Touch O wr w') (hO : ∀ k, O k → w.heap.size ≤ k ∧ k ≠ g) : LkAt w w' g n s a :=
  ⟨h.new, h.lk.touch ht fun e => (hO g e).2 rfl, h.below.trans (ht.below h.below.size fun i hi => (hO i hi).1), h.ok, h.age, h.pos, h.eight⟩
theorem putL (h : LkAt w wr g n s a) (x : Nat) (hx : x ≤ 1000) :
    Calls Tryd.prog 12 #[.pointer (some ⟨g, 0, none⟩), .int .i64 (x : Int)] wr fun e w' => e = .returned (errV 47 (sE s.pa)) ∧ LkAt w w' g n (sPut s x) a ∧ Touch (fun k => k = g) wr w' :=
  (put_any wr h.lk x hx).mono fun _ _ ⟨he, hk, ht⟩ => ⟨he, h.turn (by rw [← raw_put]; exact hk) ht (sPut_ok h.ok x) (by rw [sPut_tl]; exact h.age), ht⟩
theorem putFar (h : LkAt w wr g n s a) (x : Int) (hx : ¬ (0 ≤ x ∧ x ≤ 1000)) :
    Calls Tryd.prog 12 #[.pointer (some ⟨g, 0, none⟩), .int .i64 x] wr fun e w' => e = .returned (errV 47 1) ∧ LkAt w w' g n s a ∧ Touch (fun k => k = g) wr w' :=
  (put_far wr h.lk x hx).mono fun _ _ ⟨he, hk, ht⟩ => ⟨he, h.turn hk ht h.ok h.age, ht⟩
theorem getL (h : LkAt w wr g n s a) :
    Calls Tryd.prog 10 #[.pointer (some ⟨g, 0, none⟩)] wr fun e w' => e = .returned (errV 47 (sE s.ga)) ∧ LkAt w w' g n (sGet s) a ∧ Touch (fun k => k = g) wr w' :=
  (get_any wr h.lk).mono fun _ _ ⟨he, hk, ht⟩ => ⟨he, h.turn (by rw [← raw_get]; exact hk) ht (sGet_ok h.ok) (by rw [sGet_tl]; exact h.age), ht⟩
theorem spL (h : LkAt w wr g n s a) (ha : a ≤ 1000000) :
    Calls Tryd.prog 7 #[.pointer (some ⟨g, 0, none⟩)] wr fun e w' =>
      e = .returned (.tuple #[.bool (pD n s), .bool (pP s), errV 47 (pE s)]) ∧ LkAt w w' g n (sSp n s) (a + 1) ∧ Touch (fun k => k = g) wr w' :=
  (stepPut_any wr h.lk h.pos h.eight h.ok.pa h.ok.lo (Nat.le_trans h.age ha)).mono fun _ _ ⟨he, hk, ht⟩ => ⟨he, h.turn (by rw [← raw_sp]; exact hk) ht (sSp_ok h.ok) (Nat.le_trans sSp_tl (Nat.succ_le_succ h.age)), ht⟩
theorem sgL (h : LkAt w wr g n s a) (ha : a ≤ 1000000) :
    Calls Tryd.prog 9 #[.pointer (some ⟨g, 0, none⟩)] wr fun e w' =>
      e = .returned (.tuple #[.bool (gD s), .int .i64 (gG s), errV 47 (gE s)]) ∧ LkAt w w' g n (sSg n s) a ∧ Touch (fun k => k = g) wr w' :=
  (stepGet_any wr h.lk h.pos h.eight h.ok.ga (Nat.le_trans h.ok.lo (Nat.le_trans h.age ha))).mono fun _ _ ⟨he, hk, ht⟩ => ⟨by rw [he, raw_gG]; rfl, h.turn (by rw [← raw_sg]; exact hk) ht (sSg_ok h.ok) (by rw [sSg_tl]; exact h.age), ht⟩
theorem raw_new : raw rgnew = rz := rf_ext rfl rfl rfl rfl rfl rfl rfl
theorem newL {w1 : World} (h : Below w.heap.size w w1) (h1 : 1 ≤ n) (h8 : n ≤ 8) : Calls Tryd.prog 4 #[.int .i64 n] w1 fun e w' => ∃ g, e = .returned (.tuple #[.pointer (some ⟨g, 0, none⟩), .nilIface]) ∧ LkAt w w' g n rgnew 0 ∧ w1.heap.size ≤ g ∧ Below w1.heap.size w1 w' :=
  (new_any n h1 h8 w1).mono fun _ _ ⟨he, hk, hb⟩ => ⟨_, he, ⟨h.size, by rw [raw_new]; exact hk, h.trans (hb.mono h.size), rgnew_ok n, Nat.le_refl _, h1, h8⟩, Nat.le_refl _, hb⟩
theorem newBad {w1 : World} (h : Below w.heap.size w w1) (z : Int) (hz : ¬ (1 ≤ z ∧ z ≤ 8)) : Calls Tryd.prog 4 #[.int .i64 z] w1 fun e w' => e = .returned (.tuple #[.pointer none, errV 47 1]) ∧ Below w.heap.size w w' :=
  (new_bad z hz w1).mono fun _ _ ⟨he, hb⟩ => ⟨he, h.trans (hb.mono h.size)⟩
end
end Go.Proofs.YtihidjbepjeceaaDoor.Ring
