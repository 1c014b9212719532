/-
  A board of package snap beside what was there, with what is known of it.
-/
import Derived.Test.YtnplhjbbkccdnaaDoorSnapRaw
import Derived.Test.YtnplhjbbkccdnaaDoorSnapNew
namespace Go.Proofs.YtnplhjbbkccdnaaDoor.Snap
open Go.RowKit

/-- What always holds, behind T steps. -/
structure SF (n T : Nat) (s : SS) : Prop where
  mks : ∀ p, p < n → SMk n (s.h p)
  tn : ∀ q, q < n → (s.wd q).t ≤ T
theorem sfnew (n : Nat) : SF n 0 ssnew := ⟨fun p _ => ssnew_mk n p, fun _ _ => Nat.le_refl _⟩
/-- What Write, Look, Step make of a state. -/
def gwr (n : Nat) (s : SS) (p x : Int) : SS := if wrE n s p x = 0 then sbeg s p.toNat true x.toNat else s
def glk (n : Nat) (s : SS) (p : Int) : SS := if bgE n s p = 0 then sbeg s p.toNat false 0 else s
def gst (n : Nat) (s : SS) (p : Int) : SS := if ¬ (0 ≤ p ∧ p < n) ∨ (s.h p.toNat).a = 0 then s else sstep n s p.toNat
/-- What Step answers. -/
def GR (n : Nat) (s : SS) (p : Int) (w0 w' : World) (e : Ending) : Prop :=
  if ¬ (0 ≤ p ∧ p < n) then e = .returned (.tuple #[.bool false, .slice none 0 0, errV 64 1])
  else if (s.h p.toNat).a = 0 then e = .returned (.tuple #[.bool false, .slice none 0 0, errV 64 7])
  else ∃ u, e = .returned (.tuple #[.bool (decide ((sone n s p.toNat).a = 0)), u, .nilIface]) ∧ (∀ f, stold n s p.toNat = some f → Nums w' w'.heap.size u (lkS n f) ∧ Fresh w0.heap.size u) ∧ (stold n s p.toNat = none → u = .slice none 0 0)
theorem bg_same {n : Nat} (s : SS) (p : Int) : bgE n (rawS n s) p = bgE n s p := by
  unfold bgE
  by_cases h : 0 ≤ p ∧ p < n
  · rw [if_neg (show ¬ ¬ (0 ≤ p ∧ p < n) from fun h2 => h2 h), if_neg (show ¬ ¬ (0 ≤ p ∧ p < n) from fun h2 => h2 h), rawS_h (show p.toNat < n by omega)]; rfl
  · rw [if_pos h, if_pos h]
theorem wr_same {n : Nat} (s : SS) (p x : Int) : wrE n (rawS n s) p x = wrE n s p x := by unfold wrE; rw [bg_same]
theorem bg_some {n : Nat} {s : SS} {p : Int} (h : bgE n s p = 0) : ∃ q : Nat, p = (q : Int) ∧ q < n ∧ (s.h q).a = 0 := by
  unfold bgE at h
  split at h
  · omega
  · rename_i h1
    split at h
    · omega
    · rename_i h2
      exact ⟨p.toNat, by omega, by omega, by omega⟩
theorem wr_some {n : Nat} {s : SS} {p x : Int} (h : wrE n s p x = 0) : ∃ q y : Nat, p = (q : Int) ∧ x = (y : Int) ∧ q < n ∧ y ≤ 1000 ∧ (s.h q).a = 0 := by
  unfold wrE at h
  split at h
  · omega
  · rename_i h1
    obtain ⟨q, h2, h3, h4⟩ := bg_some h
    exact ⟨q, x.toNat, h2, by omega, h3, by omega, h4⟩
theorem gwr_raw (n : Nat) (s : SS) (p x : Int) : wrS n (rawS n s) p x = rawS n (gwr n s p x) := by
  unfold wrS gwr
  rw [wr_same]
  split
  · rename_i h
    obtain ⟨q, y, rfl, rfl, hq, -, -⟩ := wr_some h
    exact bg_raw hq true y _ rfl
  · rfl
theorem glk_raw (n : Nat) (s : SS) (p : Int) : bgS n (rawS n s) p sbl = rawS n (glk n s p) := by
  unfold bgS glk
  rw [bg_same]
  split
  · rename_i h
    obtain ⟨q, rfl, hq, -⟩ := bg_some h
    exact bg_raw hq false 0 _ rfl
  · rfl
section
variable {n T : Nat} {s : SS}
theorem SF.pre (h : SF n T s) (hT : T ≤ 1000000) : ∀ q, q < n → Pre n (rawS n s) q := by
  intro q hq
  have k := h.mks q hq
  have e := rawS_h (v := s) hq
  refine ⟨?_, fun h1 => ?_, fun h1 r hr => ?_, ?_⟩
  · rw [e]; exact k.ln
  · rw [e] at h1 ⊢
    have h1 : (s.h q).a = 1 ∨ (s.h q).a = 2 := h1
    unfold raw
    dsimp only
    rw [if_pos h1]; exact k.kn h1
  · rw [e]
    unfold raw
    dsimp only
    split
    · rename_i h2; exact k.mv r h2.2
    · omega
  · rw [rawS_wd hq]
    exact Nat.le_trans (h.tn q hq) hT
theorem SF.later (h : SF n T s) {U : Nat} (hU : T ≤ U) : SF n U s := ⟨h.mks, fun q hq => Nat.le_trans (h.tn q hq) hU⟩
theorem SF.beg (h : SF n T s) {q : Nat} (_hq : q < n) (w : Bool) (x : Nat) : SF n T (sbeg s q w x) := by
  refine ⟨fun p hp => ?_, h.tn⟩
  show SMk n (nput s.h q _ p)
  by_cases e : p = q
  · rw [e, nput_same]; exact SMk.beg (by omega)
  · rw [nput_other e]; exact h.mks p hp
theorem SF.wr (h : SF n T s) (p x : Int) : SF n T (gwr n s p x) := by
  unfold gwr
  split
  · rename_i h1
    obtain ⟨q, y, rfl, rfl, hq, -, -⟩ := wr_some h1
    exact h.beg hq true y
  · exact h
theorem SF.lk (h : SF n T s) (p : Int) : SF n T (glk n s p) := by
  unfold glk
  split
  · rename_i h1
    obtain ⟨q, rfl, hq, -⟩ := bg_some h1
    exact h.beg hq false 0
  · exact h
theorem gst_some {p : Int} (h : ¬ (¬ (0 ≤ p ∧ p < n) ∨ (s.h p.toNat).a = 0)) : ∃ q : Nat, p = (q : Int) ∧ q < n ∧ (s.h q).a ≠ 0 := ⟨p.toNat, by omega, by omega, fun h2 => h (Or.inr h2)⟩
theorem swd_t {q r : Nat} : (swd s q r).t ≤ (s.wd r).t + 1 := by
  unfold swd
  split
  · by_cases e : r = q
    · rw [e, nput_same]; exact Nat.le_refl _
    · rw [nput_other e]; exact Nat.le_succ _
  · exact Nat.le_succ _
theorem SF.st (h : SF n T s) (p : Int) : SF n (T + 1) (gst n s p) := by
  unfold gst
  split
  · exact h.later (Nat.le_succ _)
  · rename_i h1
    obtain ⟨q, rfl, hq, ha⟩ := gst_some h1
    refine ⟨fun p hp => ?_, fun r hr => ?_⟩
    · show SMk n (nput s.h q (sone n s q) p)
      by_cases e : p = q
      · rw [e, nput_same]; exact ((h.mks q hq).step ha).1
      · rw [nput_other e]; exact h.mks p hp
    · have h1 := h.tn r hr
      have h2 : ((sstep n s q).wd r).t ≤ (s.wd r).t + 1 := swd_t
      have h3 : (sstep n s (q : Int).toNat).wd r = (sstep n s q).wd r := rfl
      rw [h3]; omega
theorem gst_raw (h : SF n T s) (h4 : n ≤ 4) (p : Int) : stS n (rawS n s) p = rawS n (gst n s p) := by
  unfold stS gst
  by_cases hp : 0 ≤ p ∧ p < n
  · obtain ⟨q, rfl⟩ := Int.eq_ofNat_of_zero_le hp.1
    have hq : q < n := by omega
    rw [Int.toNat_natCast, rawS_h hq, show (raw n (s.h q)).a = (s.h q).a from rfl]
    by_cases ha : (s.h q).a = 0
    · rw [if_pos (Or.inr ha), if_pos (Or.inr ha)]
    · rw [if_neg (fun h2 => h2.elim (fun h3 => h3 hp) ha), if_neg (fun h2 => h2.elim (fun h3 => h3 hp) ha)]
      exact pst_raw hq h4 (h.mks q hq) ha
  · rw [if_pos (Or.inl hp), if_pos (Or.inl hp)]
theorem told_raw (h4 : n ≤ 4) {q : Nat} (hq : q < n) (k : SMk n (s.h q)) (ha : (s.h q).a ≠ 0) :
    pdn n (rawS n s) q = decide ((sone n s q).a = 0) ∧ (∀ f, stold n s q = some f → plk n (rawS n s) q = true ∧ lkS n (seen (rdL n (rawS n s) q)) = lkS n f) ∧ (stold n s q = none → plk n (rawS n s) q = false) := by
  have hln := k.ln
  have ea : ((rawS n s).h q).a = (s.h q).a := by rw [rawS_h hq]; rfl
  by_cases h2 : (s.h q).a = 2
  · have ek : ((rawS n s).h q).k = (s.h q).k := by rw [rawS_h hq]; unfold raw; simp [h2]
    have hw : (rdL n (rawS n s) q).w = (s.h q).w := by unfold rdL bK bL; dsimp only; rw [rawS_h hq]; unfold raw; simp [h2]
    by_cases hk : (s.h q).k + 1 = n
    · obtain ⟨-, hse⟩ := see_raw (v := s) hq h4 h2 hk
      have hpl : plk n (rawS n s) q = (sees (rdL n (rawS n s) q) && !(s.h q).w) := by
        unfold plk
        rw [ea, ek, decide_eq_true h2, decide_eq_true hk, hw]; rfl
      have hpd : pdn n (rawS n s) q = plk n (rawS n s) q := by unfold pdn; rw [ea, decide_eq_false (by omega)]; rfl
      rw [hpd, hpl]
      unfold stold
      cases ew : (s.h q).w with
      | true =>
        rw [if_neg (fun h => by have := h.2.2; cases this)]
        refine ⟨?_, fun f h => (by cases h), fun _ => (by simp)⟩
        rw [Bool.not_true, Bool.and_false]
        symm
        refine decide_eq_false ?_
        unfold sone
        rw [if_neg (by omega), if_pos h2, if_pos hk]
        cases ssee n (s.h q) (slast s q) with
        | some f =>
          show ¬ (if (s.h q).w then _ else _ : SB).a = 0
          rw [ew, if_pos rfl]; exact (by omega : ¬ 3 = 0)
        | none => exact (by omega : ¬ 2 = 0)
      | false =>
        rw [if_pos ⟨h2, hk, rfl⟩]
        unfold sone
        rw [if_neg (by omega), if_pos h2, if_pos hk]
        cases es : ssee n (s.h q) (slast s q) with
        | some f =>
          rw [es] at hse
          have h5 : sees (rdL n (rawS n s) q) = true := by unfold sees; rw [hse]; rfl
          have h6 : seen (rdL n (rawS n s) q) = cut n f := by unfold seen; rw [hse]; rfl
          rw [h5, h6]
          refine ⟨?_, fun f' h => ?_, fun h => (by cases h)⟩
          · symm
            refine decide_eq_true ?_
            show (if (s.h q).w then _ else _ : SB).a = 0
            rw [ew, if_neg (by decide)]
          · cases h
            exact ⟨rfl, lkS_cut n f⟩
        | none =>
          rw [es] at hse
          have h5 : sees (rdL n (rawS n s) q) = false := by unfold sees; rw [hse]; rfl
          rw [h5]
          exact ⟨rfl, fun f h => (by cases h), fun _ => rfl⟩
    · have hpl : plk n (rawS n s) q = false := by
        unfold plk
        rw [ek, decide_eq_false hk, Bool.and_false]; rfl
      have hpd : pdn n (rawS n s) q = false := by unfold pdn; rw [ea, decide_eq_false (by omega), hpl]; rfl
      rw [hpd, hpl]
      unfold stold
      rw [if_neg (fun h => hk h.2.1)]
      refine ⟨?_, fun f h => (by cases h), fun _ => rfl⟩
      symm
      refine decide_eq_false ?_
      unfold sone
      rw [if_neg (by omega), if_pos h2, if_neg hk]
      exact (by omega : ¬ 2 = 0)
  · have hpl : plk n (rawS n s) q = false := by
      unfold plk
      rw [ea, decide_eq_false h2]; rfl
    have hpd : pdn n (rawS n s) q = decide ((s.h q).a = 3) := by unfold pdn; rw [ea, hpl, Bool.or_false]
    rw [hpd, hpl]
    unfold stold
    rw [if_neg (fun h => h2 h.1)]
    refine ⟨?_, fun f h => (by cases h), fun _ => rfl⟩
    unfold sone
    by_cases h1 : (s.h q).a = 1
    · rw [if_pos h1, decide_eq_false (by omega)]
      symm
      refine decide_eq_false ?_
      split
      · exact (by omega : ¬ 2 = 0)
      · exact (by omega : ¬ 1 = 0)
    · rw [if_neg h1, if_neg h2, decide_eq_true (show (s.h q).a = 3 by omega)]; rfl
end
/-- Since w nothing has turned but new memory; in it a board of n hands is as s says, behind T steps. -/
structure LkAt (w wr : World) (g n T : Nat) (s : SS) : Prop where
  new : w.heap.size ≤ g
  lk : Lk wr g n (rawS n s)
  below : Below w.heap.size w wr
  ok : SF n T s
  pos : 1 ≤ n
  four : n ≤ 4
section
variable {w wr w' : World} {g n T : Nat} {s s' : SS}
theorem LkAt.turn (h : LkAt w wr g n T s) (hk : Lk w' g n (rawS n s')) (ht : Touch (fun k => k = g) wr w') {T' : Nat} (ha : SF n T' s') : LkAt w w' g n T' s' :=
  ⟨h.new, hk, h.below.trans (ht.below h.below.size fun _ hi => hi ▸ h.new), ha, h.pos, h.four⟩
theorem LkAt.other {i k : Nat} {u : Value} (h : LkAt w wr g n T s) (hn : w.heap.size ≤ k) (hf : k ≠ g) : LkAt w (wr.setCell ⟨k, i, none⟩ u) g n T s :=
  ⟨h.new, h.lk.far (p := ⟨k, i, none⟩) (fun e => hf e.symm) u, h.below.setCell hn _, h.ok, h.pos, h.four⟩
theorem LkAt.made (h : LkAt w wr g n T s) (o : Obj) : LkAt w (wr.alloc o) g n T s := ⟨h.new, h.lk.alloc o, h.below.alloc h.below.size o, h.ok, h.pos, h.four⟩
theorem LkAt.on (h : LkAt w wr g n T s) {B : Nat} (hb : Below B wr w') (hB : wr.heap.size ≤ B) : LkAt w w' g n T s :=
  ⟨h.new, h.lk.below (hb.mono hB) h.lk.lt, h.below.trans (hb.mono (Nat.le_trans h.below.size hB)), h.ok, h.pos, h.four⟩
theorem LkAt.touch {O : Nat → Prop} (h : LkAt w wr g n T s) (ht : Touch O wr w') (hO : ∀ k, O k → w.heap.size ≤ k ∧ k ≠ g) : LkAt w w' g n T s :=
  ⟨h.new, h.lk.touch ht fun e => (hO g e).2 rfl, h.below.trans (ht.below h.below.size fun i hi => (hO i hi).1), h.ok, h.pos, h.four⟩
theorem LkAt.later (h : LkAt w wr g n T s) {U : Nat} (hU : T ≤ U) : LkAt w wr g n U s := ⟨h.new, h.lk, h.below, h.ok.later hU, h.pos, h.four⟩
theorem writeT (h : LkAt w wr g n T s) (p x : Int) :
    Calls Tryd.prog 9 #[.pointer (some ⟨g, 0, none⟩), .int .i64 p, .int .i64 x] wr fun e w' => e = .returned (errV 64 (wrE n s p x)) ∧ LkAt w w' g n T (gwr n s p x) ∧ Touch (fun k => k = g) wr w' :=
  (write_any wr h.lk h.four p x).mono fun _ _ ⟨he, hk, ht⟩ => ⟨by rw [he, wr_same], h.turn (by rw [← gwr_raw]; exact hk) ht (h.ok.wr p x), ht⟩
theorem lookT (h : LkAt w wr g n T s) (p : Int) :
    Calls Tryd.prog 10 #[.pointer (some ⟨g, 0, none⟩), .int .i64 p] wr fun e w' => e = .returned (errV 64 (bgE n s p)) ∧ LkAt w w' g n T (glk n s p) ∧ Touch (fun k => k = g) wr w' :=
  (look_any wr h.lk h.four p).mono fun _ _ ⟨he, hk, ht⟩ => ⟨by rw [he, bg_same], h.turn (by rw [← glk_raw]; exact hk) ht (h.ok.lk p), ht⟩
theorem stepT (h : LkAt w wr g n T s) (hT : T ≤ 1000000) (p : Int) :
    Calls Tryd.prog 12 #[.pointer (some ⟨g, 0, none⟩), .int .i64 p] wr fun e w' => GR n s p wr w' e ∧ LkAt w w' g n (T + 1) (gst n s p) ∧ Touch (fun k => k = g) wr w' := by
  refine (step_any wr h.lk h.four (h.ok.pre hT) p).mono fun e w' ⟨he, hk, ht⟩ => ⟨?_, h.turn (by rw [← gst_raw h.ok h.four]; exact hk) ht (h.ok.st p), ht⟩
  unfold StpR at he
  unfold GR
  by_cases hp : 0 ≤ p ∧ p < n
  · rw [if_neg (show ¬ ¬ (0 ≤ p ∧ p < n) from fun h2 => h2 hp)] at he ⊢
    obtain ⟨q, rfl⟩ := Int.eq_ofNat_of_zero_le hp.1
    have hq : q < n := by omega
    rw [Int.toNat_natCast] at he ⊢
    have ea : ((rawS n s).h q).a = (s.h q).a := by rw [rawS_h hq]; rfl
    rw [ea] at he
    by_cases ha : (s.h q).a = 0
    · rw [if_pos ha] at he ⊢
      exact he
    · rw [if_neg ha] at he ⊢
      obtain ⟨u, h1, h2, h3⟩ := he
      obtain ⟨t1, t2, t3⟩ := told_raw h.four hq (h.ok.mks q hq) ha
      exact ⟨u, by rw [h1, t1], fun f hf => ⟨by rw [← (t2 f hf).2]; exact (h2 (t2 f hf).1).1, (h2 (t2 f hf).1).2⟩, fun hn => h3 (t3 hn)⟩
  · rw [if_pos hp] at he ⊢
    exact he
theorem newL {w1 : World} (h : Below w.heap.size w w1) (h1 : 1 ≤ n) (h4 : n ≤ 4) : Calls Tryd.prog 5 #[.int .i64 n] w1 fun e w' => ∃ g, e = .returned (.tuple #[.pointer (some ⟨g, 0, none⟩), .nilIface]) ∧ LkAt w w' g n 0 ssnew :=
  (snew_any n h1 h4 w1).mono fun _ _ ⟨he, hk, hb⟩ => ⟨_, he, h.size, by rw [rawS_new]; exact hk, h.trans (hb.mono h.size), sfnew n, h1, h4⟩
theorem newBad {w1 : World} (h : Below w.heap.size w w1) (z : Int) (hz : ¬ (1 ≤ z ∧ z ≤ 4)) : Calls Tryd.prog 5 #[.int .i64 z] w1 fun e w' => e = .returned (.tuple #[.pointer none, errV 64 1]) ∧ Below w.heap.size w w' :=
  (snew_bad z hz w1).mono fun _ _ ⟨he, hb⟩ => ⟨he, h.trans (hb.mono h.size)⟩
end
theorem errV_one : errV 64 1 = .iface 64 (.int .i64 1) := rfl
theorem errV_seven : errV 64 7 = .iface 64 (.int .i64 7) := rfl
theorem errV_zero : errV 64 0 = .nilIface := rfl
end Go.Proofs.YtnplhjbbkccdnaaDoor.Snap
