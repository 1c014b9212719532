import Derived.Test.YtobfaohcadmopaaBakDo
/-
  Package bakery: what Step and At answer.
-/
namespace Go.Proofs.Ytobfaohcadmopaa.Bakery
open Go.RowKit

/-- A hand does its line, if it is one. -/
def lkStep (n : Nat) (s : Nat → BH) (p : Int) : Nat → BH := if 0 ≤ p ∧ p < n then bstep n s p.toNat else s
/-- The error of Step. -/
def perr (n : Nat) (p : Int) : Int := if 0 ≤ p ∧ p < n then 0 else 1
theorem lkStep_in {n : Nat} {s : Nat → BH} {p : Nat} (h : p < n) : lkStep n s p = bstep n s p := by
  rw [lkStep, if_pos (by omega)]; rfl
theorem lkStep_out {n : Nat} {s : Nat → BH} {p : Int} (h : ¬ (0 ≤ p ∧ p < n)) : lkStep n s p = s := by rw [lkStep, if_neg h]
theorem lkStep_ok {n : Nat} {s : Nat → BH} (h : BOk n s) (p : Int) : BOk n (lkStep n s p) := by
  rw [lkStep]
  split
  · exact h.step (by omega)
  · exact h
set_option maxHeartbeats 4000000 in
theorem step_any {g n : Nat} {s : Nat → BH} (w : World) (hk : Lk w g n s) (hn : n ≤ 4) (hok : BOk n s) (hm : ∀ q, q < n → (s q).m ≤ 1000000) (p : Int) :
    Calls Try.prog 22 #[.pointer (some ⟨g, 0, none⟩), .int .i64 p] w fun e w' => e = .returned (errV 48 (perr n p)) ∧ Lk w' g n (lkStep n s p) ∧ Touch (fun k => k = g) w w' := by
  have HI := Lib.hid (isHand_any p w hk)
  by_cases hp : 0 ≤ p ∧ p < n
  · obtain ⟨q, rfl⟩ := Int.eq_ofNat_of_zero_le hp.1
    have hq : q < n := by omega
    have hp4 : (q : Int) < 4 := by omega
    rw [decide_eq_true hp] at HI
    have HD := Lib.hid (do_any w.drew hk.drew hn hok hq (hm q hq))
    rw [lkStep_in hq, show perr n q = 0 from if_pos hp]
    clear hk hok hp hm
    go_enter Try.func22, Try.ntmps22
    go_wp2_with (go_at_call 32; refine HI.out.mono ?_; rintro e w' ⟨rfl, rfl⟩)
    go_region_with (go_at_call 33; refine HD.out.mono ?_; rintro e w2 ⟨rfl, hk2, ht2⟩; have ha2 := hk2.xa hq; have hf2 := hk2.free (9 + q * 3); have HK2 := Lib.hid hk2; have HT2 := Lib.hid ht2; clear hk2 ht2)
    all_goals
      go_wp2
      go_ret
      refine ⟨rfl, ?_, ((Touch.refl (fun k => k = g) _).drew.trans HT2.out (fun _ h => Or.inl h)).setCell (Or.inl rfl) _⟩
      have := HK2.out.setA hn hq (bone n s q).a
      rw [bdid_put] at this
      exact this
  · rw [decide_eq_false hp] at HI
    rw [lkStep_out hp, show perr n p = 1 from if_neg hp]
    have HK := Lib.hid hk
    clear hk hok hp hm
    go_enter Try.func22, Try.ntmps22
    go_wp2_with (go_at_call 32; refine HI.out.mono ?_; rintro e w' ⟨rfl, rfl⟩)
    go_ret
    exact ⟨rfl, HK.out, Touch.refl _ _⟩

/-- At which line a hand stands; 0, if it is none. -/
def lkAt (n : Nat) (s : Nat → BH) (p : Int) : Nat := if 0 ≤ p ∧ p < n then (s p.toNat).a else 0
theorem lkAt_in {n : Nat} {s : Nat → BH} {p : Nat} (h : p < n) : lkAt n s p = (s p).a := by
  rw [lkAt, if_pos (by omega)]; rfl
set_option maxHeartbeats 4000000 in
theorem at_any {g n : Nat} {s : Nat → BH} (w : World) (hk : Lk w g n s) (hn : n ≤ 4) (p : Int) :
    Calls Try.prog 21 #[.pointer (some ⟨g, 0, none⟩), .int .i64 p] w fun e w' => e = .returned (.int .i64 (lkAt n s p)) ∧ w = w' := by
  have HI := Lib.hid (isHand_any p w hk)
  by_cases hp : 0 ≤ p ∧ p < n
  · obtain ⟨q, rfl⟩ := Int.eq_ofNat_of_zero_le hp.1
    have hq : q < n := by omega
    have hp4 : (q : Int) < 4 := by omega
    rw [decide_eq_true hp] at HI
    have hca := hk.xa hq
    rw [lkAt_in hq]
    clear hk hp
    go_enter Try.func21, Try.ntmps21
    go_wp2_with (go_at_call 32; refine HI.out.mono ?_; rintro e w' ⟨rfl, rfl⟩)
    go_ret
    exact ⟨rfl, rfl⟩
  · rw [decide_eq_false hp] at HI
    rw [lkAt, if_neg hp]
    clear hk hp
    go_enter Try.func21, Try.ntmps21
    go_wp2_with (go_at_call 32; refine HI.out.mono ?_; rintro e w' ⟨rfl, rfl⟩)
    go_ret
    exact ⟨rfl, rfl⟩
end Go.Proofs.Ytobfaohcadmopaa.Bakery
