/-
  Package deque: whole calls of hand 0, step by step; the closed fact of the laws.
-/
import Derived.Test.YtbicckeoidijpaaDequeLkN
import Derived.Test.YtbicckeoidijpaaDqAlone
import Derived.Deep.DeepCutAuto
namespace Go.Proofs.Ytbicckeoidijpaa.Dq
open Go.RowKit

section
variable {w wr : World} {g n A N : Nat} {S : Nat → DV} {X : Int}
/-- A step of hand 0 within a call that is known. -/
theorem stepV (r : VR S N X) {j : Nat} (h : LkAt w wr g n (S j) A) (hA : A ≤ 1000000) (hj : j < N) :
    Calls Try.prog 13 #[.pointer (some ⟨g, 0, none⟩), .int .i64 0] wr fun e w' =>
      e = .returned (.tuple #[.bool (decide (j + 1 = N)), .int .i64 (if j + 1 = N then X else 0), .nilIface]) ∧ LkAt w w' g n (S (j + 1)) (A + 1) ∧ Touch (fun k => k = g) wr w' := by
  have h1 := h.pos
  have he : sStpE n (S j) 0 = 0 := by unfold sStpE; rw [if_neg (by omega), if_neg (show ¬ (S j).a (0 : Int).toNat = 0 from r.line j hj)]
  have hs : sStpS n (S j) 0 = S (j + 1) := by unfold sStpS; rw [if_pos he]; exact (r.next j hj).symm
  have hd : sStpD n (S j) 0 = decide (j + 1 = N) := by unfold sStpD; rw [if_pos he]; exact r.fin j hj
  have hg : sStpG n (S j) 0 = if j + 1 = N then X else 0 := by unfold sStpG; rw [if_pos he]; exact r.told j hj
  have hL := stepL h hA 0
  rw [he, hs, hd, hg] at hL
  exact hL
theorem pushV {s : DV} (h : LkAt w wr g n s A) (h0 : s.a 0 = 0) (x : Nat) (hx : x ≤ 1000) :
    Calls Try.prog 11 #[.pointer (some ⟨g, 0, none⟩), .int .i64 (x : Int)] wr fun e w' => e = .returned .nilIface ∧ LkAt w w' g n (dvbeg s 0 1 x) A ∧ Touch (fun k => k = g) wr w' := by
  have hL := pushL h x hx
  rw [show sBegE s 0 = 0 from if_pos h0, show sBegS s 0 1 (x : Int) = dvbeg s 0 1 x from if_pos h0] at hL
  exact hL
theorem popV {s : DV} (h : LkAt w wr g n s A) (h0 : s.a 0 = 0) :
    Calls Try.prog 12 #[.pointer (some ⟨g, 0, none⟩)] wr fun e w' => e = .returned .nilIface ∧ LkAt w w' g n (dvbeg s 0 4 0) A ∧ Touch (fun k => k = g) wr w' := by
  have hL := popL h
  rw [show sBegE s 0 = 0 from if_pos h0, show sBegS s 0 4 0 = dvbeg s 0 4 0 from if_pos h0] at hL
  exact hL
end
/-- Where the deque stands in the closed fact. -/
def pf : DV := dvstp (dvstp (dvstp (dvbeg dvnew 0 1 5) 0) 0) 0
theorem pf_is : pf.T = 0 ∧ pf.B = 1 ∧ sStlE 2 pf 1 = 0 := by decide +kernel
theorem push5 {w wr : World} {g n A : Nat} (h : LkAt w wr g n dvnew A) :
    Calls Try.prog 11 #[.pointer (some ⟨g, 0, none⟩), .int .i64 5] wr fun e w' => e = .returned .nilIface ∧ LkAt w w' g n (dvbeg dvnew 0 1 5) A ∧ Touch (fun k => k = g) wr w' := pushV h rfl 5 (by decide)
set_option maxHeartbeats 4000000 in
theorem fact_any (w : World) : Calls Try.prog 6 #[] w fun e w' => e = .returned (.bool true) ∧ Below w.heap.size w w' := by
  obtain ⟨S, hS0, hr, -⟩ := alone_push (s := dvnew) AI.new (by decide) 5
  have hS3 : S 3 = pf := by rw [hr.next 2 (by omega), hr.next 1 (by omega), hr.next 0 (by omega), hS0]; rfl
  have HS0 := Lib.hid hS0
  have HR := Lib.hid hr
  have HS3 := Lib.hid hS3
  clear hS0 hr hS3
  go_enter Try.func6, Try.ntmps6
  go_upto_region 4 with (first | (go_at_call 7; refine (newL (n := 2) (Below.refl _ _) (by omega) (by omega)).mono ?_; rintro e w1 ⟨g, rfl, hl⟩; have H1 := Lib.hid hl; clear hl) | (go_at_call 11; (with_reducible refine (push5 H1.out).mono ?_); rintro e w2 ⟨rfl, hl, -⟩; have H2 := Lib.hid (show LkAt w w2 g 2 (S 0) 0 from HS0.out ▸ hl); clear hl))
  go_wp2_with fail
  go_loopw [3] (fun i wr => ∃ j : Nat, j ≤ 3 ∧ i = .int .i64 j ∧ LkAt w wr g 2 (S j) j) (fun i _ => 3 - (intOf i).toNat)
  case atStart => exact ⟨0, by omega, rfl, H2.out⟩
  case round =>
    clear H1 H2
    obtain ⟨j, hj, rfl, hl⟩ := hrel
    have HL := Lib.hid hl
    clear hl
    by_cases h4 : j < 3
    · have hj3 : (j : Int) < 3 := by omega
      have HST := Lib.hid (stepV HR.out HL.out (by omega) h4)
      go_wp2_with (go_at_call 13; (with_reducible refine HST.out.mono ?_); rintro e w3 ⟨rfl, hl, -⟩; have H3 := Lib.hid hl; clear hl)
      go_roundw
      case rel => exact ⟨j + 1, by omega, by go_num, H3.out⟩
      case measure => simp [intOf]; omega
    · obtain rfl : j = 3 := by omega
      have hj3 : ¬ ((3 : Nat) : Int) < 3 := by omega
      rw [show ((3 : Nat) : Int) = 3 from rfl]
      have HE := Lib.hid (endsL HL.out)
      rw [HS3.out, pf_is.1, pf_is.2.1] at HE
      have HT := Lib.hid (fun (W : World) (h : LkAt w W g 2 (S 3) 3) => stealL h 1)
      rw [HS3.out, pf_is.2.2, err0] at HT
      have HL3 := Lib.hid (HS3.out ▸ HL.out)
      go_wp2_with (first | (go_at_call 10; (with_reducible refine HE.out.mono ?_); rintro e w3 ⟨rfl, i3, rfl⟩) | (go_at_call 16; (with_reducible refine (HT.out _ (HL3.out.drewN i3)).mono ?_); rintro e w4 ⟨rfl, hl, -⟩; have H4 := Lib.hid hl; clear hl))
      go_ret
      exact ⟨rfl, H4.out.below⟩
end Go.Proofs.Ytbicckeoidijpaa.Dq
