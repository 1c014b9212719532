/-
  The walk of latchgarthlaw3.UnivGoes: it answers true, whatever the number of hands, the steps, and the hand.
-/
import Derived.Test.YtegplglokaoemaaUnivFact
import Derived.Test.YtegplglokaoemaaRws
import Derived.Deep.OwnRows
namespace Go.Proofs.Ytegplglokaoemaa.Univ
open Go.RowKit

theorem inB_any (z lo hi : Int) (w : World) : Calls Try.prog 8 #[.int .i64 z, .int .i64 lo, .int .i64 hi] w fun e w' => e = .returned (.bool (decide (lo ≤ z ∧ z ≤ hi))) ∧ w = w' := by
  by_cases h0 : lo ≤ z
  · by_cases h1 : z ≤ hi
    · rw [decide_eq_true (show lo ≤ z ∧ z ≤ hi from ⟨h0, h1⟩)]
      go_enter Try.func8, Try.ntmps8
      go_wp2
      go_ret
      exact ⟨rfl, rfl⟩
    · rw [decide_eq_false (show ¬ (lo ≤ z ∧ z ≤ hi) from fun h => h1 h.2)]
      go_enter Try.func8, Try.ntmps8
      go_wp2
      go_ret
      exact ⟨rfl, rfl⟩
  · rw [decide_eq_false (show ¬ (lo ≤ z ∧ z ≤ hi) from fun h => h0 h.1)]
    go_enter Try.func8, Try.ntmps8
    go_wp2
    go_ret
    exact ⟨rfl, rfl⟩
theorem inB_yes (z lo hi : Int) (h0 : lo ≤ z) (h1 : z ≤ hi) (w : World) : Calls Try.prog 8 #[.int .i64 z, .int .i64 lo, .int .i64 hi] w fun e w' => e = .returned (.bool true) ∧ w = w' := by
  have := inB_any z lo hi w
  rwa [decide_eq_true (show lo ≤ z ∧ z ≤ hi from ⟨h0, h1⟩)] at this
theorem inB_no (z lo hi : Int) (h : ¬ (lo ≤ z ∧ z ≤ hi)) (w : World) : Calls Try.prog 8 #[.int .i64 z, .int .i64 lo, .int .i64 hi] w fun e w' => e = .returned (.bool false) ∧ w = w' := by
  have := inB_any z lo hi w
  rwa [decide_eq_false h] at this
theorem row_case (l : List Int) : (∃ x y, l = [x, y]) ∨ (∃ x, l = [x]) ∨ l.length ≠ 2 ∧ l.length ≠ 1 := by
  match l with
  | [] => exact .inr (.inr ⟨by simp, by simp⟩)
  | [x] => exact .inr (.inl ⟨x, rfl⟩)
  | [x, y] => exact .inl ⟨x, y, rfl⟩
  | _ :: _ :: _ :: _ => exact .inr (.inr ⟨by simp, by simp⟩)
set_option maxHeartbeats 4000000 in
set_option maxRecDepth 100000 in
theorem goes_law (z : Int) (sv : Value) (steps : List (List Int)) (p : Int) (w : World) (hn : Rws w w.heap.size sv steps) :
    Calls Try.prog 4 #[.int .i64 z, sv, .int .i64 p] w fun e w' => e = .returned (.bool true) ∧ Below w.heap.size w w' := by
  obtain ⟨A, c, rfl, hlen, -⟩ := id hn
  have HN := Lib.hid hn
  clear hn
  by_cases hz : 1 ≤ z ∧ z ≤ 4
  · obtain ⟨n, rfl⟩ := Int.eq_ofNat_of_zero_le (show 0 ≤ z by omega)
    have h1 : 1 ≤ n := by omega
    have h4 : n ≤ 4 := by omega
    have hwn : IntKind.i64.wrap ((n : Int) - 1) = (n : Int) - 1 := IntWalk.i64_in _ (by omega)
    clear hz
    go_enter Try.func4, Try.ntmps4
    go_wp2_with (first | (go_at_call 5; refine (fact_any _).mono ?_; rintro e w1 ⟨rfl, hb⟩; have HB := Lib.hid hb; clear hb) | (go_at_call 6; refine (newL HB.out h1 h4).mono ?_; rintro e w2 ⟨g, rfl, hl⟩; have HL := Lib.hid hl; clear hl))
    have HL0 := HL
    clear HL
    go_loopw [10] (fun i wr => ∃ (k T : Nat) (s : UG), k ≤ steps.length ∧ i = .int .i64 k ∧ k ≤ 150 ∧ T ≤ k ∧ LkAt w wr g n T s) (fun i _ => steps.length - (intOf i).toNat)
    case atStart => exact ⟨0, 0, ugnew, by omega, rfl, by omega, by omega, HL0.out⟩
    case round =>
      clear HL0
      obtain ⟨k, T, s, hk, rfl, hk2, hT, hl⟩ := hrel
      have HL := Lib.hid hl
      clear hl
      by_cases hgo : k < steps.length ∧ k < 150
      · have hI : (k : Int) < steps.length := by omega
        have h2I : (k : Int) < 150 := by omega
        obtain ⟨hlt, hk200⟩ := hgo
        obtain ⟨l, hx⟩ : ∃ l, steps[k]? = some l := ⟨steps[k], List.getElem?_eq_getElem hlt⟩
        obtain ⟨b, o, rfl, A', c', hxc, hnl⟩ := (HN.out.below HL.out.below (Nat.le_refl _)).at_ hx
        clear hx
        rcases row_case l with ⟨x, y, rfl⟩ | ⟨x, rfl⟩ | ⟨hl2, hl1⟩
        · obtain ⟨b1, o1, rfl, _, hc0⟩ := hnl.at_ (k := 0) rfl
          rw [Nat.add_zero] at hc0
          obtain ⟨b2, o2, e2, _, hc1⟩ := hnl.at_ (k := 1) rfl
          injection e2 with e2
          injection e2 with e2 e3 _
          subst e2 e3
          have hxc : wr.cell? ⟨b, o + k, none⟩ = some (.slice (some ⟨b1, o1, none⟩) 2 c') := hxc
          have HBG := Lib.hid (beginT (HL.out.on (w' := wr.drew) (Below.refl wr.heap.size wr).drew (Nat.le_refl _)) (by omega) x y)
          clear hnl
          go_wp2_with fail
          go_region_with (go_at_call 7; (with_reducible refine HBG.out.mono ?_); rintro e w4 ⟨rfl, hl4, -⟩; have HL4 := Lib.hid hl4; clear hl4)
          all_goals
            go_wp2
            go_roundw
            case rel => exact ⟨k + 1, T + 1, _, by omega, by go_num, by omega, by omega, HL4.out⟩
            case measure => simp [intOf]; omega
        · obtain ⟨b1, o1, rfl, _, hc0⟩ := hnl.at_ (k := 0) rfl
          rw [Nat.add_zero] at hc0
          have hxc : wr.cell? ⟨b, o + k, none⟩ = some (.slice (some ⟨b1, o1, none⟩) 1 c') := hxc
          have HBG := Lib.hid (stepT HL.out x)
          clear hnl
          go_wp2_with (go_at_call 9; (with_reducible refine HBG.out.mono ?_); rintro e w4 ⟨rfl, hl4, -⟩; have HL4 := Lib.hid hl4; clear hl4)
          go_roundw
          case rel => exact ⟨k + 1, T + 1, _, by omega, by go_num, by omega, by omega, HL4.out⟩
          case measure => simp [intOf]; omega
        · have hi2 : ((l.length : Int) == 2) = false := by simp; omega
          have hi1 : ((l.length : Int) == 1) = false := by simp; omega
          clear hl2 hl1 hnl
          go_wp2
          go_roundw
          case rel => exact ⟨k + 1, T, _, by omega, by go_num, by omega, by omega, HL.out⟩
          case measure => simp [intOf]; omega
      · have hh : (k : Int) < steps.length ∧ ¬ (k : Int) < 150 ∨ ¬ (k : Int) < steps.length := by omega
        clear hgo
        by_cases hp : 0 ≤ p ∧ p ≤ (n : Int) - 1
        · have HIN := Lib.hid (inB_yes p 0 ((n : Int) - 1) hp.1 hp.2)
          obtain ⟨q, rfl⟩ := Int.eq_ofNat_of_zero_le hp.1
          have hq : q < n := by omega
          have HA := Lib.hid (atL HL.out q)
          rw [lkAt_in hq] at HA
          by_cases ha : (s.v.h q).a = 0
          · rw [ha] at HA
            clear hp
            rcases hh with ⟨hI, hJ⟩ | hI
            all_goals
              go_wp2_with (first | (go_at_call 8; refine (HIN.out _).mono ?_; rintro e w' ⟨rfl, rfl⟩) | (go_at_call 11; (with_reducible refine HA.out.mono ?_); rintro e w' ⟨rfl, rfl⟩))
              go_ret
              exact ⟨rfl, HL.out.below⟩
          · have hai : (((s.v.h q).a : Int) == 0) = false := by simp; omega
            have HA0 := Lib.hid ha
            have HU := Lib.hid (show uleft s.v q + 0 ≤ 80 by have h1 : uleft s.v q ≤ 2 * s.v.k := uleft_le; have := HL.out.ok.k; omega)
            clear hp ha
            rcases hh with ⟨hI, hJ⟩ | hI
            all_goals
              go_wp2_with (first | (go_at_call 8; refine (HIN.out _).mono ?_; rintro e w' ⟨rfl, rfl⟩) | (go_at_call 11; (with_reducible refine HA.out.mono ?_); rintro e w' ⟨rfl, rfl⟩))
              go_loopw [12] (fun i wr => ∃ (j U : Nat) (t : UG), j ≤ 80 ∧ i = .int .i64 j ∧ LkAt w wr g n U t ∧ (t.v.h q).a ≠ 0 ∧ uleft t.v q + j ≤ 80) (fun i _ => 80 - (intOf i).toNat)
              case atStart => exact ⟨0, T, s, by omega, rfl, HL.out, HA0.out, HU.out⟩
              case round =>
                clear HL HA HA0 HU
                obtain ⟨j, U, t, hj, rfl, hl, hta, htu⟩ := hrel
                have hs := hl.ok.ok.soon hq hta
                have hpos : (t.v.h q).c < t.v.k := uleft_pos hl.ok.ok hq hta
                have hj80 : j < 80 := by
                  have h1 : 1 ≤ uleft t.v q := by unfold uleft; split <;> omega
                  omega
                have hjI : (j : Int) < 80 := by omega
                have he : stpE n t.v q = 0 := by unfold stpE; rw [if_neg (by omega), if_neg (show ¬ (t.v.h (q : Int).toNat).a = 0 from hta)]
                have hgs : gstp n U t q = ugstep t U q := by unfold gstp; rw [if_pos he]; rfl
                have HS := Lib.hid (stepT hl q)
                rw [he, hgs] at HS
                by_cases hlast : ulast t.v q
                · have hd : stpD n t.v q = true := decide_eq_true ⟨by omega, hta, hlast⟩
                  have ha2 : ((ustep t.v q).h q).a = 0 := by
                    rcases hs with h | h
                    · exact h.2
                    · exact absurd hlast h.1
                  rw [hd] at HS
                  have HA2 := Lib.hid (show ∀ w4, LkAt w w4 g n (U + 1) (ugstep t U q) → Calls Try.prog 11 #[.pointer (some ⟨g, 0, none⟩), .int .i64 q] w4 fun e w' => e = .returned (.int .i64 0) ∧ w4 = w' from fun w4 h4 => (atL h4 q).mono fun _ _ ⟨h5, h6⟩ => ⟨by rw [h5, lkAt_in hq]; exact congrArg (fun a : Nat => Ending.returned (.int .i64 (a : Int))) ha2, h6⟩)
                  clear hl hs hlast hd ha2 he hgs hta htu hpos
                  go_wp2_with (first | (go_at_call 9; (with_reducible refine HS.out.mono ?_); rw [errV_zero]; rintro e w4 ⟨rfl, hl4, -⟩; have HL4 := Lib.hid hl4; clear hl4) | (go_at_call 11; (with_reducible refine (HA2.out _ HL4.out).mono ?_); rintro e w' ⟨rfl, rfl⟩))
                  go_ret
                  exact ⟨rfl, HL4.out.below⟩
                · have hd : stpD n t.v q = false := decide_eq_false fun h => hlast h.2.2
                  have hs2 : ((ustep t.v q).h q).a ≠ 0 ∧ uleft (ustep t.v q) q + 1 ≤ uleft t.v q := by
                    rcases hs with h | h
                    · exact absurd h.1 hlast
                    · exact h.2
                  have HS2 := Lib.hid (show ((ugstep t U q).v.h q).a ≠ 0 ∧ uleft (ugstep t U q).v q + (j + 1) ≤ 80 from ⟨hs2.1, by show uleft (ustep t.v q) q + (j + 1) ≤ 80; omega⟩)
                  rw [hd] at HS
                  clear hl hs hlast hd he hgs hta htu hpos hs2
                  go_wp2_with (go_at_call 9; (with_reducible refine HS.out.mono ?_); rw [errV_zero]; rintro e w4 ⟨rfl, hl4, -⟩; have HL4 := Lib.hid hl4; clear hl4)
                  go_roundw
                  case rel => exact ⟨j + 1, U + 1, _, by omega, by go_num, HL4.out, HS2.out.1, HS2.out.2⟩
                  case measure => simp [intOf]; omega
        · have HIN := Lib.hid (inB_no p 0 ((n : Int) - 1) hp)
          clear hp
          rcases hh with ⟨hI, hJ⟩ | hI
          all_goals
            go_wp2_with (go_at_call 8; refine (HIN.out _).mono ?_; rintro e w' ⟨rfl, rfl⟩)
            go_ret
            exact ⟨rfl, HL.out.below⟩
  · have HZ := Lib.hid hz
    by_cases hz1 : z < 1
    all_goals
      clear hz
      go_enter Try.func4, Try.ntmps4
      go_wp2_with (first | (go_at_call 5; refine (fact_any _).mono ?_; rintro e w1 ⟨rfl, hb⟩; have HB := Lib.hid hb; clear hb) | (go_at_call 6; refine (newBad HB.out z HZ.out).mono ?_; rw [errV_one]; rintro e w2 ⟨rfl, hb⟩; have HB2 := Lib.hid hb; clear hb))
      go_ret
      first | exact ⟨rfl, HB2.out⟩ | exact ⟨congrArg (fun b => Ending.returned (.bool b)) (bad_true HZ.out), HB2.out⟩
end Go.Proofs.Ytegplglokaoemaa.Univ
