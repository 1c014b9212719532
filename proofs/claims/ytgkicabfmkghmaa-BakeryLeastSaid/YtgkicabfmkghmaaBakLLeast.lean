/-
  The walk of latchgarthlaw2.BakeryLeast: it answers true, whatever the number of hands and the script.
-/
import Derived.Test.YtgkicabfmkghmaaBakFact
namespace Go.Proofs.Ytgkicabfmkghmaa.Bakery
open Go.RowKit

set_option maxRecDepth 100000 in
set_option maxHeartbeats 4000000 in
theorem least_law (z : Int) (sv : Value) (script : List Int) (w : World) (hn : Nums w w.heap.size sv script) :
    Calls Try.prog 6 #[.int .i64 z, sv] w fun e w' => e = .returned (.bool true) ∧ Below w.heap.size w w' := by
  obtain ⟨A, c, rfl, hlen, hn⟩ := hn
  have HN := Lib.hid hn
  clear hn
  by_cases hz : 1 ≤ z ∧ z ≤ 4
  · obtain ⟨n, rfl⟩ := Int.eq_ofNat_of_zero_le (show 0 ≤ z by omega)
    have h1 : 1 ≤ n := by omega
    have h4 : n ≤ 4 := by omega
    have hw2 : IntKind.i64.wrap (2 * (n : Int)) = 2 * (n : Int) := IntWalk.i64_in _ (by omega)
    clear hz
    go_enter Try.func6, Try.ntmps6
    go_wp2_with (first | (go_at_call 7; refine (fact_any _).mono ?_; rintro e w1 ⟨rfl, hb⟩; have HB := Lib.hid hb; clear hb) | (go_at_call 8; refine (newL HB.out h1 h4).mono ?_; rintro e w2 ⟨g, rfl, hl⟩; have HL := Lib.hid hl; clear hl))
    go_loopw [8] (fun i wr => ∃ (k : Nat) (s : LSt), k ≤ script.length ∧ i = .int .i64 k ∧ k ≤ 400 ∧ LkAt w wr g n s k) (fun i _ => script.length - (intOf i).toNat)
    case atStart => exact ⟨0, _, by omega, rfl, by omega, HL.out⟩
    case round =>
      clear HL
      obtain ⟨k, s, hk, rfl, hk4, hl⟩ := hrel
      have HL := Lib.hid hl
      by_cases hlt : k < script.length
      · have hI : (k : Int) < script.length := by omega
        by_cases h400 : k < 400
        · have h4I : (k : Int) < 400 := by omega
          obtain ⟨b, o, rfl, hbb, hcc⟩ := HN.out (by omega)
          obtain ⟨x, hx⟩ : ∃ x, script[k]? = some x := ⟨script[k], List.getElem?_eq_getElem hlt⟩
          have hxc := (hl.below.cell (p := ⟨b, o + k, none⟩) hbb).trans (hcc k x hx)
          have HX := Lib.hid hx
          clear hcc hx hl
          go_wp2_with (first | (go_at_call 9; (with_reducible refine (stepL HL.out (by omega) x).mono ?_); rintro e w3 ⟨rfl, hl⟩; have H3 := Lib.hid hl; clear hl) | (go_at_call 12; (with_reducible refine (wordsL H3.out).mono ?_); rintro e w4 ⟨v, rfl, hnw, hl4, -⟩; obtain ⟨A4, c4, rfl, -, hnw⟩ := hnw; rw [lkWords_len] at hnw; rw [lkWords_len]; have H4 := Lib.hid hl4; obtain ⟨b4, o4, rfl, -, hw4⟩ := hnw (by omega); have HW4 := Lib.hid hw4; clear hl4 hnw hw4))
          obtain ⟨s3, hs3⟩ : ∃ s3, s3 = lkStep n s x := ⟨_, rfl⟩
          rw [← hs3] at H4 HW4
          clear hs3 H3
          go_loopw [10] (fun pv wr => ∃ p i : Nat, p ≤ n ∧ pv = .int .i64 p ∧ wr = w4.drewN i) (fun q _ => n - (intOf q).toNat)
          case atStart => exact ⟨0, 0, by omega, rfl, rfl⟩
          case round =>
            obtain ⟨p, i, hp, rfl, rfl⟩ := hrel
            by_cases hpn : p < n
            · have hpI : (p : Int) < n := by omega
              have hp2 : (p : Int) < 2 * (n : Int) := by omega
              have hcp : (w4.drewN i).cell? ⟨b4, o4 + p, none⟩ = some (.int .i64 ((s3 p).c : Nat)) := HW4.out p _ (lkWords_low s3 hpn)
              obtain ⟨dp, hdp⟩ : ∃ dp, dp = n + p := ⟨_, rfl⟩
              have hwp : IntKind.i64.wrap ((n : Int) + (p : Int)) = (dp : Int) := (IntWalk.i64_in _ (by omega)).trans (by omega)
              have hdp2 : (dp : Int) < 2 * (n : Int) := by omega
              have hWP : w4.cell? ⟨b4, o4 + dp, none⟩ = some (.int .i64 ((s3 p).w : Nat)) := HW4.out dp _ (by rw [hdp]; exact lkWords_high s3 hpn)
              have hnp : (w4.drewN i).cell? ⟨b4, o4 + dp, none⟩ = some (.int .i64 ((s3 p).w : Nat)) := hWP
              have HWP := Lib.hid hWP
              have HA := Lib.hid (atL (H4.out.on (w' := w4.drewN i) (below_drewN (Below.refl _ _) i) (Nat.le_refl _)) p)
              have hloc := H4.out.ok.loc p hpn
              unfold BLoc at hloc
              rw [lkAt_in hpn] at HA
              by_cases h1 : (s3 p).a = 1
              · have e1 : ((((s3 p).a : Nat) : Int) == 1) = true := beq_iff_eq.2 (by omega)
                rw [hloc.2.2.2.2.2.1 (Or.inl h1)] at hcp
                rw [hloc.2.2.2.2.2.2.1 (by omega)] at hnp
                clear hloc hdp hWP h1
                go_wp2_with (go_at_call 10; (with_reducible refine HA.out.mono ?_); rintro e w9 ⟨rfl, rfl⟩)
                clear HA hcp hnp e1
                go_loopw [11] (fun q wq => ∃ j i : Nat, j ≤ n ∧ q = .int .i64 j ∧ wq = w4.drewN i) (fun q _ => n - (intOf q).toNat)
                case atStart => exact ⟨0, _, by omega, rfl, rfl⟩
                case round =>
                  obtain ⟨j, i, hj, rfl, rfl⟩ := hrel
                  have HA2 := Lib.hid (atL (H4.out.on (w' := w4.drewN i) (below_drewN (Below.refl _ _) i) (Nat.le_refl _)) p)
                  by_cases hjn : j < n
                  · have hjI : (j : Int) < n := by omega
                    by_cases h7 : lkAt n s3 p = 7
                    · have e7 : (((lkAt n s3 p : Nat) : Int) == 7) = true := beq_iff_eq.2 (by omega)
                      have a7 : (s3 p).a = 7 := by rw [← h7]; exact (lkAt_in hpn).symm
                      have hc := HW4.out j _ (lkWords_low s3 hjn)
                      have hj2 : (j : Int) < 2 * (n : Int) := by omega
                      obtain ⟨dq, hdq⟩ : ∃ dq, dq = n + j := ⟨_, rfl⟩
                      have hwq : IntKind.i64.wrap ((n : Int) + (j : Int)) = (dq : Int) := (IntWalk.i64_in _ (by omega)).trans (by omega)
                      have hdq2 : (dq : Int) < 2 * (n : Int) := by omega
                      have hn := HW4.out dq _ (by rw [hdq]; exact lkWords_high s3 hjn)
                      have hpw := HWP.out
                      have hc' : (w4.drewN i).cell? ⟨b4, o4 + j, none⟩ = some (.int .i64 ((s3 j).c : Nat)) := hc
                      have hn' : (w4.drewN i).cell? ⟨b4, o4 + dq, none⟩ = some (.int .i64 ((s3 j).w : Nat)) := hn
                      have hp' : (w4.drewN i).cell? ⟨b4, o4 + dp, none⟩ = some (.int .i64 ((s3 p).w : Nat)) := hpw
                      clear hdq
                      have HLS := Lib.hid (fun (e : p ≠ j) (hw : (s3 j).w ≠ 0) => H4.out.ok.least hpn hjn e (by omega) hw)
                      clear h7 a7
                      by_cases ejp : j = p
                      · have e1 : ((j : Int) != (p : Int)) = false := by simp; omega
                        clear ejp
                        go_wp2_with (go_at_call 10; (with_reducible refine HA2.out.mono ?_); rintro e w9 ⟨rfl, rfl⟩)
                        go_quiet (fail)
                        go_wp2
                        go_roundw
                        case rel => exact ⟨j + 1, _, by omega, by go_num, rfl⟩
                        case measure => simp [intOf]; omega
                      · have e1 : ((j : Int) != (p : Int)) = true := by simp; omega
                        by_cases ec : (s3 j).c = 0
                        · have e2 : ((((s3 j).c : Nat) : Int) == 0) = true := by simp; omega
                          by_cases ew : (s3 j).w = 0
                          · have e3 : ((((s3 j).w : Nat) : Int) != 0) = false := by simp; omega
                            clear ejp ec ew
                            go_wp2_with (go_at_call 10; (with_reducible refine HA2.out.mono ?_); rintro e w9 ⟨rfl, rfl⟩)
                            go_quiet (fail)
                            go_wp2
                            go_roundw
                            case rel => exact ⟨j + 1, _, by omega, by go_num, rfl⟩
                            case measure => simp [intOf]; omega
                          · have e3 : ((((s3 j).w : Nat) : Int) != 0) = true := by simp; omega
                            have hls := HLS.out (fun e => ejp e.symm) ew
                            have e4 : decide ((((s3 j).w : Nat) : Int) < (((s3 p).w : Nat) : Int)) = false := decide_eq_false (by omega)
                            have e4n : decide ((s3 j).w < (s3 p).w) = false := decide_eq_false (by omega)
                            by_cases eq : (s3 j).w = (s3 p).w
                            · have e5 : ((((s3 j).w : Nat) : Int) == (((s3 p).w : Nat) : Int)) = true := by simp; omega
                              have e5n : ((s3 j).w == (s3 p).w) = true := by simp; omega
                              have e6 : decide ((j : Int) < (p : Int)) = false := decide_eq_false (by omega)
                              have e6n : decide (j < p) = false := decide_eq_false (by omega)
                              clear ejp ec ew eq hls
                              go_wp2_with (go_at_call 10; (with_reducible refine HA2.out.mono ?_); rintro e w9 ⟨rfl, rfl⟩)
                              go_quiet (fail)
                              go_wp2
                              go_roundw
                              case rel => exact ⟨j + 1, _, by omega, by go_num, rfl⟩
                              case measure => simp [intOf]; omega
                            · have e5 : ((((s3 j).w : Nat) : Int) == (((s3 p).w : Nat) : Int)) = false := by simp; omega
                              have e5n : ((s3 j).w == (s3 p).w) = false := by simp; omega
                              clear ejp ec ew eq hls
                              go_wp2_with (go_at_call 10; (with_reducible refine HA2.out.mono ?_); rintro e w9 ⟨rfl, rfl⟩)
                              go_quiet (fail)
                              go_wp2
                              go_roundw
                              case rel => exact ⟨j + 1, _, by omega, by go_num, rfl⟩
                              case measure => simp [intOf]; omega
                        · have e2 : ((((s3 j).c : Nat) : Int) == 0) = false := by simp; omega
                          clear ejp ec
                          go_wp2_with (go_at_call 10; (with_reducible refine HA2.out.mono ?_); rintro e w9 ⟨rfl, rfl⟩)
                          go_quiet (fail)
                          go_wp2
                          go_roundw
                          case rel => exact ⟨j + 1, _, by omega, by go_num, rfl⟩
                          case measure => simp [intOf]; omega
                    · have e7 : (((lkAt n s3 p : Nat) : Int) == 7) = false := beq_eq_false_iff_ne.2 (by omega)
                      go_wp2_with (go_at_call 10; (with_reducible refine HA2.out.mono ?_); rintro e w9 ⟨rfl, rfl⟩)
                      go_roundw
                      case rel => exact ⟨p + 1, _, by omega, by go_num, rfl⟩
                      case measure => simp [intOf]; omega
                  · obtain rfl : j = n := by omega
                    have hjI : ¬ (j : Int) < j := by omega
                    go_wp2
                    go_roundw
                    case rel => exact ⟨p + 1, _, by omega, by go_num, rfl⟩
                    case measure => simp [intOf]; omega
              · have e1 : ((((s3 p).a : Nat) : Int) == 1) = false := beq_eq_false_iff_ne.2 (by omega)
                clear hloc hdp hWP h1
                go_wp2_with (go_at_call 10; (with_reducible refine HA.out.mono ?_); rintro e w9 ⟨rfl, rfl⟩)
                clear HA hcp hnp e1
                go_loopw [11] (fun q wq => ∃ j i : Nat, j ≤ n ∧ q = .int .i64 j ∧ wq = w4.drewN i) (fun q _ => n - (intOf q).toNat)
                case atStart => exact ⟨0, _, by omega, rfl, rfl⟩
                case round =>
                  obtain ⟨j, i, hj, rfl, rfl⟩ := hrel
                  have HA2 := Lib.hid (atL (H4.out.on (w' := w4.drewN i) (below_drewN (Below.refl _ _) i) (Nat.le_refl _)) p)
                  by_cases hjn : j < n
                  · have hjI : (j : Int) < n := by omega
                    by_cases h7 : lkAt n s3 p = 7
                    · have e7 : (((lkAt n s3 p : Nat) : Int) == 7) = true := beq_iff_eq.2 (by omega)
                      have a7 : (s3 p).a = 7 := by rw [← h7]; exact (lkAt_in hpn).symm
                      have hc := HW4.out j _ (lkWords_low s3 hjn)
                      have hj2 : (j : Int) < 2 * (n : Int) := by omega
                      obtain ⟨dq, hdq⟩ : ∃ dq, dq = n + j := ⟨_, rfl⟩
                      have hwq : IntKind.i64.wrap ((n : Int) + (j : Int)) = (dq : Int) := (IntWalk.i64_in _ (by omega)).trans (by omega)
                      have hdq2 : (dq : Int) < 2 * (n : Int) := by omega
                      have hn := HW4.out dq _ (by rw [hdq]; exact lkWords_high s3 hjn)
                      have hpw := HWP.out
                      have hc' : (w4.drewN i).cell? ⟨b4, o4 + j, none⟩ = some (.int .i64 ((s3 j).c : Nat)) := hc
                      have hn' : (w4.drewN i).cell? ⟨b4, o4 + dq, none⟩ = some (.int .i64 ((s3 j).w : Nat)) := hn
                      have hp' : (w4.drewN i).cell? ⟨b4, o4 + dp, none⟩ = some (.int .i64 ((s3 p).w : Nat)) := hpw
                      clear hdq
                      have HLS := Lib.hid (fun (e : p ≠ j) (hw : (s3 j).w ≠ 0) => H4.out.ok.least hpn hjn e (by omega) hw)
                      clear h7 a7
                      by_cases ejp : j = p
                      · have e1 : ((j : Int) != (p : Int)) = false := by simp; omega
                        clear ejp
                        go_wp2_with (go_at_call 10; (with_reducible refine HA2.out.mono ?_); rintro e w9 ⟨rfl, rfl⟩)
                        go_quiet (fail)
                        go_wp2
                        go_roundw
                        case rel => exact ⟨j + 1, _, by omega, by go_num, rfl⟩
                        case measure => simp [intOf]; omega
                      · have e1 : ((j : Int) != (p : Int)) = true := by simp; omega
                        by_cases ec : (s3 j).c = 0
                        · have e2 : ((((s3 j).c : Nat) : Int) == 0) = true := by simp; omega
                          by_cases ew : (s3 j).w = 0
                          · have e3 : ((((s3 j).w : Nat) : Int) != 0) = false := by simp; omega
                            clear ejp ec ew
                            go_wp2_with (go_at_call 10; (with_reducible refine HA2.out.mono ?_); rintro e w9 ⟨rfl, rfl⟩)
                            go_quiet (fail)
                            go_wp2
                            go_roundw
                            case rel => exact ⟨j + 1, _, by omega, by go_num, rfl⟩
                            case measure => simp [intOf]; omega
                          · have e3 : ((((s3 j).w : Nat) : Int) != 0) = true := by simp; omega
                            have hls := HLS.out (fun e => ejp e.symm) ew
                            have e4 : decide ((((s3 j).w : Nat) : Int) < (((s3 p).w : Nat) : Int)) = false := decide_eq_false (by omega)
                            have e4n : decide ((s3 j).w < (s3 p).w) = false := decide_eq_false (by omega)
                            by_cases eq : (s3 j).w = (s3 p).w
                            · have e5 : ((((s3 j).w : Nat) : Int) == (((s3 p).w : Nat) : Int)) = true := by simp; omega
                              have e5n : ((s3 j).w == (s3 p).w) = true := by simp; omega
                              have e6 : decide ((j : Int) < (p : Int)) = false := decide_eq_false (by omega)
                              have e6n : decide (j < p) = false := decide_eq_false (by omega)
                              clear ejp ec ew eq hls
                              go_wp2_with (go_at_call 10; (with_reducible refine HA2.out.mono ?_); rintro e w9 ⟨rfl, rfl⟩)
                              go_quiet (fail)
                              go_wp2
                              go_roundw
                              case rel => exact ⟨j + 1, _, by omega, by go_num, rfl⟩
                              case measure => simp [intOf]; omega
                            · have e5 : ((((s3 j).w : Nat) : Int) == (((s3 p).w : Nat) : Int)) = false := by simp; omega
                              have e5n : ((s3 j).w == (s3 p).w) = false := by simp; omega
                              clear ejp ec ew eq hls
                              go_wp2_with (go_at_call 10; (with_reducible refine HA2.out.mono ?_); rintro e w9 ⟨rfl, rfl⟩)
                              go_quiet (fail)
                              go_wp2
                              go_roundw
                              case rel => exact ⟨j + 1, _, by omega, by go_num, rfl⟩
                              case measure => simp [intOf]; omega
                        · have e2 : ((((s3 j).c : Nat) : Int) == 0) = false := by simp; omega
                          clear ejp ec
                          go_wp2_with (go_at_call 10; (with_reducible refine HA2.out.mono ?_); rintro e w9 ⟨rfl, rfl⟩)
                          go_quiet (fail)
                          go_wp2
                          go_roundw
                          case rel => exact ⟨j + 1, _, by omega, by go_num, rfl⟩
                          case measure => simp [intOf]; omega
                    · have e7 : (((lkAt n s3 p : Nat) : Int) == 7) = false := beq_eq_false_iff_ne.2 (by omega)
                      go_wp2_with (go_at_call 10; (with_reducible refine HA2.out.mono ?_); rintro e w9 ⟨rfl, rfl⟩)
                      go_roundw
                      case rel => exact ⟨p + 1, _, by omega, by go_num, rfl⟩
                      case measure => simp [intOf]; omega
                  · obtain rfl : j = n := by omega
                    have hjI : ¬ (j : Int) < j := by omega
                    go_wp2
                    go_roundw
                    case rel => exact ⟨p + 1, _, by omega, by go_num, rfl⟩
                    case measure => simp [intOf]; omega
            · obtain rfl : p = n := by omega
              have hpI : ¬ (p : Int) < p := by omega
              go_wp2
              go_roundw
              case rel => exact ⟨k + 1, s3, by omega, by go_num, by omega, H4.out.on (below_drewN (Below.refl _ _) i) (Nat.le_refl _)⟩
              case measure => simp [intOf]; omega
        · have h4I : ¬ (k : Int) < 400 := by omega
          go_wp2
          go_ret
          exact ⟨rfl, HL.out.below⟩
      · have hI : ¬ (k : Int) < script.length := by omega
        go_wp2
        go_ret
        exact ⟨rfl, HL.out.below⟩
  · have HZ := Lib.hid hz
    by_cases hz1 : z < 1
    all_goals
      clear hz
      go_enter Try.func6, Try.ntmps6
      go_wp2_with (first | (go_at_call 7; refine (fact_any _).mono ?_; rintro e w1 ⟨rfl, hb⟩; have HB := Lib.hid hb; clear hb) | (go_at_call 8; refine (newBad HB.out z HZ.out).mono ?_; rw [errV_one]; rintro e w2 ⟨rfl, hb⟩; have HB2 := Lib.hid hb; clear hb))
      go_ret
      first | exact ⟨rfl, HB2.out⟩ | exact ⟨congrArg (fun b => Ending.returned (.bool b)) (bad_true HZ.out), HB2.out⟩
end Go.Proofs.Ytgkicabfmkghmaa.Bakery
