/-
  The walk of latchgarthlaw2.DekkerFair: it answers true, whatever the script and the hand.
-/
import Derived.Test.YtjldbgecfongfaaDekFact
namespace Go.Proofs.Ytjldbgecfongfaa
open Go.RowKit

theorem in_true (n lo hi : Int) (h0 : lo ≤ n) (h1 : n ≤ hi) (w : World) : Calls Try.prog 10 #[.int .i64 n, .int .i64 lo, .int .i64 hi] w fun e w' => e = .returned (.bool true) ∧ w = w' := by
  go_enter Try.func10, Try.ntmps10
  go_wp2
  go_ret
  exact ⟨rfl, rfl⟩
theorem in_false (n lo hi : Int) (h : ¬ (lo ≤ n ∧ n ≤ hi)) (w : World) : Calls Try.prog 10 #[.int .i64 n, .int .i64 lo, .int .i64 hi] w fun e w' => e = .returned (.bool false) ∧ w = w' := by
  by_cases h0 : lo ≤ n
  · have h1 : ¬ n ≤ hi := fun k => h ⟨h0, k⟩
    clear h
    go_enter Try.func10, Try.ntmps10
    go_wp2
    go_ret
    exact ⟨rfl, rfl⟩
  · clear h
    go_enter Try.func10, Try.ntmps10
    go_wp2
    go_ret
    exact ⟨rfl, rfl⟩

theorem soon0 {s : List Int} (hs : s ∈ pall) (h1 : 2 ≤ atP s 0) (h2 : atP s 0 ≤ 6) : dsoon 0 1 60 (s, 0) = true := (pall_fair s hs).1 h1 h2
theorem soon1 {s : List Int} (hs : s ∈ pall) (h1 : 2 ≤ atP s 1) (h2 : atP s 1 ≤ 6) : dsoon 1 0 60 (s, 0) = true := (pall_fair s hs).2 h1 h2
theorem soon_in {p q n : Nat} {x : List Int × Int} (h : dsoon p q (n + 1) x = true) (hi : atP (dfair p q x).1 p = 7) : (dfair p q x).2 ≤ 2 := by
  have hi' : (dfair p q x).1.getD (3 + p) 0 = 7 := hi
  simp only [dsoon, if_pos hi'] at h
  exact of_decide_eq_true h
theorem soon_out {p q n : Nat} {x : List Int × Int} (h : dsoon p q (n + 1) x = true) (hi : ¬ atP (dfair p q x).1 p = 7) : dsoon p q n (dfair p q x) = true := by
  have hi' : ¬ (dfair p q x).1.getD (3 + p) 0 = 7 := hi
  simpa only [dsoon, if_neg hi'] using h
theorem dfair_yes (p q : Nat) (s : List Int) (c : Int) (h1 : ¬ atP s q = 7) (h2 : atP (pdo s q p) q = 7) : dfair p q (s, c) = (pdo (pdo s q p) p q, c + 1) := by
  have h1' : s.getD (3 + q) 0 ≠ 7 := h1
  have h2' : (pdo s q p).getD (3 + q) 0 = 7 := h2
  simp only [dfair, if_pos (And.intro h1' h2')]
theorem dfair_no (p q : Nat) (s : List Int) (c : Int) (h : ¬ (atP s q ≠ 7 ∧ atP (pdo s q p) q = 7)) : dfair p q (s, c) = (pdo (pdo s q p) p q, c) := by
  have h' : ¬ (s.getD (3 + q) 0 ≠ 7 ∧ (pdo s q p).getD (3 + q) 0 = 7) := h
  simp only [dfair, if_neg h']

set_option maxHeartbeats 4000000 in
theorem dekfair_law (sv : Value) (script : List Int) (p : Int) (w : World) (hn : Nums w w.heap.size sv script) :
    Calls Try.prog 5 #[sv, .int .i64 p] w fun e w' => e = .returned (.bool true) ∧ Below w.heap.size w w' := by
  obtain ⟨A, c, rfl, hlen, hn⟩ := hn
  have HN := Lib.hid hn
  clear hn
  go_enter Try.func5, Try.ntmps5
  go_wp2_with (first | (go_at_call 6; refine (dekFact_any _).mono ?_; rintro e w1 ⟨rfl, hb⟩; have HB := Lib.hid hb; clear hb) | (go_at_call 7; refine (newL HB.out).mono ?_; rintro e w2 ⟨g, rfl, hl⟩; have HL := Lib.hid hl; clear hl))
  go_loopw [7] (fun i wr => ∃ (k : Nat) (s : List Int), k ≤ script.length ∧ i = .int .i64 k ∧ LkAt w wr g s) (fun i _ => script.length - (intOf i).toNat)
  case atStart => exact ⟨0, pnew, by omega, rfl, HL.out⟩
  case round =>
    clear HL
    obtain ⟨k, s, hk, rfl, hl⟩ := hrel
    have HL := Lib.hid hl
    by_cases hgo : k < script.length ∧ k < 200
    · have hI : (k : Int) < script.length := by omega
      have h4 : (k : Int) < 200 := by omega
      obtain ⟨hlt, _⟩ := hgo
      obtain ⟨b, o, rfl, hbb, hcc⟩ := HN.out (by omega)
      obtain ⟨x, hx⟩ : ∃ x, script[k]? = some x := ⟨script[k], List.getElem?_eq_getElem hlt⟩
      have hxc := (hl.below.cell (p := ⟨b, o + k, none⟩) hbb).trans (hcc k x hx)
      have HX := Lib.hid hx
      clear hcc hx hl
      go_wp2_with (go_at_call 8; (with_reducible refine (stepL HL.out x).mono ?_); rintro e w3 ⟨rfl, hl⟩; have H3 := Lib.hid hl; clear hl)
      go_roundw
      case rel => exact ⟨k + 1, _, by omega, by go_num, H3.out⟩
      case measure => simp [intOf]; omega
    · clear hl
      by_cases hp : 0 ≤ p ∧ p ≤ 1
      · have hh : (k : Int) < script.length ∧ ¬ (k : Int) < 200 ∨ ¬ (k : Int) < script.length := by omega
        clear hgo
        obtain rfl | rfl : p = 0 ∨ p = 1 := by omega
        · clear hp
          by_cases hin : 2 ≤ atP s 0 ∧ atP s 0 ≤ 6
          · have HD := Lib.hid (soon0 HL.out.all hin.1 hin.2)
            have HI := Lib.hid hin
            clear hin
            rcases hh with ⟨hI, hJ⟩ | hI
            all_goals
              go_wp2_with (first | (go_at_call 10; (with_reducible refine (in_true 0 0 1 (by omega) (by omega) _).mono ?_); rintro e w' ⟨rfl, rfl⟩) | (go_at_call 10; (with_reducible refine (in_true (atP s 0) 2 6 HI.out.1 HI.out.2 _).mono ?_); rintro e w' ⟨rfl, rfl⟩) | (go_at_call 9; (with_reducible refine (at0 HL.out).mono ?_); rintro e w' ⟨rfl, rfl⟩))
              go_loopw [8, 9] (fun c j wr => ∃ (m : Nat) (x : List Int × Int), m ≤ 60 ∧ j = .int .i64 m ∧ c = .int .i64 x.2 ∧ 0 ≤ x.2 ∧ x.2 ≤ m ∧ dsoon 0 1 (60 - m) x = true ∧ LkAt w wr g x.1) (fun _ j _ => 60 - (intOf j).toNat)
              case atStart => exact ⟨0, (s, 0), by omega, rfl, rfl, by simp, by simp, HD.out, HL.out⟩
              case round =>
                clear HD HL HI
                obtain ⟨m, ⟨s1, c⟩, hm, rfl, rfl, hc0, hc1, hd, hl⟩ := hrel
                simp only at hc0 hc1 hl
                have HL := Lib.hid hl
                clear hl
                obtain ⟨n, hn⟩ : ∃ n, 60 - m = n := ⟨_, rfl⟩
                rw [hn] at hd
                match n, hn, hd with
                | 0, _, hd => cases hd
                | n + 1, hn, hd =>
                  have hmI : (m : Int) < 60 := by omega
                  have HD := Lib.hid hd
                  have HN := Lib.hid hn
                  clear hd hn
                  have e1 : pstp s1 1 = pdo s1 1 0 := by rfl
                  have e2 : pstp (pstp s1 1) 0 = pdo (pdo s1 1 0) 0 1 := by rfl
                  by_cases hw : atP s1 1 = 7
                  · skip
                    have HE := Lib.hid (show dfair 0 1 (s1, c) = (pstp (pstp s1 1) 0, c) from dfair_no 0 1 s1 c (fun h => h.1 hw))
                    by_cases hi : atP (pstp (pstp s1 1) 0) 0 = 7
                    · have ew : (atP s1 1 != 7) = false := bne_eq_false_iff_eq.2 hw
                      have ei : (atP (pstp (pstp s1 1) 0) 0 == 7) = true := beq_iff_eq.2 hi
                      have hle : c ≤ 2 := by have := soon_in (p := 0) (q := 1) HD.out (by rw [HE.out]; exact hi); rw [HE.out] at this; exact this
                      clear hw hi e1 e2
                      go_wp2_with (first | (go_at_call 9; (with_reducible refine (at1 HL.out).mono ?_); rintro e w1 ⟨rfl, rfl⟩) | (go_at_call 8; (with_reducible refine (stepG HL.out 1 (by omega) (by omega)).mono ?_); rintro e w3 ⟨rfl, hl⟩; have H3 := Lib.hid hl; clear hl) | (go_at_call 9; (with_reducible refine (at1 H3.out).mono ?_); rintro e w4 ⟨rfl, rfl⟩) | (go_at_call 8; (with_reducible refine (stepG H3.out 0 (by omega) (by omega)).mono ?_); rintro e w5 ⟨rfl, hl⟩; have H5 := Lib.hid hl; clear hl) | (go_at_call 9; (with_reducible refine (at0 H5.out).mono ?_); rintro e w6 ⟨rfl, rfl⟩))
                      go_ret
                      exact ⟨rfl, H5.out.below⟩
                    · have ew : (atP s1 1 != 7) = false := bne_eq_false_iff_eq.2 hw
                      have ei : (atP (pstp (pstp s1 1) 0) 0 == 7) = false := beq_eq_false_iff_ne.2 hi
                      have HO := Lib.hid (soon_out (p := 0) (q := 1) HD.out (by rw [HE.out]; exact hi))
                      clear hw hi e1 e2
                      go_wp2_with (first | (go_at_call 9; (with_reducible refine (at1 HL.out).mono ?_); rintro e w1 ⟨rfl, rfl⟩) | (go_at_call 8; (with_reducible refine (stepG HL.out 1 (by omega) (by omega)).mono ?_); rintro e w3 ⟨rfl, hl⟩; have H3 := Lib.hid hl; clear hl) | (go_at_call 9; (with_reducible refine (at1 H3.out).mono ?_); rintro e w4 ⟨rfl, rfl⟩) | (go_at_call 8; (with_reducible refine (stepG H3.out 0 (by omega) (by omega)).mono ?_); rintro e w5 ⟨rfl, hl⟩; have H5 := Lib.hid hl; clear hl) | (go_at_call 9; (with_reducible refine (at0 H5.out).mono ?_); rintro e w6 ⟨rfl, rfl⟩))
                      go_roundw
                      case rel => exact ⟨m + 1, dfair 0 1 (s1, c), by omega, by go_num, by rw [HE.out], by rw [HE.out]; simp only; omega, by rw [HE.out]; simp only; omega, by rw [show 60 - (m + 1) = n by have := HN.out; omega]; exact HO.out, by rw [HE.out]; exact H5.out⟩
                      case measure => simp [intOf]; omega
                  · by_cases hq : atP (pstp s1 1) 1 = 7
                    · skip
                      have HE := Lib.hid (show dfair 0 1 (s1, c) = (pstp (pstp s1 1) 0, c + 1) from dfair_yes 0 1 s1 c hw hq)
                      by_cases hi : atP (pstp (pstp s1 1) 0) 0 = 7
                      · have ew : (atP s1 1 != 7) = true := bne_iff_ne.2 hw
                        have eq : (atP (pstp s1 1) 1 == 7) = true := beq_iff_eq.2 hq
                        have ei : (atP (pstp (pstp s1 1) 0) 0 == 7) = true := beq_iff_eq.2 hi
                        have hle : c + 1 ≤ 2 := by have := soon_in (p := 0) (q := 1) HD.out (by rw [HE.out]; exact hi); rw [HE.out] at this; exact this
                        clear hw hq hi e1 e2
                        go_wp2_with (first | (go_at_call 9; (with_reducible refine (at1 HL.out).mono ?_); rintro e w1 ⟨rfl, rfl⟩) | (go_at_call 8; (with_reducible refine (stepG HL.out 1 (by omega) (by omega)).mono ?_); rintro e w3 ⟨rfl, hl⟩; have H3 := Lib.hid hl; clear hl) | (go_at_call 9; (with_reducible refine (at1 H3.out).mono ?_); rintro e w4 ⟨rfl, rfl⟩) | (go_at_call 8; (with_reducible refine (stepG H3.out 0 (by omega) (by omega)).mono ?_); rintro e w5 ⟨rfl, hl⟩; have H5 := Lib.hid hl; clear hl) | (go_at_call 9; (with_reducible refine (at0 H5.out).mono ?_); rintro e w6 ⟨rfl, rfl⟩))
                        go_ret
                        exact ⟨rfl, H5.out.below⟩
                      · have ew : (atP s1 1 != 7) = true := bne_iff_ne.2 hw
                        have eq : (atP (pstp s1 1) 1 == 7) = true := beq_iff_eq.2 hq
                        have ei : (atP (pstp (pstp s1 1) 0) 0 == 7) = false := beq_eq_false_iff_ne.2 hi
                        have HO := Lib.hid (soon_out (p := 0) (q := 1) HD.out (by rw [HE.out]; exact hi))
                        clear hw hq hi e1 e2
                        go_wp2_with (first | (go_at_call 9; (with_reducible refine (at1 HL.out).mono ?_); rintro e w1 ⟨rfl, rfl⟩) | (go_at_call 8; (with_reducible refine (stepG HL.out 1 (by omega) (by omega)).mono ?_); rintro e w3 ⟨rfl, hl⟩; have H3 := Lib.hid hl; clear hl) | (go_at_call 9; (with_reducible refine (at1 H3.out).mono ?_); rintro e w4 ⟨rfl, rfl⟩) | (go_at_call 8; (with_reducible refine (stepG H3.out 0 (by omega) (by omega)).mono ?_); rintro e w5 ⟨rfl, hl⟩; have H5 := Lib.hid hl; clear hl) | (go_at_call 9; (with_reducible refine (at0 H5.out).mono ?_); rintro e w6 ⟨rfl, rfl⟩))
                        go_roundw
                        case rel => exact ⟨m + 1, dfair 0 1 (s1, c), by omega, by go_num, by rw [HE.out], by rw [HE.out]; simp only; omega, by rw [HE.out]; simp only; omega, by rw [show 60 - (m + 1) = n by have := HN.out; omega]; exact HO.out, by rw [HE.out]; exact H5.out⟩
                        case measure => simp [intOf]; omega
                    · skip
                      have HE := Lib.hid (show dfair 0 1 (s1, c) = (pstp (pstp s1 1) 0, c) from dfair_no 0 1 s1 c (fun h => hq h.2))
                      by_cases hi : atP (pstp (pstp s1 1) 0) 0 = 7
                      · have ew : (atP s1 1 != 7) = true := bne_iff_ne.2 hw
                        have eq : (atP (pstp s1 1) 1 == 7) = false := beq_eq_false_iff_ne.2 hq
                        have ei : (atP (pstp (pstp s1 1) 0) 0 == 7) = true := beq_iff_eq.2 hi
                        have hle : c ≤ 2 := by have := soon_in (p := 0) (q := 1) HD.out (by rw [HE.out]; exact hi); rw [HE.out] at this; exact this
                        clear hw hq hi e1 e2
                        go_wp2_with (first | (go_at_call 9; (with_reducible refine (at1 HL.out).mono ?_); rintro e w1 ⟨rfl, rfl⟩) | (go_at_call 8; (with_reducible refine (stepG HL.out 1 (by omega) (by omega)).mono ?_); rintro e w3 ⟨rfl, hl⟩; have H3 := Lib.hid hl; clear hl) | (go_at_call 9; (with_reducible refine (at1 H3.out).mono ?_); rintro e w4 ⟨rfl, rfl⟩) | (go_at_call 8; (with_reducible refine (stepG H3.out 0 (by omega) (by omega)).mono ?_); rintro e w5 ⟨rfl, hl⟩; have H5 := Lib.hid hl; clear hl) | (go_at_call 9; (with_reducible refine (at0 H5.out).mono ?_); rintro e w6 ⟨rfl, rfl⟩))
                        go_ret
                        exact ⟨rfl, H5.out.below⟩
                      · have ew : (atP s1 1 != 7) = true := bne_iff_ne.2 hw
                        have eq : (atP (pstp s1 1) 1 == 7) = false := beq_eq_false_iff_ne.2 hq
                        have ei : (atP (pstp (pstp s1 1) 0) 0 == 7) = false := beq_eq_false_iff_ne.2 hi
                        have HO := Lib.hid (soon_out (p := 0) (q := 1) HD.out (by rw [HE.out]; exact hi))
                        clear hw hq hi e1 e2
                        go_wp2_with (first | (go_at_call 9; (with_reducible refine (at1 HL.out).mono ?_); rintro e w1 ⟨rfl, rfl⟩) | (go_at_call 8; (with_reducible refine (stepG HL.out 1 (by omega) (by omega)).mono ?_); rintro e w3 ⟨rfl, hl⟩; have H3 := Lib.hid hl; clear hl) | (go_at_call 9; (with_reducible refine (at1 H3.out).mono ?_); rintro e w4 ⟨rfl, rfl⟩) | (go_at_call 8; (with_reducible refine (stepG H3.out 0 (by omega) (by omega)).mono ?_); rintro e w5 ⟨rfl, hl⟩; have H5 := Lib.hid hl; clear hl) | (go_at_call 9; (with_reducible refine (at0 H5.out).mono ?_); rintro e w6 ⟨rfl, rfl⟩))
                        go_roundw
                        case rel => exact ⟨m + 1, dfair 0 1 (s1, c), by omega, by go_num, by rw [HE.out], by rw [HE.out]; simp only; omega, by rw [HE.out]; simp only; omega, by rw [show 60 - (m + 1) = n by have := HN.out; omega]; exact HO.out, by rw [HE.out]; exact H5.out⟩
                        case measure => simp [intOf]; omega
          · have HI := Lib.hid hin
            clear hin
            rcases hh with ⟨hI, hJ⟩ | hI
            all_goals
              go_wp2_with (first | (go_at_call 10; (with_reducible refine (in_true 0 0 1 (by omega) (by omega) _).mono ?_); rintro e w' ⟨rfl, rfl⟩) | (go_at_call 10; (with_reducible refine (in_false (atP s 0) 2 6 HI.out _).mono ?_); rintro e w' ⟨rfl, rfl⟩) | (go_at_call 9; (with_reducible refine (at0 HL.out).mono ?_); rintro e w' ⟨rfl, rfl⟩))
              go_ret
              exact ⟨rfl, HL.out.below⟩
        · clear hp
          by_cases hin : 2 ≤ atP s 1 ∧ atP s 1 ≤ 6
          · have HD := Lib.hid (soon1 HL.out.all hin.1 hin.2)
            have HI := Lib.hid hin
            clear hin
            rcases hh with ⟨hI, hJ⟩ | hI
            all_goals
              go_wp2_with (first | (go_at_call 10; (with_reducible refine (in_true 1 0 1 (by omega) (by omega) _).mono ?_); rintro e w' ⟨rfl, rfl⟩) | (go_at_call 10; (with_reducible refine (in_true (atP s 1) 2 6 HI.out.1 HI.out.2 _).mono ?_); rintro e w' ⟨rfl, rfl⟩) | (go_at_call 9; (with_reducible refine (at1 HL.out).mono ?_); rintro e w' ⟨rfl, rfl⟩))
              go_loopw [8, 9] (fun c j wr => ∃ (m : Nat) (x : List Int × Int), m ≤ 60 ∧ j = .int .i64 m ∧ c = .int .i64 x.2 ∧ 0 ≤ x.2 ∧ x.2 ≤ m ∧ dsoon 1 0 (60 - m) x = true ∧ LkAt w wr g x.1) (fun _ j _ => 60 - (intOf j).toNat)
              case atStart => exact ⟨0, (s, 0), by omega, rfl, rfl, by simp, by simp, HD.out, HL.out⟩
              case round =>
                clear HD HL HI
                obtain ⟨m, ⟨s1, c⟩, hm, rfl, rfl, hc0, hc1, hd, hl⟩ := hrel
                simp only at hc0 hc1 hl
                have HL := Lib.hid hl
                clear hl
                obtain ⟨n, hn⟩ : ∃ n, 60 - m = n := ⟨_, rfl⟩
                rw [hn] at hd
                match n, hn, hd with
                | 0, _, hd => cases hd
                | n + 1, hn, hd =>
                  have hmI : (m : Int) < 60 := by omega
                  have HD := Lib.hid hd
                  have HN := Lib.hid hn
                  clear hd hn
                  have e1 : pstp s1 0 = pdo s1 0 1 := by rfl
                  have e2 : pstp (pstp s1 0) 1 = pdo (pdo s1 0 1) 1 0 := by rfl
                  by_cases hw : atP s1 0 = 7
                  · skip
                    have HE := Lib.hid (show dfair 1 0 (s1, c) = (pstp (pstp s1 0) 1, c) from dfair_no 1 0 s1 c (fun h => h.1 hw))
                    by_cases hi : atP (pstp (pstp s1 0) 1) 1 = 7
                    · have ew : (atP s1 0 != 7) = false := bne_eq_false_iff_eq.2 hw
                      have ei : (atP (pstp (pstp s1 0) 1) 1 == 7) = true := beq_iff_eq.2 hi
                      have hle : c ≤ 2 := by have := soon_in (p := 1) (q := 0) HD.out (by rw [HE.out]; exact hi); rw [HE.out] at this; exact this
                      clear hw hi e1 e2
                      go_wp2_with (first | (go_at_call 9; (with_reducible refine (at0 HL.out).mono ?_); rintro e w1 ⟨rfl, rfl⟩) | (go_at_call 8; (with_reducible refine (stepG HL.out 0 (by omega) (by omega)).mono ?_); rintro e w3 ⟨rfl, hl⟩; have H3 := Lib.hid hl; clear hl) | (go_at_call 9; (with_reducible refine (at0 H3.out).mono ?_); rintro e w4 ⟨rfl, rfl⟩) | (go_at_call 8; (with_reducible refine (stepG H3.out 1 (by omega) (by omega)).mono ?_); rintro e w5 ⟨rfl, hl⟩; have H5 := Lib.hid hl; clear hl) | (go_at_call 9; (with_reducible refine (at1 H5.out).mono ?_); rintro e w6 ⟨rfl, rfl⟩))
                      go_ret
                      exact ⟨rfl, H5.out.below⟩
                    · have ew : (atP s1 0 != 7) = false := bne_eq_false_iff_eq.2 hw
                      have ei : (atP (pstp (pstp s1 0) 1) 1 == 7) = false := beq_eq_false_iff_ne.2 hi
                      have HO := Lib.hid (soon_out (p := 1) (q := 0) HD.out (by rw [HE.out]; exact hi))
                      clear hw hi e1 e2
                      go_wp2_with (first | (go_at_call 9; (with_reducible refine (at0 HL.out).mono ?_); rintro e w1 ⟨rfl, rfl⟩) | (go_at_call 8; (with_reducible refine (stepG HL.out 0 (by omega) (by omega)).mono ?_); rintro e w3 ⟨rfl, hl⟩; have H3 := Lib.hid hl; clear hl) | (go_at_call 9; (with_reducible refine (at0 H3.out).mono ?_); rintro e w4 ⟨rfl, rfl⟩) | (go_at_call 8; (with_reducible refine (stepG H3.out 1 (by omega) (by omega)).mono ?_); rintro e w5 ⟨rfl, hl⟩; have H5 := Lib.hid hl; clear hl) | (go_at_call 9; (with_reducible refine (at1 H5.out).mono ?_); rintro e w6 ⟨rfl, rfl⟩))
                      go_roundw
                      case rel => exact ⟨m + 1, dfair 1 0 (s1, c), by omega, by go_num, by rw [HE.out], by rw [HE.out]; simp only; omega, by rw [HE.out]; simp only; omega, by rw [show 60 - (m + 1) = n by have := HN.out; omega]; exact HO.out, by rw [HE.out]; exact H5.out⟩
                      case measure => simp [intOf]; omega
                  · by_cases hq : atP (pstp s1 0) 0 = 7
                    · skip
                      have HE := Lib.hid (show dfair 1 0 (s1, c) = (pstp (pstp s1 0) 1, c + 1) from dfair_yes 1 0 s1 c hw hq)
                      by_cases hi : atP (pstp (pstp s1 0) 1) 1 = 7
                      · have ew : (atP s1 0 != 7) = true := bne_iff_ne.2 hw
                        have eq : (atP (pstp s1 0) 0 == 7) = true := beq_iff_eq.2 hq
                        have ei : (atP (pstp (pstp s1 0) 1) 1 == 7) = true := beq_iff_eq.2 hi
                        have hle : c + 1 ≤ 2 := by have := soon_in (p := 1) (q := 0) HD.out (by rw [HE.out]; exact hi); rw [HE.out] at this; exact this
                        clear hw hq hi e1 e2
                        go_wp2_with (first | (go_at_call 9; (with_reducible refine (at0 HL.out).mono ?_); rintro e w1 ⟨rfl, rfl⟩) | (go_at_call 8; (with_reducible refine (stepG HL.out 0 (by omega) (by omega)).mono ?_); rintro e w3 ⟨rfl, hl⟩; have H3 := Lib.hid hl; clear hl) | (go_at_call 9; (with_reducible refine (at0 H3.out).mono ?_); rintro e w4 ⟨rfl, rfl⟩) | (go_at_call 8; (with_reducible refine (stepG H3.out 1 (by omega) (by omega)).mono ?_); rintro e w5 ⟨rfl, hl⟩; have H5 := Lib.hid hl; clear hl) | (go_at_call 9; (with_reducible refine (at1 H5.out).mono ?_); rintro e w6 ⟨rfl, rfl⟩))
                        go_ret
                        exact ⟨rfl, H5.out.below⟩
                      · have ew : (atP s1 0 != 7) = true := bne_iff_ne.2 hw
                        have eq : (atP (pstp s1 0) 0 == 7) = true := beq_iff_eq.2 hq
                        have ei : (atP (pstp (pstp s1 0) 1) 1 == 7) = false := beq_eq_false_iff_ne.2 hi
                        have HO := Lib.hid (soon_out (p := 1) (q := 0) HD.out (by rw [HE.out]; exact hi))
                        clear hw hq hi e1 e2
                        go_wp2_with (first | (go_at_call 9; (with_reducible refine (at0 HL.out).mono ?_); rintro e w1 ⟨rfl, rfl⟩) | (go_at_call 8; (with_reducible refine (stepG HL.out 0 (by omega) (by omega)).mono ?_); rintro e w3 ⟨rfl, hl⟩; have H3 := Lib.hid hl; clear hl) | (go_at_call 9; (with_reducible refine (at0 H3.out).mono ?_); rintro e w4 ⟨rfl, rfl⟩) | (go_at_call 8; (with_reducible refine (stepG H3.out 1 (by omega) (by omega)).mono ?_); rintro e w5 ⟨rfl, hl⟩; have H5 := Lib.hid hl; clear hl) | (go_at_call 9; (with_reducible refine (at1 H5.out).mono ?_); rintro e w6 ⟨rfl, rfl⟩))
                        go_roundw
                        case rel => exact ⟨m + 1, dfair 1 0 (s1, c), by omega, by go_num, by rw [HE.out], by rw [HE.out]; simp only; omega, by rw [HE.out]; simp only; omega, by rw [show 60 - (m + 1) = n by have := HN.out; omega]; exact HO.out, by rw [HE.out]; exact H5.out⟩
                        case measure => simp [intOf]; omega
                    · skip
                      have HE := Lib.hid (show dfair 1 0 (s1, c) = (pstp (pstp s1 0) 1, c) from dfair_no 1 0 s1 c (fun h => hq h.2))
                      by_cases hi : atP (pstp (pstp s1 0) 1) 1 = 7
                      · have ew : (atP s1 0 != 7) = true := bne_iff_ne.2 hw
                        have eq : (atP (pstp s1 0) 0 == 7) = false := beq_eq_false_iff_ne.2 hq
                        have ei : (atP (pstp (pstp s1 0) 1) 1 == 7) = true := beq_iff_eq.2 hi
                        have hle : c ≤ 2 := by have := soon_in (p := 1) (q := 0) HD.out (by rw [HE.out]; exact hi); rw [HE.out] at this; exact this
                        clear hw hq hi e1 e2
                        go_wp2_with (first | (go_at_call 9; (with_reducible refine (at0 HL.out).mono ?_); rintro e w1 ⟨rfl, rfl⟩) | (go_at_call 8; (with_reducible refine (stepG HL.out 0 (by omega) (by omega)).mono ?_); rintro e w3 ⟨rfl, hl⟩; have H3 := Lib.hid hl; clear hl) | (go_at_call 9; (with_reducible refine (at0 H3.out).mono ?_); rintro e w4 ⟨rfl, rfl⟩) | (go_at_call 8; (with_reducible refine (stepG H3.out 1 (by omega) (by omega)).mono ?_); rintro e w5 ⟨rfl, hl⟩; have H5 := Lib.hid hl; clear hl) | (go_at_call 9; (with_reducible refine (at1 H5.out).mono ?_); rintro e w6 ⟨rfl, rfl⟩))
                        go_ret
                        exact ⟨rfl, H5.out.below⟩
                      · have ew : (atP s1 0 != 7) = true := bne_iff_ne.2 hw
                        have eq : (atP (pstp s1 0) 0 == 7) = false := beq_eq_false_iff_ne.2 hq
                        have ei : (atP (pstp (pstp s1 0) 1) 1 == 7) = false := beq_eq_false_iff_ne.2 hi
                        have HO := Lib.hid (soon_out (p := 1) (q := 0) HD.out (by rw [HE.out]; exact hi))
                        clear hw hq hi e1 e2
                        go_wp2_with (first | (go_at_call 9; (with_reducible refine (at0 HL.out).mono ?_); rintro e w1 ⟨rfl, rfl⟩) | (go_at_call 8; (with_reducible refine (stepG HL.out 0 (by omega) (by omega)).mono ?_); rintro e w3 ⟨rfl, hl⟩; have H3 := Lib.hid hl; clear hl) | (go_at_call 9; (with_reducible refine (at0 H3.out).mono ?_); rintro e w4 ⟨rfl, rfl⟩) | (go_at_call 8; (with_reducible refine (stepG H3.out 1 (by omega) (by omega)).mono ?_); rintro e w5 ⟨rfl, hl⟩; have H5 := Lib.hid hl; clear hl) | (go_at_call 9; (with_reducible refine (at1 H5.out).mono ?_); rintro e w6 ⟨rfl, rfl⟩))
                        go_roundw
                        case rel => exact ⟨m + 1, dfair 1 0 (s1, c), by omega, by go_num, by rw [HE.out], by rw [HE.out]; simp only; omega, by rw [HE.out]; simp only; omega, by rw [show 60 - (m + 1) = n by have := HN.out; omega]; exact HO.out, by rw [HE.out]; exact H5.out⟩
                        case measure => simp [intOf]; omega
          · have HI := Lib.hid hin
            clear hin
            rcases hh with ⟨hI, hJ⟩ | hI
            all_goals
              go_wp2_with (first | (go_at_call 10; (with_reducible refine (in_true 1 0 1 (by omega) (by omega) _).mono ?_); rintro e w' ⟨rfl, rfl⟩) | (go_at_call 10; (with_reducible refine (in_false (atP s 1) 2 6 HI.out _).mono ?_); rintro e w' ⟨rfl, rfl⟩) | (go_at_call 9; (with_reducible refine (at1 HL.out).mono ?_); rintro e w' ⟨rfl, rfl⟩))
              go_ret
              exact ⟨rfl, HL.out.below⟩
      · have hh : (k : Int) < script.length ∧ ¬ (k : Int) < 200 ∨ ¬ (k : Int) < script.length := by omega
        have HP := Lib.hid hp
        clear hgo hp
        rcases hh with ⟨hI, hJ⟩ | hI
        all_goals
          go_wp2_with (go_at_call 10; (with_reducible refine (in_false p 0 1 HP.out _).mono ?_); rintro e w' ⟨rfl, rfl⟩)
          go_ret
          exact ⟨rfl, HL.out.below⟩
end Go.Proofs.Ytjldbgecfongfaa
