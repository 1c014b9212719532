/-
  The walk of latchgarthlaw2.ClhPlaces: it answers true, whatever the number of hands and the script.
-/
import Derived.Test.YtobfaohcadmopaaClhFact
namespace Go.Proofs.Ytobfaohcadmopaa.Clh
open Go.RowKit

theorem inB_any (z lo hi : Int) (w : World) : Calls Try.prog 12 #[.int .i64 z, .int .i64 lo, .int .i64 hi] w fun e w' => e = .returned (.bool (decide (lo ≤ z ∧ z ≤ hi))) ∧ w = w' := by
  by_cases h0 : lo ≤ z
  · by_cases h1 : z ≤ hi
    · rw [decide_eq_true (show lo ≤ z ∧ z ≤ hi from ⟨h0, h1⟩)]
      go_enter Try.func12, Try.ntmps12
      go_wp2
      go_ret
      exact ⟨rfl, rfl⟩
    · rw [decide_eq_false (show ¬ (lo ≤ z ∧ z ≤ hi) from fun h => h1 h.2)]
      go_enter Try.func12, Try.ntmps12
      go_wp2
      go_ret
      exact ⟨rfl, rfl⟩
  · rw [decide_eq_false (show ¬ (lo ≤ z ∧ z ≤ hi) from fun h => h0 h.1)]
    go_enter Try.func12, Try.ntmps12
    go_wp2
    go_ret
    exact ⟨rfl, rfl⟩
theorem inB_yes (z lo hi : Int) (h0 : lo ≤ z) (h1 : z ≤ hi) (w : World) : Calls Try.prog 12 #[.int .i64 z, .int .i64 lo, .int .i64 hi] w fun e w' => e = .returned (.bool true) ∧ w = w' := by
  have := inB_any z lo hi w
  rwa [decide_eq_true (show lo ≤ z ∧ z ≤ hi from ⟨h0, h1⟩)] at this
theorem inB_no (z lo hi : Int) (h : ¬ (lo ≤ z ∧ z ≤ hi)) (w : World) : Calls Try.prog 12 #[.int .i64 z, .int .i64 lo, .int .i64 hi] w fun e w' => e = .returned (.bool false) ∧ w = w' := by
  have := inB_any z lo hi w
  rwa [decide_eq_false h] at this
/-- The sum of the first words but the tail. -/
def bsum (s : LSt) (k : Nat) : Nat := csum s.B (k - 1)
theorem bsum_one (s : LSt) : bsum s 1 = 0 := rfl
theorem bsum_more (s : LSt) {k : Nat} (h : 1 ≤ k) : bsum s (k + 1) = bsum s k + s.B (k - 1) := by
  obtain ⟨j, rfl⟩ : ∃ j, k = j + 1 := ⟨k - 1, by omega⟩
  rfl
theorem csum_up_le (B : Nat → Nat) {j k : Nat} (h : j ≤ k) : csum B j ≤ csum B k := by
  induction k with
  | zero => rw [show j = 0 by omega]; exact Nat.le_refl _
  | succ k ih =>
    by_cases e : j = k + 1
    · rw [e]; exact Nat.le_refl _
    · exact Nat.le_trans (ih (by omega)) (Nat.le_add_right _ _)
/-- How many of the first hands stand behind line 1. -/
def thereT (s : LSt) (q : Nat) : Nat := csum (cbusy s) q
theorem there_le (s : LSt) (q : Nat) : thereT s q ≤ q := by
  unfold thereT
  induction q with
  | zero => exact Nat.le_refl _
  | succ q ih =>
    have : cbusy s q ≤ 1 := by unfold cbusy bz; split <;> omega
    unfold csum; omega
theorem there_in {s : LSt} {q : Nat} (h : s.a q ≠ 1) : thereT s (q + 1) = thereT s q + 1 := by
  show csum (cbusy s) q + bz (s.a q) = csum (cbusy s) q + 1
  rw [bz_more h]
theorem there_out {s : LSt} {q : Nat} (h : s.a q = 1) : thereT s (q + 1) = thereT s q := by
  show csum (cbusy s) q + bz (s.a q) = csum (cbusy s) q
  rw [h, bz_one]; rfl
theorem places_of {n : Nat} {s : LSt} (h : lkOk n s) : s.T ≤ n ∧ bsum s (n + 2) = thereT s n := by
  obtain ⟨q, h, e, f, k⟩ := h
  exact ⟨k.tail, k.cnt⟩
theorem word_of {n : Nat} (s : LSt) {k : Nat} (h1 : 1 ≤ k) (h2 : k < n + 2) : (lkWords n s)[k]? = some ((s.B (k - 1) : Nat) : Int) := by
  obtain ⟨j, rfl⟩ : ∃ j, k = 1 + j := ⟨k - 1, by omega⟩
  rw [lkWords_mark s (show j < n + 1 by omega), show 1 + j - 1 = j by omega]

set_option maxRecDepth 100000 in
set_option maxHeartbeats 4000000 in
theorem places_law (z : Int) (sv : Value) (script : List Int) (w : World) (hn : Nums w w.heap.size sv script) :
    Calls Try.prog 6 #[.int .i64 z, sv] w fun e w' => e = .returned (.bool true) ∧ Below w.heap.size w w' := by
  obtain ⟨A, c, rfl, hlen, hn⟩ := hn
  have HN := Lib.hid hn
  clear hn
  by_cases hz : 1 ≤ z ∧ z ≤ 4
  · obtain ⟨n, rfl⟩ := Int.eq_ofNat_of_zero_le (show 0 ≤ z by omega)
    have h1 : 1 ≤ n := by omega
    have h4 : n ≤ 4 := by omega
    clear hz
    have hw3 : IntKind.i64.wrap ((n : Int) + 2) = ((n + 2 : Nat) : Int) := (IntWalk.i64_in _ (by omega)).trans (by omega)
    have hne : (((n + 2 : Nat) : Int) != ((n + 2 : Nat) : Int)) = false := by simp
    obtain ⟨N, hN⟩ : ∃ N, N = n + 2 := ⟨_, rfl⟩
    rw [← hN] at hw3 hne
    have HNN := Lib.hid hN
    have hN1 : 0 < N := by omega
    have hN6 : N ≤ 6 := by omega
    clear hN
    go_enter Try.func6, Try.ntmps6
    go_wp2_with (first | (go_at_call 8; refine (fact_any _).mono ?_; rintro e w1 ⟨rfl, hb⟩; have HB := Lib.hid hb; clear hb) | (go_at_call 9; refine (newL HB.out h1 h4).mono ?_; rintro e w2 ⟨g, rfl, hl⟩; have HL := Lib.hid hl; clear hl))
    go_loopw [8] (fun i wr => ∃ (k : Nat) (s : LSt), k ≤ script.length ∧ i = .int .i64 k ∧ k ≤ 400 ∧ LkAt w wr g n s k) (fun i _ => script.length - (intOf i).toNat)
    case atStart => exact ⟨0, _, by omega, rfl, by omega, HL.out⟩
    case round =>
      clear HL
      obtain ⟨k, s, hk, rfl, hk4, hl⟩ := hrel
      have HL := Lib.hid hl
      by_cases hlt : k < script.length
      · have hI : (k : Int) < script.length := by omega
        by_cases h400 : k < 400
        · have h4I : (k : Int) < 400 := by omega
          obtain ⟨b, o, rfl, hbb, hcc⟩ := HN.out (by omega)
          obtain ⟨x, hx⟩ : ∃ x, script[k]? = some x := ⟨script[k], List.getElem?_eq_getElem hlt⟩
          have hxc := (hl.below.cell (p := ⟨b, o + k, none⟩) hbb).trans (hcc k x hx)
          have hok3 := lkStep_ok hl.ok x
          obtain ⟨s3, hs3⟩ : ∃ s3, s3 = lkStep n s x := ⟨_, rfl⟩
          have HS := Lib.hid hs3
          rw [← hs3] at hok3
          obtain ⟨hT, hPL⟩ := places_of hok3
          have HIN := Lib.hid (inB_yes (s3.T : Int) 0 n (by omega) (by omega))
          have HOK := Lib.hid hok3
          have HPL := Lib.hid hPL
          clear hcc hx hl hs3 hok3 hT hPL
          go_wp2_with (first | (go_at_call 10; (with_reducible refine (stepL HL.out (by omega) x).mono ?_); rw [← HS.out]; rintro e w3 ⟨rfl, hl⟩; have H3 := Lib.hid hl; clear hl) | (go_at_call 13; (with_reducible refine (wordsL H3.out).mono ?_); rintro e w4 ⟨v, rfl, hnw, hl4, -⟩; obtain ⟨A4, c4, rfl, -, hnw⟩ := hnw; rw [show (lkWords n s3).length = N from (lkWords_len _ _).trans HNN.out.symm] at hnw; rw [show (lkWords n s3).length = N from (lkWords_len _ _).trans HNN.out.symm]; have H4 := Lib.hid hl4; obtain ⟨b4, o4, rfl, -, hw4⟩ := hnw hN1; have c0 : w4.cell? ⟨b4, o4, none⟩ = some (.int .i64 s3.T) := hw4 0 _ rfl; have HW4 := Lib.hid hw4; clear hl4 hnw hw4) | (go_at_call 12; (with_reducible refine (HIN.out _).mono ?_); rintro e w5 ⟨rfl, rfl⟩))
          clear c0 H3 hxc
          go_loopw [10, 11] (fun m q wr => ∃ j : Nat, 1 ≤ j ∧ j ≤ N ∧ q = .int .i64 j ∧ m = .int .i64 (bsum s3 j : Nat) ∧ wr = w4) (fun _ q _ => N - (intOf q).toNat)
          case atStart => exact ⟨1, by omega, by omega, rfl, rfl, rfl⟩
          case round =>
            obtain ⟨j, hj1, hj, rfl, rfl, rfl⟩ := hrel
            by_cases hj2 : j < N
            · have hjI : (j : Int) < N := by omega
              have hcj := HW4.out j _ (word_of s3 hj1 (show j < n + 2 by have := HNN.out; omega))
              have hmore := bsum_more s3 hj1
              have hle : bsum s3 (j + 1) ≤ bsum s3 (n + 2) := csum_up_le _ (by have := HNN.out; omega)
              have hle2 := there_le s3 n
              rw [← HPL.out] at hle2
              have hws : IntKind.i64.wrap (((bsum s3 j : Nat) : Int) + ((s3.B (j - 1) : Nat) : Int)) = ((bsum s3 (j + 1) : Nat) : Int) := (IntWalk.i64_in _ (by omega)).trans (by omega)
              clear hmore hle hle2
              go_wp2
              go_roundw
              case rel => exact ⟨j + 1, by omega, by omega, by go_num, rfl, trivial⟩
              case measure => simp [intOf]; omega
            · obtain rfl : j = N := by omega
              have hjI : ¬ (j : Int) < j := by omega
              have hbs : bsum s3 j = thereT s3 n := by rw [HNN.out]; exact HPL.out
              rw [hbs]
              clear hbs
              go_wp2
              go_loopw [12, 13] (fun m q wq => ∃ i : Nat, i ≤ n ∧ q = .int .i64 i ∧ m = .int .i64 (thereT s3 i : Nat) ∧ wq = wr) (fun _ q _ => n - (intOf q).toNat)
              case atStart => exact ⟨0, by omega, rfl, rfl, rfl⟩
              case round =>
                obtain ⟨i, hi, rfl, rfl, rfl⟩ := hrel
                by_cases hi2 : i < n
                · have hiI : (i : Int) < n := by omega
                  have hp := there_le s3 i
                  have HA := Lib.hid (atL H4.out i)
                  rw [lkAt_in hi2] at HA
                  have hrg := HOK.out.line hi2
                  by_cases h5 : s3.a i = 1
                  · have H5 := Lib.hid (there_out h5)
                    have HI2 := Lib.hid (inB_no (s3.a i : Int) 2 5 (by omega))
                    clear h5 hrg hp
                    go_wp2_with (first | (go_at_call 11; (with_reducible refine HA.out.mono ?_); rintro e w4 ⟨rfl, rfl⟩) | (go_at_call 12; (with_reducible refine (HI2.out _).mono ?_); rintro e w5 ⟨rfl, rfl⟩))
                    go_roundw
                    case rel => exact ⟨i + 1, by omega, by go_num, by rw [H5.out], trivial⟩
                    case measure => simp [intOf]; omega
                  · have H5 := Lib.hid (there_in h5)
                    have HI2 := Lib.hid (inB_yes (s3.a i : Int) 2 5 (by omega) (by omega))
                    have hw1 : IntKind.i64.wrap (((thereT s3 i : Nat) : Int) + 1) = ((thereT s3 i : Nat) : Int) + 1 := IntWalk.i64_in _ (by omega)
                    clear h5 hrg hp
                    go_wp2_with (first | (go_at_call 11; (with_reducible refine HA.out.mono ?_); rintro e w4 ⟨rfl, rfl⟩) | (go_at_call 12; (with_reducible refine (HI2.out _).mono ?_); rintro e w5 ⟨rfl, rfl⟩))
                    go_roundw
                    case rel => exact ⟨i + 1, by omega, by go_num, by rw [H5.out]; go_num, trivial⟩
                    case measure => simp [intOf]; omega
                · obtain rfl : i = n := by omega
                  have hiI : ¬ (i : Int) < i := by omega
                  have hne2 : (((thereT s3 i : Nat) : Int) != ((thereT s3 i : Nat) : Int)) = false := by simp
                  go_wp2
                  go_roundw
                  case rel => exact ⟨k + 1, s3, by omega, by go_num, by omega, H4.out⟩
                  case measure => simp [intOf]; omega
        · have h4I : ¬ (k : Int) < 400 := by omega
          go_wp2
          go_ret
          exact ⟨rfl, HL.out.below⟩
      · have hI : ¬ (k : Int) < script.length := by omega
        go_wp2
        go_ret
        exact ⟨rfl, HL.out.below⟩
  · have HZ := Lib.hid hz
    by_cases hz1 : z < 1
    all_goals
      clear hz
      go_enter Try.func6, Try.ntmps6
      go_wp2_with (first | (go_at_call 8; refine (fact_any _).mono ?_; rintro e w1 ⟨rfl, hb⟩; have HB := Lib.hid hb; clear hb) | (go_at_call 9; refine (newBad HB.out z HZ.out).mono ?_; rw [errV_one]; rintro e w2 ⟨rfl, hb⟩; have HB2 := Lib.hid hb; clear hb))
      go_ret
      first | exact ⟨rfl, HB2.out⟩ | exact ⟨congrArg (fun b => Ending.returned (.bool b)) (bad_true HZ.out), HB2.out⟩
end Go.Proofs.Ytobfaohcadmopaa.Clh
