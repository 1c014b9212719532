/-
  The walk of latchgarthlaw2.McsTail: it answers true, whatever the number of hands and the script.
-/
import Derived.Test.YtbbnlaabppbaeaaMcsFact
namespace Go.Proofs.Ytbbnlaabppbaeaa.Mcs
open Go.RowKit

theorem inB_any (z lo hi : Int) (w : World) : Calls Try.prog 11 #[.int .i64 z, .int .i64 lo, .int .i64 hi] w fun e w' => e = .returned (.bool (decide (lo ≤ z ∧ z ≤ hi))) ∧ w = w' := by
  by_cases h0 : lo ≤ z
  · by_cases h1 : z ≤ hi
    · rw [decide_eq_true (show lo ≤ z ∧ z ≤ hi from ⟨h0, h1⟩)]
      go_enter Try.func11, Try.ntmps11
      go_wp2
      go_ret
      exact ⟨rfl, rfl⟩
    · rw [decide_eq_false (show ¬ (lo ≤ z ∧ z ≤ hi) from fun h => h1 h.2)]
      go_enter Try.func11, Try.ntmps11
      go_wp2
      go_ret
      exact ⟨rfl, rfl⟩
  · rw [decide_eq_false (show ¬ (lo ≤ z ∧ z ≤ hi) from fun h => h0 h.1)]
    go_enter Try.func11, Try.ntmps11
    go_wp2
    go_ret
    exact ⟨rfl, rfl⟩
theorem inB_yes (z lo hi : Int) (h0 : lo ≤ z) (h1 : z ≤ hi) (w : World) : Calls Try.prog 11 #[.int .i64 z, .int .i64 lo, .int .i64 hi] w fun e w' => e = .returned (.bool true) ∧ w = w' := by
  have := inB_any z lo hi w
  rwa [decide_eq_true (show lo ≤ z ∧ z ≤ hi from ⟨h0, h1⟩)] at this
theorem inB_no (z lo hi : Int) (h : ¬ (lo ≤ z ∧ z ≤ hi)) (w : World) : Calls Try.prog 11 #[.int .i64 z, .int .i64 lo, .int .i64 hi] w fun e w' => e = .returned (.bool false) ∧ w = w' := by
  have := inB_any z lo hi w
  rwa [decide_eq_false h] at this
/-- One of the first q hands stands at line 3 or behind it. -/
def someT (s : LSt) : Nat → Bool
  | 0 => false
  | q + 1 => someT s q || decide (3 ≤ s.a q)
theorem someT_iff (s : LSt) (q : Nat) : someT s q = true ↔ ∃ r, r < q ∧ 3 ≤ s.a r := by
  induction q with
  | zero => simp [someT]
  | succ q ih =>
    rw [someT, Bool.or_eq_true, ih, decide_eq_true_eq]
    constructor
    · rintro (⟨r, h1, h2⟩ | h)
      · exact ⟨r, by omega, h2⟩
      · exact ⟨q, by omega, h⟩
    · rintro ⟨r, h1, h2⟩
      by_cases e : r = q
      · subst e; exact Or.inr h2
      · exact Or.inl ⟨r, by omega, h2⟩
theorem some_in {s : LSt} {q : Nat} (h : someT s q = true) : someT s (q + 1) = true := by rw [someT, h]; rfl
theorem some_now {s : LSt} {q : Nat} (h : 3 ≤ s.a q) : someT s (q + 1) = true := by rw [someT, decide_eq_true h, Bool.or_true]
theorem some_out {s : LSt} {q : Nat} (h : someT s q = false) (h2 : ¬ 3 ≤ s.a q) : someT s (q + 1) = false := by rw [someT, h, decide_eq_false h2]; rfl
theorem tail_of {n : Nat} {s : LSt} (h : lkOk n s) : s.T ≤ n ∧ (s.T = 0 → someT s n = false) ∧ (0 < s.T → s.T - 1 < n ∧ 3 ≤ s.a (s.T - 1) ∧ s.a (s.T - 1) ≤ 10 ∧ someT s n = true) := by
  obtain ⟨⟨q, h, e, k⟩, _⟩ := h
  obtain ⟨h1, h2, h3⟩ := k.tail
  refine ⟨h1, fun h0 => ?_, fun h0 => ⟨(h2 h0).1, (h2 h0).2.1, (h2 h0).2.2, (someT_iff _ _).2 ⟨_, (h2 h0).1, (h2 h0).2.1⟩⟩⟩
  rw [← Bool.not_eq_true, someT_iff]
  rintro ⟨r, g1, g2⟩
  have := h3 h0 r g1
  omega

set_option maxRecDepth 100000 in
set_option maxHeartbeats 4000000 in
theorem tail_law (z : Int) (sv : Value) (script : List Int) (w : World) (hn : Nums w w.heap.size sv script) :
    Calls Try.prog 6 #[.int .i64 z, sv] w fun e w' => e = .returned (.bool true) ∧ Below w.heap.size w w' := by
  obtain ⟨A, c, rfl, hlen, hn⟩ := hn
  have HN := Lib.hid hn
  clear hn
  by_cases hz : 1 ≤ z ∧ z ≤ 4
  · obtain ⟨n, rfl⟩ := Int.eq_ofNat_of_zero_le (show 0 ≤ z by omega)
    have h1 : 1 ≤ n := by omega
    have h4 : n ≤ 4 := by omega
    clear hz
    have hw2 : IntKind.i64.wrap (2 * (n : Int)) = 2 * (n : Int) := IntWalk.i64_in _ (by omega)
    have hw3 : IntKind.i64.wrap (1 + 2 * (n : Int)) = ((1 + 2 * n : Nat) : Int) := (IntWalk.i64_in _ (by omega)).trans (by omega)
    have hne : (((1 + 2 * n : Nat) : Int) != ((1 + 2 * n : Nat) : Int)) = false := by simp
    obtain ⟨N, hN⟩ : ∃ N, N = 1 + 2 * n := ⟨_, rfl⟩
    rw [← hN] at hw3 hne
    have HNN := Lib.hid hN
    have hN1 : 0 < N := by omega
    clear hN
    go_enter Try.func6, Try.ntmps6
    go_wp2_with (first | (go_at_call 7; refine (fact_any _).mono ?_; rintro e w1 ⟨rfl, hb⟩; have HB := Lib.hid hb; clear hb) | (go_at_call 8; refine (newL HB.out h1 h4).mono ?_; rintro e w2 ⟨g, rfl, hl⟩; have HL := Lib.hid hl; clear hl))
    go_loopw [8] (fun i wr => ∃ (k : Nat) (s : LSt), k ≤ script.length ∧ i = .int .i64 k ∧ k ≤ 400 ∧ LkAt w wr g n s k) (fun i _ => script.length - (intOf i).toNat)
    case atStart => exact ⟨0, _, by omega, rfl, by omega, HL.out⟩
    case round =>
      clear HL
      obtain ⟨k, s, hk, rfl, hk4, hl⟩ := hrel
      have HL := Lib.hid hl
      by_cases hlt : k < script.length
      · have hI : (k : Int) < script.length := by omega
        by_cases h400 : k < 400
        · have h4I : (k : Int) < 400 := by omega
          obtain ⟨b, o, rfl, hbb, hcc⟩ := HN.out (by omega)
          obtain ⟨x, hx⟩ : ∃ x, script[k]? = some x := ⟨script[k], List.getElem?_eq_getElem hlt⟩
          have hxc := (hl.below.cell (p := ⟨b, o + k, none⟩) hbb).trans (hcc k x hx)
          have hok3 := lkStep_ok hl.ok x
          obtain ⟨s3, hs3⟩ : ∃ s3, s3 = lkStep n s x := ⟨_, rfl⟩
          have HS := Lib.hid hs3
          rw [← hs3] at hok3
          have htl := tail_of hok3
          have HIN := Lib.hid (inB_yes (s3.T : Int) 0 n (by omega) (by omega))
          have HOK := Lib.hid hok3
          have HTL := Lib.hid htl
          clear hcc hx hl hs3 hok3 htl
          go_wp2_with (first | (go_at_call 9; (with_reducible refine (stepL HL.out (by omega) x).mono ?_); rw [← HS.out]; rintro e w3 ⟨rfl, hl⟩; have H3 := Lib.hid hl; clear hl) | (go_at_call 12; (with_reducible refine (wordsL H3.out).mono ?_); rintro e w4 ⟨v, rfl, hnw, hl4, -⟩; obtain ⟨A4, c4, rfl, -, hnw⟩ := hnw; rw [show (lkWords n s3).length = N from (lkWords_len _ _).trans HNN.out.symm] at hnw; rw [show (lkWords n s3).length = N from (lkWords_len _ _).trans HNN.out.symm]; have H4 := Lib.hid hl4; obtain ⟨b4, o4, rfl, -, hw4⟩ := hnw hN1; have c0 : w4.cell? ⟨b4, o4, none⟩ = some (.int .i64 s3.T) := hw4 0 _ rfl; clear hl4 hnw hw4) | (go_at_call 11; (with_reducible refine (HIN.out _).mono ?_); rintro e w5 ⟨rfl, rfl⟩))
          have C0 := Lib.hid c0
          clear c0 H3 hxc
          go_loopw [10, 11] (fun m q wr => ∃ j : Nat, j ≤ n ∧ q = .int .i64 j ∧ m = .bool (someT s3 j) ∧ wr = w4) (fun _ q _ => n - (intOf q).toNat)
          case atStart => exact ⟨0, by omega, rfl, rfl, rfl⟩
          case round =>
            obtain ⟨j, hj, rfl, rfl, rfl⟩ := hrel
            by_cases hj2 : j < n
            · have hjI : (j : Int) < n := by omega
              have HA := Lib.hid (atL H4.out j)
              rw [lkAt_in hj2] at HA
              have hrg := HOK.out.line hj2
              by_cases hso : someT s3 j = true
              · rw [hso]
                have HSO := Lib.hid (some_in hso)
                clear hso hrg
                go_wp2
                go_roundw
                case rel => exact ⟨j + 1, by omega, by go_num, by rw [HSO.out], trivial⟩
                case measure => simp [intOf]; omega
              · rw [Bool.not_eq_true] at hso
                rw [hso]
                by_cases h5 : 3 ≤ s3.a j
                · have HSO := Lib.hid (some_now h5)
                  have HI2 := Lib.hid (inB_yes (s3.a j : Int) 3 10 (by omega) (by omega))
                  clear hso hrg h5
                  go_wp2_with (first | (go_at_call 10; (with_reducible refine HA.out.mono ?_); rintro e w4 ⟨rfl, rfl⟩) | (go_at_call 11; (with_reducible refine (HI2.out _).mono ?_); rintro e w5 ⟨rfl, rfl⟩))
                  go_roundw
                  case rel => exact ⟨j + 1, by omega, by go_num, by rw [HSO.out], trivial⟩
                  case measure => simp [intOf]; omega
                · have HSO := Lib.hid (some_out hso h5)
                  have HI2 := Lib.hid (inB_no (s3.a j : Int) 3 10 (by omega))
                  clear hso hrg h5
                  go_wp2_with (first | (go_at_call 10; (with_reducible refine HA.out.mono ?_); rintro e w4 ⟨rfl, rfl⟩) | (go_at_call 11; (with_reducible refine (HI2.out _).mono ?_); rintro e w5 ⟨rfl, rfl⟩))
                  go_roundw
                  case rel => exact ⟨j + 1, by omega, by go_num, by rw [HSO.out], trivial⟩
                  case measure => simp [intOf]; omega
            · obtain rfl : j = n := by omega
              have c0 := C0.out
              by_cases hT : s3.T = 0
              · have hso := HTL.out.2.1 hT
                rw [hT] at c0
                rw [hso]
                clear hT hso
                go_wp2
                go_roundw
                case rel => exact ⟨k + 1, s3, by omega, by go_num, by omega, H4.out⟩
                case measure => simp [intOf]; omega
              · obtain ⟨t1, t2, t3, t4⟩ := HTL.out.2.2 (by omega)
                obtain ⟨r, hr⟩ : ∃ r, s3.T = r + 1 := ⟨s3.T - 1, by omega⟩
                rw [show s3.T - 1 = r by omega] at t1 t2 t3
                have hwr : IntKind.i64.wrap ((s3.T : Int) - 1) = (r : Int) := (IntWalk.i64_in _ (by omega)).trans (by omega)
                have hg0 : (0 : Int) < (s3.T : Int) := by omega
                have hz0 : ((s3.T : Int) == 0) = false := by simp; omega
                have HA := Lib.hid (atL H4.out r)
                rw [lkAt_in t1] at HA
                have HI2 := Lib.hid (inB_yes (s3.a r : Int) 3 10 (by omega) (by omega))
                rw [t4]
                clear hT t1 t2 t3 t4 hr
                go_wp2_with (first | (go_at_call 10; (with_reducible refine HA.out.mono ?_); rintro e w4 ⟨rfl, rfl⟩) | (go_at_call 11; (with_reducible refine (HI2.out _).mono ?_); rintro e w5 ⟨rfl, rfl⟩))
                go_roundw
                case rel => exact ⟨k + 1, s3, by omega, by go_num, by omega, H4.out⟩
                case measure => simp [intOf]; omega
        · have h4I : ¬ (k : Int) < 400 := by omega
          go_wp2
          go_ret
          exact ⟨rfl, HL.out.below⟩
      · have hI : ¬ (k : Int) < script.length := by omega
        go_wp2
        go_ret
        exact ⟨rfl, HL.out.below⟩
  · have HZ := Lib.hid hz
    by_cases hz1 : z < 1
    all_goals
      clear hz
      go_enter Try.func6, Try.ntmps6
      go_wp2_with (first | (go_at_call 7; refine (fact_any _).mono ?_; rintro e w1 ⟨rfl, hb⟩; have HB := Lib.hid hb; clear hb) | (go_at_call 8; refine (newBad HB.out z HZ.out).mono ?_; rw [errV_one]; rintro e w2 ⟨rfl, hb⟩; have HB2 := Lib.hid hb; clear hb))
      go_ret
      first | exact ⟨rfl, HB2.out⟩ | exact ⟨congrArg (fun b => Ending.returned (.bool b)) (bad_true HZ.out), HB2.out⟩
end Go.Proofs.Ytbbnlaabppbaeaa.Mcs
