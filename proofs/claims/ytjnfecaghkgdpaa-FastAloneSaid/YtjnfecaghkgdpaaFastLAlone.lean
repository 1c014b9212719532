/-
  The walk of latchgarthlaw2.FastAlone: it answers true, whatever the number of hands, the script and the hand.
-/
import Derived.Test.YtjnfecaghkgdpaaFastFact
namespace Go.Proofs.Ytjnfecaghkgdpaa.Fast
open Go.RowKit

theorem inB_any (z lo hi : Int) (w : World) : Calls Try.prog 10 #[.int .i64 z, .int .i64 lo, .int .i64 hi] w fun e w' => e = .returned (.bool (decide (lo ≤ z ∧ z ≤ hi))) ∧ w = w' := by
  by_cases h0 : lo ≤ z
  · by_cases h1 : z ≤ hi
    · rw [decide_eq_true (show lo ≤ z ∧ z ≤ hi from ⟨h0, h1⟩)]
      go_enter Try.func10, Try.ntmps10
      go_wp2
      go_ret
      exact ⟨rfl, rfl⟩
    · rw [decide_eq_false (show ¬ (lo ≤ z ∧ z ≤ hi) from fun h => h1 h.2)]
      go_enter Try.func10, Try.ntmps10
      go_wp2
      go_ret
      exact ⟨rfl, rfl⟩
  · rw [decide_eq_false (show ¬ (lo ≤ z ∧ z ≤ hi) from fun h => h0 h.1)]
    go_enter Try.func10, Try.ntmps10
    go_wp2
    go_ret
    exact ⟨rfl, rfl⟩
theorem inB_yes (z lo hi : Int) (h0 : lo ≤ z) (h1 : z ≤ hi) (w : World) : Calls Try.prog 10 #[.int .i64 z, .int .i64 lo, .int .i64 hi] w fun e w' => e = .returned (.bool true) ∧ w = w' := by
  have := inB_any z lo hi w
  rwa [decide_eq_true (show lo ≤ z ∧ z ≤ hi from ⟨h0, h1⟩)] at this
theorem inB_no (z lo hi : Int) (h : ¬ (lo ≤ z ∧ z ≤ hi)) (w : World) : Calls Try.prog 10 #[.int .i64 z, .int .i64 lo, .int .i64 hi] w fun e w' => e = .returned (.bool false) ∧ w = w' := by
  have := inB_any z lo hi w
  rwa [decide_eq_false h] at this
/-- A hand does so many lines. -/
def pit (n : Nat) (s : LSt) (p : Int) : Nat → LSt
  | 0 => s
  | k + 1 => lkStep n (pit n s p k) p
theorem pit_in {n : Nat} {s : LSt} (h : lkOk n s) (ha : ∀ q, q < n → (s.s q).a = 1) {p : Nat} (hp : p < n) : lkAt n (pit n s p 5) p = 12 := by
  rw [lkAt_in hp]
  have := VOk.soon h ha hp
  simpa only [pit, lkStep_in hp] using this

set_option maxHeartbeats 4000000 in
theorem alone_law (z : Int) (sv : Value) (script : List Int) (p : Int) (w : World) (hn : Nums w w.heap.size sv script) :
    Calls Try.prog 5 #[.int .i64 z, sv, .int .i64 p] w fun e w' => e = .returned (.bool true) ∧ Below w.heap.size w w' := by
  obtain ⟨A, c, rfl, hlen, hn⟩ := hn
  have HN := Lib.hid hn
  clear hn
  by_cases hz : 1 ≤ z ∧ z ≤ 4
  · obtain ⟨n, rfl⟩ := Int.eq_ofNat_of_zero_le (show 0 ≤ z by omega)
    have h1 : 1 ≤ n := by omega
    have h4 : n ≤ 4 := by omega
    clear hz
    have hwn : IntKind.i64.wrap ((n : Int) - 1) = (n : Int) - 1 := IntWalk.i64_in _ (by omega)
    go_enter Try.func5, Try.ntmps5
    go_wp2_with (first | (go_at_call 6; refine (fact_any _).mono ?_; rintro e w1 ⟨rfl, hb⟩; have HB := Lib.hid hb; clear hb) | (go_at_call 7; refine (newL HB.out h1 h4).mono ?_; rintro e w2 ⟨g, rfl, hl⟩; have HL := Lib.hid hl; clear hl))
    go_loopw [10] (fun i wr => ∃ (k : Nat) (s : LSt), k ≤ script.length ∧ i = .int .i64 k ∧ k ≤ 200 ∧ LkAt w wr g n s k) (fun i _ => script.length - (intOf i).toNat)
    case atStart => exact ⟨0, _, by omega, rfl, by omega, HL.out⟩
    case round =>
      clear HL
      obtain ⟨k, s, hk, rfl, hk4, hl⟩ := hrel
      have HL := Lib.hid hl
      by_cases hgo : k < script.length ∧ k < 200
      · have hI : (k : Int) < script.length := by omega
        have h4I : (k : Int) < 200 := by omega
        obtain ⟨hlt, _⟩ := hgo
        obtain ⟨b, o, rfl, hbb, hcc⟩ := HN.out (by omega)
        obtain ⟨x, hx⟩ : ∃ x, script[k]? = some x := ⟨script[k], List.getElem?_eq_getElem hlt⟩
        have hxc := (hl.below.cell (p := ⟨b, o + k, none⟩) hbb).trans (hcc k x hx)
        have HX := Lib.hid hx
        clear hcc hx hl
        go_wp2_with (go_at_call 8; (with_reducible refine (stepL HL.out (by omega) x).mono ?_); rintro e w3 ⟨rfl, hl⟩; have H3 := Lib.hid hl; clear hl)
        go_roundw
        case rel => exact ⟨k + 1, _, by omega, by go_num, by omega, H3.out⟩
        case measure => simp [intOf]; omega
      · clear hl
        have hh : (k : Int) < script.length ∧ ¬ (k : Int) < 200 ∨ ¬ (k : Int) < script.length := by omega
        clear hgo
        rcases hh with ⟨hI, hJ⟩ | hI
        all_goals
          by_cases hp : 0 ≤ p ∧ p ≤ (n : Int) - 1
          · have HIN := Lib.hid (inB_yes p 0 ((n : Int) - 1) hp.1 hp.2)
            obtain ⟨q, rfl⟩ := Int.eq_ofNat_of_zero_le hp.1
            have hq : q < n := by omega
            clear hp
            go_wp2_with (go_at_call 10; (with_reducible refine (HIN.out _).mono ?_); rintro e w5 ⟨rfl, rfl⟩)
            go_loopw [11] (fun i wq => ∃ j : Nat, j ≤ n ∧ i = .int .i64 j ∧ wq = wr ∧ ∀ i, i < j → (s.s i).a = 1) (fun i _ => n - (intOf i).toNat)
            case atStart => exact ⟨0, by omega, rfl, rfl, fun i hi => by omega⟩
            case round =>
              obtain ⟨j, hj, rfl, rfl, hall⟩ := hrel
              have HALL := Lib.hid hall
              clear hall
              by_cases hjn : j < n
              · have hjI : (j : Int) < n := by omega
                have HA := Lib.hid (atL HL.out j)
                rw [lkAt_in hjn] at HA
                by_cases h5 : (s.s j).a = 1
                · have e5 : (((s.s j).a : Int) != 1) = false := by simp; omega
                  have H5 := Lib.hid h5
                  clear h5
                  go_wp2_with (go_at_call 9; (with_reducible refine HA.out.mono ?_); rintro e w4 ⟨rfl, rfl⟩)
                  go_roundw
                  case rel => exact ⟨j + 1, by omega, by go_num, trivial, fun i hi => by
                    by_cases e : i = j
                    · rw [e]; exact H5.out
                    · exact HALL.out i (by omega)⟩
                  case measure => simp [intOf]; omega
                · have e5 : (((s.s j).a : Int) != 1) = true := by simp; omega
                  clear h5
                  go_wp2_with (go_at_call 9; (with_reducible refine HA.out.mono ?_); rintro e w4 ⟨rfl, rfl⟩)
                  go_ret
                  exact ⟨rfl, HL.out.below⟩
              · obtain rfl : j = n := by omega
                have hjI : ¬ (j : Int) < j := by omega
                have hqI : (q : Int) < j := by omega
                have HF := Lib.hid (pit_in HL.out.ok HALL.out hq)
                clear HALL
                go_wp2
                go_loopw [12] (fun i wq => ∃ t : Nat, t ≤ 5 ∧ i = .int .i64 t ∧ LkAt w wq g j (pit j s q t) (k + t)) (fun i _ => 5 - (intOf i).toNat)
                case atStart => exact ⟨0, by omega, rfl, HL.out⟩
                case round =>
                  obtain ⟨t, ht, rfl, hl⟩ := hrel
                  have HT := Lib.hid hl
                  clear hl
                  by_cases ht5 : t < 5
                  · have htI : (t : Int) < 5 := by omega
                    have HAG := Lib.hid (show k + t ≤ 100000 by omega)
                    go_wp2_with (go_at_call 8; (with_reducible refine (stepG HT.out HAG.out q (by omega) hqI).mono ?_); rintro e w3 ⟨rfl, hl, -⟩; have H3 := Lib.hid hl; clear hl)
                    go_roundw
                    case rel => exact ⟨t + 1, by omega, by go_num, H3.out⟩
                    case measure => simp [intOf]; omega
                  · obtain rfl : t = 5 := by omega
                    go_wp2_with (go_at_call 9; (with_reducible refine (atL HT.out q).mono ?_); rw [HF.out]; rintro e w4 ⟨rfl, rfl⟩)
                    go_ret
                    exact ⟨rfl, HT.out.below⟩
          · have HIN := Lib.hid (inB_no p 0 ((n : Int) - 1) hp)
            clear hp
            go_wp2_with (go_at_call 10; (with_reducible refine (HIN.out _).mono ?_); rintro e w5 ⟨rfl, rfl⟩)
            go_ret
            exact ⟨rfl, HL.out.below⟩
  · have HZ := Lib.hid hz
    by_cases hz1 : z < 1
    all_goals
      clear hz
      go_enter Try.func5, Try.ntmps5
      go_wp2_with (first | (go_at_call 6; refine (fact_any _).mono ?_; rintro e w1 ⟨rfl, hb⟩; have HB := Lib.hid hb; clear hb) | (go_at_call 7; refine (newBad HB.out z HZ.out).mono ?_; rw [errV_one]; rintro e w2 ⟨rfl, hb⟩; have HB2 := Lib.hid hb; clear hb))
      go_ret
      first | exact ⟨rfl, HB2.out⟩ | exact ⟨congrArg (fun b => Ending.returned (.bool b)) (bad_true HZ.out), HB2.out⟩
end Go.Proofs.Ytjnfecaghkgdpaa.Fast
