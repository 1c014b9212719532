/-
  The walk of latchgarthlaw2.PairAlone: it answers true, whatever the script and the hand.
-/
import Derived.Test.YtjneehfcoljlkaaPairFact
namespace Go.Proofs.Ytjneehfcoljlkaa
open Go.RowKit

theorem in_true (n lo hi : Int) (h0 : lo ≤ n) (h1 : n ≤ hi) (w : World) : Calls Try.prog 11 #[.int .i64 n, .int .i64 lo, .int .i64 hi] w fun e w' => e = .returned (.bool true) ∧ w = w' := by
  go_enter Try.func11, Try.ntmps11
  go_wp2
  go_ret
  exact ⟨rfl, rfl⟩
theorem in_false (n lo hi : Int) (h : ¬ (lo ≤ n ∧ n ≤ hi)) (w : World) : Calls Try.prog 11 #[.int .i64 n, .int .i64 lo, .int .i64 hi] w fun e w' => e = .returned (.bool false) ∧ w = w' := by
  by_cases h0 : lo ≤ n
  · have h1 : ¬ n ≤ hi := fun k => h ⟨h0, k⟩
    clear h
    go_enter Try.func11, Try.ntmps11
    go_wp2
    go_ret
    exact ⟨rfl, rfl⟩
  · clear h
    go_enter Try.func11, Try.ntmps11
    go_wp2
    go_ret
    exact ⟨rfl, rfl⟩

theorem own_in {s : List Int} (hs : s ∈ pall) (h0 : atP s 0 = 1) (h1 : atP s 1 = 1) (p : Int) (hp0 : 0 ≤ p) (hp1 : p ≤ 1) : atP (pown s p 3) p.toNat = 5 := by
  obtain ⟨e0, e1⟩ := pall_alone s hs h0 h1
  obtain rfl | rfl : p = 0 ∨ p = 1 := by omega
  · exact e0
  · exact e1

set_option maxHeartbeats 4000000 in
theorem alone_law (sv : Value) (script : List Int) (p : Int) (w : World) (hn : Nums w w.heap.size sv script) :
    Calls Try.prog 6 #[sv, .int .i64 p] w fun e w' => e = .returned (.bool true) ∧ Below w.heap.size w w' := by
  obtain ⟨A, c, rfl, hlen, hn⟩ := hn
  have HN := Lib.hid hn
  clear hn
  go_enter Try.func6, Try.ntmps6
  go_wp2_with (first | (go_at_call 7; refine (pairFact_any _).mono ?_; rintro e w1 ⟨rfl, hb⟩; have HB := Lib.hid hb; clear hb) | (go_at_call 8; refine (newL HB.out).mono ?_; rintro e w2 ⟨g, rfl, hl⟩; have HL := Lib.hid hl; clear hl))
  go_loopw [7] (fun i wr => ∃ (k : Nat) (s : List Int), k ≤ script.length ∧ i = .int .i64 k ∧ LkAt w wr g s) (fun i _ => script.length - (intOf i).toNat)
  case atStart => exact ⟨0, pnew, by omega, rfl, HL.out⟩
  case round =>
    clear HL
    obtain ⟨k, s, hk, rfl, hl⟩ := hrel
    have HL := Lib.hid hl
    by_cases hgo : k < script.length ∧ k < 200
    · have hI : (k : Int) < script.length := by omega
      have h4 : (k : Int) < 200 := by omega
      obtain ⟨hlt, _⟩ := hgo
      obtain ⟨b, o, rfl, hbb, hcc⟩ := HN.out (by omega)
      obtain ⟨x, hx⟩ : ∃ x, script[k]? = some x := ⟨script[k], List.getElem?_eq_getElem hlt⟩
      have hxc := (hl.below.cell (p := ⟨b, o + k, none⟩) hbb).trans (hcc k x hx)
      have HX := Lib.hid hx
      clear hcc hx hl
      go_wp2_with (go_at_call 9; (with_reducible refine (stepL HL.out x).mono ?_); rintro e w3 ⟨rfl, hl⟩; have H3 := Lib.hid hl; clear hl)
      go_roundw
      case rel => exact ⟨k + 1, _, by omega, by go_num, H3.out⟩
      case measure => simp [intOf]; omega
    · clear hl
      by_cases hp : 0 ≤ p ∧ p ≤ 1
      · obtain ⟨hp0, hp1⟩ := hp
        by_cases h0 : atP s 0 = 1
        · by_cases h1 : atP s 1 = 1
          · have HIN := Lib.hid (own_in HL.out.all h0 h1 p hp0 hp1)
            have hh : (k : Int) < script.length ∧ ¬ (k : Int) < 200 ∨ ¬ (k : Int) < script.length := by omega
            clear hgo
            rcases hh with ⟨hI, hJ⟩ | hI
            all_goals
              go_wp2_with (first | (go_at_call 11; (with_reducible refine (in_true p 0 1 hp0 hp1 _).mono ?_); rintro e w' ⟨rfl, rfl⟩) | (go_at_call 10; (with_reducible refine (at0 HL.out).mono ?_); rw [h0]; rintro e w' ⟨rfl, rfl⟩) | (go_at_call 10; (with_reducible refine (at1 HL.out).mono ?_); rw [h1]; rintro e w' ⟨rfl, rfl⟩))
              go_loopw [8] (fun i wr => ∃ j : Nat, j ≤ 3 ∧ i = .int .i64 j ∧ LkAt w wr g (pown s p j)) (fun i _ => 3 - (intOf i).toNat)
              case atStart => exact ⟨0, by omega, rfl, HL.out⟩
              case round =>
                obtain ⟨j, hj, rfl, hl⟩ := hrel
                have HJ := Lib.hid hl
                clear hl
                by_cases hj3 : j < 3
                · have hjI : (j : Int) < 3 := by omega
                  go_wp2_with (go_at_call 9; (with_reducible refine (stepG HJ.out p hp0 hp1).mono ?_); rintro e w3 ⟨rfl, hl⟩; have H3 := Lib.hid hl; clear hl)
                  go_roundw
                  case rel => exact ⟨j + 1, by omega, by go_num, H3.out⟩
                  case measure => simp [intOf]; omega
                · obtain rfl : j = 3 := by omega
                  have e5 : (atP (pown s p 3) p.toNat == 5) = true := beq_iff_eq.2 HIN.out
                  go_wp2_with (go_at_call 10; (with_reducible refine (atI HJ.out p hp0 hp1).mono ?_); rintro e w3 ⟨rfl, rfl⟩)
                  go_ret
                  exact ⟨rfl, HJ.out.below⟩
          · have e1 : (atP s 1 != 1) = true := bne_iff_ne.2 h1
            have hh : (k : Int) < script.length ∧ ¬ (k : Int) < 200 ∨ ¬ (k : Int) < script.length := by omega
            clear hgo h1
            rcases hh with ⟨hI, hJ⟩ | hI
            all_goals
              go_wp2_with (first | (go_at_call 11; (with_reducible refine (in_true p 0 1 hp0 hp1 _).mono ?_); rintro e w' ⟨rfl, rfl⟩) | (go_at_call 10; (with_reducible refine (at0 HL.out).mono ?_); rw [h0]; rintro e w' ⟨rfl, rfl⟩) | (go_at_call 10; (with_reducible refine (at1 HL.out).mono ?_); rintro e w' ⟨rfl, rfl⟩))
              go_ret
              exact ⟨rfl, HL.out.below⟩
        · have e0 : (atP s 0 != 1) = true := bne_iff_ne.2 h0
          have hh : (k : Int) < script.length ∧ ¬ (k : Int) < 200 ∨ ¬ (k : Int) < script.length := by omega
          clear hgo h0
          rcases hh with ⟨hI, hJ⟩ | hI
          all_goals
            go_wp2_with (first | (go_at_call 11; (with_reducible refine (in_true p 0 1 hp0 hp1 _).mono ?_); rintro e w' ⟨rfl, rfl⟩) | (go_at_call 10; (with_reducible refine (at0 HL.out).mono ?_); rintro e w' ⟨rfl, rfl⟩))
            go_ret
            exact ⟨rfl, HL.out.below⟩
      · have hh : (k : Int) < script.length ∧ ¬ (k : Int) < 200 ∨ ¬ (k : Int) < script.length := by omega
        have HP := Lib.hid hp
        clear hgo hp
        rcases hh with ⟨hI, hJ⟩ | hI
        all_goals
          go_wp2_with (go_at_call 11; (with_reducible refine (in_false p 0 1 HP.out _).mono ?_); rintro e w' ⟨rfl, rfl⟩)
          go_ret
          exact ⟨rfl, HL.out.below⟩
end Go.Proofs.Ytjneehfcoljlkaa
