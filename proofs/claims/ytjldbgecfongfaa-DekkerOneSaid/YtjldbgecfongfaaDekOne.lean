/-
  The walk of latchgarthlaw2.DekkerOne: it answers true, whatever the script.
-/
import Derived.Test.YtjldbgecfongfaaDekFact
namespace Go.Proofs.Ytjldbgecfongfaa
open Go.RowKit

/-- How many of the first q hands are in. -/
def cntP (s : List Int) : Nat → Int
  | 0 => 0
  | q + 1 => cntP s q + if atP s q = 7 then 1 else 0
theorem cntP_le {s : List Int} (h : s ∈ pall) : cntP s 2 ≤ 1 := by
  have : ¬ (atP s 0 = 7 ∧ atP s 1 = 7) := pall_one s h
  simp only [cntP]
  by_cases h0 : atP s 0 = 7
  · have h1 : ¬ atP s 1 = 7 := fun h => this ⟨h0, h⟩
    simp [h0, h1]
  · by_cases h1 : atP s 1 = 7 <;> simp [h0, h1]
theorem cntP_pos (s : List Int) : ∀ q, 0 ≤ cntP s q ∧ cntP s q ≤ q
  | 0 => by simp [cntP]
  | q + 1 => by
    have := cntP_pos s q
    simp only [cntP]
    split <;> omega
theorem cntP_in {s : List Int} {q : Nat} (h : atP s q = 7) : cntP s (q + 1) = cntP s q + 1 := by simp [cntP, h]
theorem cntP_out {s : List Int} {q : Nat} (h : ¬ atP s q = 7) : cntP s (q + 1) = cntP s q := by simp [cntP, h]

set_option maxHeartbeats 2000000 in
theorem one_law (sv : Value) (script : List Int) (w : World) (hn : Nums w w.heap.size sv script) :
    Calls Try.prog 3 #[sv] w fun e w' => e = .returned (.bool true) ∧ Below w.heap.size w w' := by
  obtain ⟨A, c, rfl, hlen, hn⟩ := hn
  have HN := Lib.hid hn
  clear hn
  go_enter Try.func3, Try.ntmps3
  go_wp2_with (first | (go_at_call 6; refine (dekFact_any _).mono ?_; rintro e w1 ⟨rfl, hb⟩; have HB := Lib.hid hb; clear hb) | (go_at_call 7; refine (newL HB.out).mono ?_; rintro e w2 ⟨g, rfl, hl⟩; have HL := Lib.hid hl; clear hl))
  go_loopw [5] (fun i wr => ∃ (k : Nat) (s : List Int), k ≤ script.length ∧ i = .int .i64 k ∧ LkAt w wr g s) (fun i _ => script.length - (intOf i).toNat)
  case atStart => exact ⟨0, pnew, by omega, rfl, HL.out⟩
  case round =>
    clear HL
    obtain ⟨k, s, hk, rfl, hl⟩ := hrel
    have HL := Lib.hid hl
    by_cases hlt : k < script.length
    · have hI : (k : Int) < script.length := by omega
      by_cases h400 : k < 400
      · have h4 : (k : Int) < 400 := by omega
        obtain ⟨b, o, rfl, hbb, hcc⟩ := HN.out (by omega)
        obtain ⟨x, hx⟩ : ∃ x, script[k]? = some x := ⟨script[k], List.getElem?_eq_getElem hlt⟩
        have hxc := (hl.below.cell (p := ⟨b, o + k, none⟩) hbb).trans (hcc k x hx)
        have HX := Lib.hid hx
        clear hcc hx hl
        go_wp2_with (go_at_call 8; (with_reducible refine (stepL HL.out x).mono ?_); rintro e w3 ⟨rfl, hl⟩; have H3 := Lib.hid hl; clear hl)
        obtain ⟨s3, hs3⟩ : ∃ s3, s3 = pstp s x := ⟨_, rfl⟩
        rw [← hs3] at H3
        have hle := cntP_le H3.out.all
        have hle2 : decide (1 < cntP s3 2) = false := decide_eq_false (by omega)
        have HLE := Lib.hid hle2
        clear hs3 hle hle2
        go_loopw [6, 7] (fun m q wr => ∃ j : Nat, j ≤ 2 ∧ q = .int .i64 j ∧ m = .int .i64 (cntP s3 j) ∧ wr = w3) (fun _ q _ => 2 - (intOf q).toNat)
        case atStart => exact ⟨0, by omega, rfl, rfl, rfl⟩
        case round =>
          obtain ⟨j, hj, rfl, rfl, rfl⟩ := hrel
          by_cases hj2 : j < 2
          · have hjI : (j : Int) < 2 := by omega
            have hp := cntP_pos s3 j
            have HA := Lib.hid (atL H3.out j hj2)
            by_cases h5 : atP s3 j = 7
            · have e5 : (atP s3 j == 7) = true := beq_iff_eq.2 h5
              have H5 := Lib.hid h5
              clear h5
              obtain ⟨hp1, hp2⟩ := hp
              go_wp2_with (go_at_call 9; (with_reducible refine HA.out.mono ?_); rintro e w4 ⟨rfl, rfl⟩)
              go_roundw
              case rel => exact ⟨j + 1, by omega, by go_num, by rw [cntP_in H5.out], trivial⟩
              case measure => simp [intOf]; omega
            · have e5 : (atP s3 j == 7) = false := beq_eq_false_iff_ne.2 h5
              have H5 := Lib.hid h5
              clear h5 hp
              go_wp2_with (go_at_call 9; (with_reducible refine HA.out.mono ?_); rintro e w4 ⟨rfl, rfl⟩)
              go_roundw
              case rel => exact ⟨j + 1, by omega, by go_num, by rw [cntP_out H5.out], trivial⟩
              case measure => simp [intOf]; omega
          · obtain rfl : j = 2 := by omega
            have hle := HLE.out
            go_wp2
            go_roundw
            case rel => exact ⟨k + 1, s3, by omega, by go_num, H3.out⟩
            case measure => simp [intOf]; omega
      · have h4 : ¬ (k : Int) < 400 := by omega
        go_wp2
        go_ret
        exact ⟨rfl, HL.out.below⟩
    · have hI : ¬ (k : Int) < script.length := by omega
      go_wp2
      go_ret
      exact ⟨rfl, HL.out.below⟩
end Go.Proofs.Ytjldbgecfongfaa
