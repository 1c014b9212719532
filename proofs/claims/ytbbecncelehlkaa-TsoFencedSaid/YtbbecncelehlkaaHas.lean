/-
  What latchgarthsame.Has answers.
-/
import Derived.Test.YtbbecncelehlkaaResults
import Derived.Test.YtbbecncelehlkaaInts
namespace Go.Proofs.Ytbbecncelehlkaa
open Go.RowKit

set_option maxHeartbeats 1000000 in
theorem has_any (ls : List (List Int)) (ys : List Int) (v1 v2 : Value) (B1 B2 : Nat) (w : World) (h1 : Lsts w B1 v1 ls) (h2 : Nums w B2 v2 ys) :
    Calls Try.prog 11 #[v1, v2] w fun e w' => e = .returned (.bool (decide (ys ∈ ls))) ∧ ∃ n, w' = w.drewN n := by
  obtain ⟨A1, c1, rfl, hl1, h1⟩ := h1
  have H1 := Lib.hid h1
  have H2 := Lib.hid h2
  obtain ⟨A2, c2, rfl, hl2, _⟩ := h2
  clear h1
  go_enter Try.func11, Try.ntmps11
  go_wp2
  go_loopw [5] (fun i wr => ∃ k : Nat, k ≤ ls.length ∧ i = .int .i64 k ∧ (∀ z ∈ ls.take k, z ≠ ys) ∧ ∃ n, wr = w.drewN n) (fun i _ => ls.length - (intOf i).toNat)
  case atStart => exact ⟨0, Nat.zero_le _, rfl, fun z hz => by simp at hz, 0, rfl⟩
  case round =>
    obtain ⟨k, hk, rfl, htk, n, rfl⟩ := hrel
    have HTK := Lib.hid htk
    clear htk
    by_cases hlt : k < ls.length
    · obtain ⟨b1, o1, rfl, _, hc1⟩ := H1.out (by omega)
      obtain ⟨x, hx⟩ : ∃ x, ls[k]? = some x := ⟨_, List.getElem?_eq_getElem hlt⟩
      obtain ⟨u, hu, hnu, _⟩ := hc1 k x hx
      have g1 : (w.drewN n).cell? ⟨b1, o1 + k, none⟩ = some u := hu
      have HNU := Lib.hid (show Nums (w.drewN n) B1 u x from hnu)
      have HY := Lib.hid (show Nums (w.drewN n) B2 (.slice A2 ys.length c2) ys from H2.out)
      have HX := Lib.hid hx
      have i1 : (k : Int) < ls.length := by omega
      obtain ⟨A3, c3, rfl, _, _⟩ := hnu
      clear hc1 hx hu
      by_cases hxy : x = ys
      · have HXY := Lib.hid hxy
        clear hxy
        go_wp2_with (go_at_call 14; refine (ints_any x ys _ _ _ _ _ HNU.out HY.out).mono ?_; rw [decide_eq_true HXY.out]; rintro e w5 ⟨rfl, m, rfl⟩)
        go_ret
        exact ⟨by rw [decide_eq_true (show ys ∈ ls from HXY.out ▸ List.mem_of_getElem? HX.out)]; rfl, n + m, rfl⟩
      · have HXY := Lib.hid hxy
        clear hxy
        go_wp2_with (go_at_call 14; refine (ints_any x ys _ _ _ _ _ HNU.out HY.out).mono ?_; rw [decide_eq_false HXY.out]; rintro e w5 ⟨rfl, m, rfl⟩)
        go_roundw
        case rel =>
          refine ⟨k + 1, by omega, by go_num, fun z hz => ?_, n + m, rfl⟩
          rw [take_succ_at HX.out] at hz
          rcases List.mem_append.1 hz with h | h
          · exact HTK.out z h
          · rw [List.mem_singleton.1 h]; exact HXY.out
        case measure => simp [intOf]; omega
    · have i1 : ¬ (k : Int) < ls.length := by omega
      go_wp2
      go_ret
      have hno : ¬ ys ∈ ls := by
        intro h
        have := HTK.out
        rw [List.take_of_length_le (by omega)] at this
        exact this ys h rfl
      exact ⟨by rw [decide_eq_false hno]; rfl, n, rfl⟩

end Go.Proofs.Ytbbecncelehlkaa
