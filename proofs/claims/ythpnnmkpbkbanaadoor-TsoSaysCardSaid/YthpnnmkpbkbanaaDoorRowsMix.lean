/-
  What latchgarthsame.Rows answers where two lists are the same: the second one the document's answer's.
-/
import Derived.Test.YthpnnmkpbkbanaaDoorResults
import Derived.Test.YthpnnmkpbkbanaaDoorInts
import Derived.Test.YthpnnmkpbkbanaaDoorRefMm
import Derived.Deep.RegionHeld3
namespace Go.Proofs.YthpnnmkpbkbanaaDoor
open Go.RowKit

set_option maxHeartbeats 2000000 in
theorem rows_mix (ls : List (List Int)) (v1 v2 : Value) (B1 B2 : Nat) (w : World) (h1 : Lsts w B1 v1 ls) (h2 : RwsP w (fun b => b < B2) v2 ls) :
    Calls Tryd.prog 10 #[v1, v2] w fun e w' => e = .returned (.bool true) ∧ ∃ n, w' = w.drewN n := by
  obtain ⟨A1, c1, rfl, hl1, h1⟩ := h1
  obtain ⟨A2, c2, rfl, hl2, h2⟩ := h2
  have H1 := Lib.hid h1
  have H2 := Lib.hid h2
  clear h1 h2
  go_enter Tryd.func10, Tryd.ntmps10
  go_wp2
  go_loopw [5] (fun i wr => ∃ k : Nat, k ≤ ls.length ∧ i = .int .i64 k ∧ ∃ n, wr = w.drewN n) (fun i _ => ls.length - (intOf i).toNat)
  case atStart => exact ⟨0, Nat.zero_le _, rfl, 0, rfl⟩
  case round =>
    obtain ⟨k, hk, rfl, n, rfl⟩ := hrel
    by_cases hlt : k < ls.length
    · obtain ⟨b1, o1, rfl, _, hc1⟩ := H1.out (by omega)
      obtain ⟨b2, o2, rfl, _, hc2⟩ := H2.out (by omega)
      obtain ⟨x, hx⟩ : ∃ x, ls[k]? = some x := ⟨_, List.getElem?_eq_getElem hlt⟩
      obtain ⟨u1, hu1, hn1, _⟩ := hc1 k x hx
      obtain ⟨u2, hu2, hn2⟩ := hc2 k x hx
      have HN1 := Lib.hid (show Nums ((w.drewN n).drew) B1 u1 x from hn1)
      have HN2 := Lib.hid (show Nums ((w.drewN n).drew) B2 u2 x from hn2)
      have HS := Lib.hid (show (fun W : World => W.cell? ⟨b1, o1 + k, none⟩ = some u1 ∧ W.cell? ⟨b2, o2 + k, none⟩ = some u2) ((w.drewN n).drew) from ⟨hu1, hu2⟩)
      have HS2 := Lib.hid (fun m : Nat => (show (fun W : World => W.cell? ⟨b1, o1 + k, none⟩ = some u1 ∧ W.cell? ⟨b2, o2 + k, none⟩ = some u2) (((w.drewN n).drew).drewN m) from ⟨hu1, hu2⟩))
      obtain ⟨A3, c3, rfl, _, _⟩ := hn1
      obtain ⟨A4, c4, rfl, _, _⟩ := hn2
      have i1 : (k : Int) < ls.length := by omega
      clear hc1 hc2 hu1 hu2 hx
      go_wp2_with fail
      go_region_held3 (fun W => W.cell? ⟨b1, o1 + k, none⟩ = some (.slice A3 x.length c3) ∧ W.cell? ⟨b2, o2 + k, none⟩ = some (.slice A4 x.length c4)) (first | exact HS.out | exact HS2.out _) ((go_at_call 30; refine (ints_any x x _ _ _ _ _ HN1.out HN2.out).mono ?_; rw [decide_eq_true rfl]; rintro e w5 ⟨rfl, m, rfl⟩))
      all_goals
        go_wp2
        go_roundw
        case rel => exact ⟨k + 1, by omega, by go_num, n + 1 + m, rfl⟩
        case measure => simp [intOf]; omega
    · have i1 : ¬ (k : Int) < ls.length := by omega
      go_wp2
      go_ret
      exact ⟨rfl, n, rfl⟩
end Go.Proofs.YthpnnmkpbkbanaaDoor
