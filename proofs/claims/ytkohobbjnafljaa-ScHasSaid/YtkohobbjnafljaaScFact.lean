/-
  The closed fact of package sc's statements.
-/
import Derived.Test.YtkohobbjnafljaaHas
import Derived.Test.YtkohobbjnafljaaScFactM
namespace Go.Proofs.Ytkohobbjnafljaa
open Go.RowKit

theorem both_any (w : World) : Calls Try.prog 22 #[] w fun e w' => ∃ v, e = .returned v ∧ Nums w' w'.heap.size v [1, 0, 1, 0, 1, 1] ∧ Below w.heap.size w w' := by
  go_enter Try.func22, Try.ntmps22
  go_wp2_with fail
  go_ret
  refine ⟨_, rfl, ?_, (Below.refl _ w).alloc (Nat.le_refl _) _⟩
  refine ⟨some ⟨w.heap.size, 0, none⟩, 6, rfl, by simp, fun _ => ⟨_, _, rfl, by simp, fun i z hz => ?_⟩⟩
  exact ((Block.made w 3 (row [1, 0, 1, 0, 1, 1])).cell (0 + i)).trans (by rw [Nat.zero_add]; exact row_get hz)

theorem resL_fact : resL 2 (dekkerL false false) = [[1, 0, 1, 1, 1, 1], [1, 1, 1, 0, 1, 1], [1, 1, 1, 1, 1, 1]] := by rw [resL, if_pos scFact_check, scFact_res]

set_option maxHeartbeats 1000000 in
theorem scFact_any (w : World) : Calls Try.prog 11 #[] w fun e w' => e = .returned (.bool true) ∧ Below w.heap.size w w' := by
  go_enter Try.func11, Try.ntmps11
  go_wp2_with fail
  refine (dekker_any false false _).mono ?_
  rintro e w1 ⟨v, rfl, hh, hb1⟩
  have HH := Lib.hid hh
  obtain ⟨A, c, rfl, _, _⟩ := hh
  have HB1 := Lib.hid hb1
  clear hb1
  go_wp2_with fail
  refine (results_any 2 _ (dekkerL false false) w1 HH.out).mono ?_
  rintro e w2 ⟨v2, he, hl2, hb2⟩
  rw [scFact_check, show errV 23 0 = .nilIface from rfl] at he
  rw [resL_fact] at hl2
  subst he
  have HL2 := Lib.hid hl2
  obtain ⟨A2, c2, rfl, _, _⟩ := hl2
  have HB2 := Lib.hid (HB1.out.trans (hb2.mono HB1.out.size))
  clear hb2
  go_wp2_with fail
  refine (dekker_any false false _).mono ?_
  rintro e w3 ⟨v, rfl, hh, hb3⟩
  have HH3 := Lib.hid hh
  obtain ⟨A3, c3, rfl, _, _⟩ := hh
  have HB3 := Lib.hid hb3
  clear hb3
  go_wp2_with fail
  refine (races_any 2 _ (dekkerL false false) w3 HH3.out).mono ?_
  rintro e w4 ⟨he, hb4⟩
  rw [scFact_check, scFact_race, show errV 23 0 = .nilIface from rfl, show (decide ((0 : Int) = 0) && true) = true from rfl] at he
  subst he
  have HB4 := Lib.hid hb4
  clear hb4
  go_wp2_with fail
  refine (both_any _).mono ?_
  rintro e w5 ⟨v5, rfl, hn5, hb5⟩
  have HN5 := Lib.hid hn5
  obtain ⟨A5, c5, rfl, _, _⟩ := hn5
  have HB5 := Lib.hid hb5
  clear hb5
  have h25 : Below w2.heap.size w2 w5 := (HB3.out.trans (HB4.out.mono HB3.out.size)).trans (HB5.out.mono (Nat.le_trans HB3.out.size HB4.out.size))
  have H25 := Lib.hid h25
  clear h25
  go_wp2_with (go_at_call 14; refine (has_any [[1, 0, 1, 1, 1, 1], [1, 1, 1, 0, 1, 1], [1, 1, 1, 1, 1, 1]] [1, 0, 1, 0, 1, 1] _ _ _ _ w5 (HL2.out.below H25.out (Nat.le_refl _)) HN5.out).mono ?_; rw [show decide ([1, 0, 1, 0, 1, 1] ∈ [[1, 0, 1, 1, 1, 1], [1, 1, 1, 0, 1, 1], [1, 1, 1, 1, 1, (1 : Int)]]) = false by decide]; rintro e w6 ⟨rfl, n, rfl⟩)
  go_ret
  exact ⟨rfl, below_drewN (HB2.out.trans (H25.out.mono HB2.out.size)) _⟩
end Go.Proofs.Ytkohobbjnafljaa
