/-
  The walk of latchgarthlaw1.TsoNoRace: it answers true, whatever the program.
-/
import Derived.Test.YtbbecncelehlkaaTsoFacts
import Derived.Test.YtbbecncelehlkaaTsoLw
import Derived.Test.YtbbecncelehlkaaRowsSame
namespace Go.Proofs.Ytbbecncelehlkaa
open Go.RowKit

set_option maxRecDepth 100000 in
set_option maxHeartbeats 4000000 in
theorem norace_bad (words : Int) (hv : Value) (hs : List (List Ln)) (w : World) (hh : Hands w w.heap.size hv hs) (hc : check words hs ≠ 0) :
    Calls Try.prog 4 #[.agg #[.int .i64 words, hv]] w fun e w' => e = .returned (.bool true) ∧ Below w.heap.size w w' := by
  have HH := Lib.hid hh
  have HC := Lib.hid hc
  obtain ⟨A, c, rfl, hlen, _⟩ := hh
  have K0 := Lib.hid (Block.made w 24 #[.int .i64 words, .slice A hs.length c])
  have HB0 := Lib.hid ((Below.refl w.heap.size w).alloc (Nat.le_refl _) (.cells #[.int .i64 words, .slice A hs.length c] 24))
  clear hc
  go_enter Try.func4, Try.ntmps4
  go_wp2_with fail
  refine (tsoFact_any _).mono ?_
  rintro e w1 ⟨rfl, hb1⟩
  have k1 : Block w1 w.heap.size 24 #[.int .i64 words, .slice A hs.length c] := K0.out.below hb1 (by simp)
  have HB1 := Lib.hid (HB0.out.trans (hb1.mono (by simp)))
  have c0 := k1.cell 0
  have c1 := k1.cell 1
  simp at c0 c1
  have K1 := Lib.hid k1
  clear hb1 k1
  go_wp2_with fail
  refine (races_any words _ hs w1 ((HH.out.below HB1.out (Nat.le_refl _)).more HB1.out.size)).mono ?_
  rintro e wa ⟨he, hba⟩
  rw [show errV 72 (check words hs) = .iface 72 (.int .i64 (check words hs)) from if_neg HC.out] at he
  subst he
  have ka := K1.out.below hba K1.out.lt
  have a0 := ka.cell 0
  have a1 := ka.cell 1
  simp at a0 a1
  have KA := Lib.hid ka
  have HBA := Lib.hid (HB1.out.trans (hba.mono HB1.out.size))
  clear hba ka c0 c1
  go_wp2_with fail
  refine (results_any words _ hs wa ((HH.out.below HBA.out (Nat.le_refl _)).more HBA.out.size)).mono ?_
  rintro e w2 ⟨v2, he, hl2, hb2⟩
  rw [show errV 72 (check words hs) = .iface 72 (.int .i64 (check words hs)) from if_neg HC.out] at he
  subst he
  obtain ⟨A2, c2, rfl, _, _⟩ := hl2
  have k2 := KA.out.below hb2 KA.out.lt
  have d0 := k2.cell 0
  have d1 := k2.cell 1
  simp at d0 d1
  have HB2 := Lib.hid (HBA.out.trans (hb2.mono HBA.out.size))
  clear hb2 k2 a0 a1
  go_wp2_with fail
  refine (tresults_bad words _ hs w2 ((HH.out.below HB2.out (Nat.le_refl _)).more HB2.out.size) HC.out).mono ?_
  rintro e w3 ⟨rfl, hb3⟩
  have HB3 := Lib.hid (HB2.out.trans (hb3.mono HB2.out.size))
  clear hb3 d0 d1
  go_wp2
  go_ret
  exact ⟨rfl, HB3.out⟩

set_option maxRecDepth 100000 in
set_option maxHeartbeats 4000000 in
theorem norace_good (words : Int) (hv : Value) (hs : List (List Ln)) (w : World) (hh : Hands w w.heap.size hv hs) (hc : check words hs = 0) :
    Calls Try.prog 4 #[.agg #[.int .i64 words, hv]] w fun e w' => e = .returned (.bool true) ∧ Below w.heap.size w w' := by
  have HH := Lib.hid hh
  have HC := Lib.hid hc
  have HW := Lib.hid (check_well hc)
  obtain ⟨A, c, rfl, hlen, _⟩ := hh
  have K0 := Lib.hid (Block.made w 24 #[.int .i64 words, .slice A hs.length c])
  have HB0 := Lib.hid ((Below.refl w.heap.size w).alloc (Nat.le_refl _) (.cells #[.int .i64 words, .slice A hs.length c] 24))
  clear hc
  go_enter Try.func4, Try.ntmps4
  go_wp2_with fail
  refine (tsoFact_any _).mono ?_
  rintro e w1 ⟨rfl, hb1⟩
  have k1 : Block w1 w.heap.size 24 #[.int .i64 words, .slice A hs.length c] := K0.out.below hb1 (by simp)
  have HB1 := Lib.hid (HB0.out.trans (hb1.mono (by simp)))
  have c0 := k1.cell 0
  have c1 := k1.cell 1
  simp at c0 c1
  have K1 := Lib.hid k1
  clear hb1 k1
  go_wp2_with fail
  refine (races_any words _ hs w1 ((HH.out.below HB1.out (Nat.le_refl _)).more HB1.out.size)).mono ?_
  rintro e wa ⟨he, hba⟩
  rw [HC.out, show errV 72 0 = .nilIface from rfl, show (decide ((0 : Int) = 0) && scRace hs) = scRace hs by simp] at he
  subst he
  have ka := K1.out.below hba K1.out.lt
  have a0 := ka.cell 0
  have a1 := ka.cell 1
  simp at a0 a1
  have KA := Lib.hid ka
  have HBA := Lib.hid (HB1.out.trans (hba.mono HB1.out.size))
  clear hba ka c0 c1
  obtain ⟨r, hr⟩ : ∃ r, r = scRace hs := ⟨_, rfl⟩
  rw [← hr]
  have HRC := Lib.hid hr
  clear hr
  go_wp2_with fail
  refine (results_any words _ hs wa ((HH.out.below HBA.out (Nat.le_refl _)).more HBA.out.size)).mono ?_
  rintro e w2 ⟨v2, he, hl2, hb2⟩
  rw [HC.out, show errV 72 0 = .nilIface from rfl] at he
  rw [resL, if_pos HC.out] at hl2
  subst he
  have HL2 := Lib.hid hl2
  obtain ⟨A2, c2, rfl, hll, _⟩ := hl2
  have k2 := KA.out.below hb2 KA.out.lt
  have d0 := k2.cell 0
  have d1 := k2.cell 1
  simp at d0 d1
  have K2 := Lib.hid k2
  have HB2 := Lib.hid (HBA.out.trans (hb2.mono HBA.out.size))
  clear hb2 k2 a0 a1
  go_wp2_with fail
  refine (tresults_good words _ hs w2 ((HH.out.below HB2.out (Nat.le_refl _)).more HB2.out.size) HC.out).mono ?_
  rintro e w3 ⟨v3, ts, rfl, hl3, hto, hb3⟩
  have HL3 := Lib.hid hl3
  have HTO := Lib.hid hto
  have HNR := Lib.hid (fun h : scRace hs = false => noRace HW.out h hto)
  obtain ⟨A3, c3, rfl, hlt3, _⟩ := hl3
  have HL2' := Lib.hid (HL2.out.below hb3 (Nat.le_refl _))
  have HB3 := Lib.hid (HB2.out.trans (hb3.mono HB2.out.size))
  clear hb3 d0 d1 hto
  cases r with
  | true =>
    go_wp2
    go_ret
    exact ⟨rfl, HB3.out⟩
  | false =>
    have e := HNR.out HRC.out.symm
    rw [← e] at HL2'
    rw [← e]
    clear e HNR HRC HL2
    go_wp2_with (go_at_call 13; (with_reducible refine (rows_same ts _ _ _ _ _ HL2'.out HL3.out).mono ?_); rintro e w5 ⟨rfl, m, rfl⟩)
    go_ret
    exact ⟨rfl, below_drewN HB3.out _⟩

theorem norace_law (words : Int) (hv : Value) (hs : List (List Ln)) (w : World) (hh : Hands w w.heap.size hv hs) :
    Calls Try.prog 4 #[.agg #[.int .i64 words, hv]] w fun e w' => e = .returned (.bool true) ∧ Below w.heap.size w w' := by
  by_cases hc : check words hs = 0
  · exact norace_good words hv hs w hh hc
  · exact norace_bad words hv hs w hh hc
end Go.Proofs.Ytbbecncelehlkaa
