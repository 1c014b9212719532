/-
  The walk of latchgarthlaw1.ScAlone: it answers true, whatever the words and the lines.
-/
import Derived.Test.YtkohobbjnafljaaScFact
import Derived.Test.YtkohobbjnafljaaScLaws
import Derived.Test.YtkohobbjnafljaaRun2
namespace Go.Proofs.Ytkohobbjnafljaa
open Go.RowKit

theorem Lines.touch0 {w w' : World} {v : Value} {ls : List Ln} (h : Lines w w.heap.size v ls) (ht : Touch (fun _ => False) w w') : Lines w' w'.heap.size v ls := (h.keep fun _ hp => ht.cell hp fun h => h).more ht.size

set_option maxRecDepth 100000 in
set_option maxHeartbeats 4000000 in
theorem alone_law (words : Int) (lv : Value) (ls : List Ln) (w : World) (hl : Lines w w.heap.size lv ls) :
    Calls Try.prog 6 #[.int .i64 words, lv] w fun e w' => e = .returned (.bool true) ∧ Below w.heap.size w w' := by
  have HL := Lib.hid hl
  obtain ⟨A, c, rfl, hlen, _⟩ := hl
  go_enter Try.func6, Try.ntmps6
  go_wp2_with fail
  refine (scFact_any _).mono ?_
  rintro e w1 ⟨rfl, hb1⟩
  have HB1 := Lib.hid hb1
  clear hb1
  go_wp2_with fail
  obtain ⟨V, hV⟩ : ∃ V, V = (w1.alloc (.cells #[.slice A ls.length c] 34)).alloc (.cells #[.int .i64 words, .slice (some ⟨w1.heap.size, 0, none⟩) 1 1] 28) := ⟨_, rfl⟩
  rw [← hV]
  have hT : Touch (fun _ => False) w1 V := by
    rw [hV]
    exact ((Touch.refl _ w1).alloc _).alloc _
  have k0 := Block.made (w1.alloc (.cells #[.slice A ls.length c] 34)) 28 #[.int .i64 words, .slice (some ⟨w1.heap.size, 0, none⟩) 1 1]
  rw [World.size_alloc, ← hV] at k0
  have hK : Block V (w1.heap.size + 1) 28 #[.int .i64 words, .slice (some ⟨w1.heap.size, 0, none⟩) 1 1] := k0
  have hR : Block V w1.heap.size 34 #[.slice A ls.length c] := by
    rw [hV]
    exact (Block.made w1 _ _).alloc _
  have hL1 : Lines w1 w1.heap.size (.slice A ls.length c) ls := (HL.out.below HB1.out (Nat.le_refl _)).more HB1.out.size
  have hHV : Hands V V.heap.size (.slice (some ⟨w1.heap.size, 0, none⟩) 1 1) [ls] := by
    refine ⟨_, 1, rfl, by simp, fun _ => ⟨_, 0, rfl, hR.lt, fun i l hi => ?_⟩⟩
    match i, hi with
    | 0, hi =>
      simp at hi
      subst hi
      exact ⟨_, hR.cell 0, hL1.touch0 hT⟩
  have hb0 : Below w.heap.size w V := HB1.out.trans (hT.below HB1.out.size fun _ h => h.elim)
  have d0 := hK.cell 0
  have d1 := hK.cell 1
  simp at d0 d1
  have HK := Lib.hid hK
  have HHV := Lib.hid hHV
  have HB0 := Lib.hid hb0
  clear hV hT k0 hK hR hL1 hHV hb0
  refine (results_any words _ [ls] V HHV.out).mono ?_
  by_cases hc : check words [ls] = 0
  · rintro e w2 ⟨v2, he, hl2, hb2⟩
    have HC := Lib.hid hc
    rw [hc, show errV 23 0 = .nilIface from rfl] at he
    rw [resL, if_pos hc, alone_scR hc rfl] at hl2
    subst he
    have HL2 := Lib.hid hl2
    obtain ⟨A2, c2, rfl, _, _⟩ := hl2
    have k2 := HK.out.below hb2 HK.out.lt
    have e0 := k2.cell 0
    have e1 := k2.cell 1
    simp at e0 e1
    have K2 := Lib.hid k2
    have HB2 := Lib.hid hb2
    clear hb2 k2 hc d0 d1
    go_wp2_with fail
    refine (races_any words _ [ls] w2 ((HHV.out.below HB2.out (Nat.le_refl _)).more HB2.out.size)).mono ?_
    rintro e w3 ⟨he, hb3⟩
    rw [HC.out, alone_race (hs := [ls]) rfl, show errV 23 0 = .nilIface from rfl, show (decide ((0 : Int) = 0) && false) = false from rfl] at he
    subst he
    have k3 := K2.out.below hb3 K2.out.lt
    have f0 := k3.cell 0
    have f1 := k3.cell 1
    simp at f0 f1
    have HB3 := Lib.hid (HB2.out.trans (hb3.mono HB2.out.size))
    have H23 := Lib.hid hb3
    clear hb3 k3 e0 e1
    go_wp2_with fail
    refine (run_any words _ _ [ls] [] w3 ((HHV.out.below HB3.out (Nat.le_refl _)).more HB3.out.size) (nums_nil _ _)).mono ?_
    rintro e w4 ⟨v4, he, hn4, hb4⟩
    rw [(told_again HC.out).1, show errV 23 0 = .nilIface from rfl] at he
    subst he
    have HN4 := Lib.hid hn4
    obtain ⟨A4, c4, rfl, _, _⟩ := hn4
    have h24 : Below w2.heap.size w2 w4 := H23.out.trans (hb4.mono H23.out.size)
    have HB4 := Lib.hid (HB3.out.trans (hb4.mono HB3.out.size))
    obtain ⟨A5, c5, hA5, _, hcc⟩ := HL2.out.below h24 (Nat.le_refl _)
    obtain ⟨b, o, rfl, _, hcell⟩ := hcc (by simp)
    obtain ⟨u, hu, hnu, _⟩ := hcell 0 _ rfl
    simp at hA5
    obtain ⟨rfl, rfl⟩ := hA5
    have HNU := Lib.hid hnu
    obtain ⟨A6, c6, rfl, _, _⟩ := hnu
    have g1 : w4.cell? ⟨b, o, none⟩ = some (.slice A6 (runTold words [ls] []).length c6) := by simpa using hu
    clear hb4 hcc hcell hu h24 f0 f1
    go_wp2_with (go_at_call 10; refine (ints_any (runTold words [ls] []) (runTold words [ls] []) _ _ _ _ w4 HNU.out HN4.out).mono ?_; rw [decide_eq_true rfl]; rintro e w6 ⟨rfl, m, rfl⟩)
    go_ret
    exact ⟨rfl, below_drewN (HB0.out.trans (HB4.out.mono HB0.out.size)) _⟩
  · rintro e w2 ⟨v2, he, hl2, hb2⟩
    have HC := Lib.hid hc
    rw [show errV 23 (check words [ls]) = .iface 23 (.int .i64 (check words [ls])) from if_neg hc] at he
    subst he
    obtain ⟨A2, c2, rfl, _, _⟩ := hl2
    have k2 := HK.out.below hb2 HK.out.lt
    have e0 := k2.cell 0
    have e1 := k2.cell 1
    simp at e0 e1
    have K2 := Lib.hid k2
    have HB2 := Lib.hid hb2
    clear hb2 k2 hc d0 d1
    go_wp2_with fail
    refine (races_any words _ [ls] w2 ((HHV.out.below HB2.out (Nat.le_refl _)).more HB2.out.size)).mono ?_
    rintro e w3 ⟨he, hb3⟩
    rw [show errV 23 (check words [ls]) = .iface 23 (.int .i64 (check words [ls])) from if_neg HC.out] at he
    subst he
    have k3 := K2.out.below hb3 K2.out.lt
    have f0 := k3.cell 0
    have f1 := k3.cell 1
    simp at f0 f1
    have HB3 := Lib.hid (HB2.out.trans (hb3.mono HB2.out.size))
    clear hb3 k3 e0 e1
    go_wp2_with fail
    refine (run_any words _ _ [ls] [] w3 ((HHV.out.below HB3.out (Nat.le_refl _)).more HB3.out.size) (nums_nil _ _)).mono ?_
    rintro e w4 ⟨v4, he, hn4, hb4⟩
    rw [runErr_check HC.out, show errV 23 (check words [ls]) = .iface 23 (.int .i64 (check words [ls])) from if_neg HC.out] at he
    subst he
    obtain ⟨A4, c4, rfl, _, _⟩ := hn4
    have HB4 := Lib.hid (HB3.out.trans (hb4.mono HB3.out.size))
    clear hb4 f0 f1
    go_wp2_with fail
    go_ret
    exact ⟨rfl, HB0.out.trans (HB4.out.mono HB0.out.size)⟩
end Go.Proofs.Ytkohobbjnafljaa
