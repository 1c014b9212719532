/-
  The reference's step of a lock for two: hand 0.
-/
import Derived.Test.YtjneehfcoljlkaaDoorPairRef
namespace Go.Proofs.YtjneehfcoljlkaaDoor
open Go.RowKit

set_option maxRecDepth 100000 in
set_option maxHeartbeats 8000000 in
theorem refPair_zero (f0 f1 t a0 a1 : Int) (g1 : 0 ≤ f1) (g2 : f1 ≤ 1) (g3 : 0 ≤ t) (g4 : t ≤ 1) (g5 : 1 ≤ a0) (g6 : a0 ≤ 6) (v : Value) (os : List (List Int)) (w : World) {P : Nat → Prop} (hP : ∀ b, P b → b < w.heap.size) (h : Mc w P 2 v [f0, f1, t] [a0, a1] os) :
    Calls Tryd.prog 8 #[v, .int .i64 0] w fun e w' => ∃ v', e = .returned v' ∧ Mc w' (New P w w') 2 v' ((pdo [f0, f1, t, a0, a1] 0 1).take 3) ((pdo [f0, f1, t, a0, a1] 0 1).drop 3) os ∧ Below w.heap.size w w' := by
  have HM := Lib.hid h
  obtain ⟨wv, av, ov, rfl, k1, k2, k3⟩ := h
  have HF := Lib.hid (MBox.made (x3 := ov) (n := 2) w _ (k1.nums hP) (k2.nums hP) rfl)
  have HP := Lib.hid hP
  obtain ⟨A1, c1, rfl, _, k1⟩ := k1
  obtain ⟨A2, c2, rfl, _, k2⟩ := k2
  obtain ⟨A3, c3, rfl, hl3, _⟩ := k3
  obtain ⟨b1, o1, rfl, hp1, hc1⟩ := k1 (by simp)
  obtain ⟨b2, o2, rfl, hp2, hc2⟩ := k2 (by simp)
  have hb1 := hP b1 hp1
  have hb2 := hP b2 hp2
  have HC1 := Lib.hid hc1
  have HC2 := Lib.hid hc2
  clear k1 k2 hc1 hc2 hP
  go_enter Tryd.func8, Tryd.ntmps8
  go_upto_region 1 with fail
  obtain ⟨V, hV⟩ : ∃ V, V = (w.alloc (.cells #[.int .i64 2, .slice (some ⟨b1, o1, none⟩) 3 c1, .slice (some ⟨b2, o2, none⟩) 2 c2, .slice A3 os.length c3] 27)).alloc (.cells #[.int .i64 0, .slice none 0 0, .slice none 0 0, .slice none 0 0] 27) := ⟨_, rfl⟩
  have HF0 := Lib.hid (show MBox w V w.heap.size 2 (.slice (some ⟨b1, o1, none⟩) 3 c1) (.slice (some ⟨b2, o2, none⟩) 2 c2) (.slice A3 os.length c3) [f0, f1, t] [a0, a1] by rw [hV]; exact HF.out)
  rw [← hV]
  obtain ⟨h, hh⟩ : ∃ h, h = w.heap.size := ⟨_, rfl⟩
  have HB := Lib.hid (show MBox w V h 2 (.slice (some ⟨b1, o1, none⟩) 3 c1) (.slice (some ⟨b2, o2, none⟩) 2 c2) (.slice A3 os.length c3) [f0, f1, t] [a0, a1] by rw [hh]; exact HF0.out)
  rw [← hh]
  clear hV hh HF HF0
  have hPV : ∀ b, P b → b < V.heap.size := fun b hb => Nat.lt_of_lt_of_le (HP.out b hb) HB.out.below.size
  have HPV := Lib.hid hPV
  have HMV := Lib.hid (show Mc V P 2 (.agg #[.int .i64 2, .slice (some ⟨b1, o1, none⟩) 3 c1, .slice (some ⟨b2, o2, none⟩) 2 c2, .slice A3 os.length c3]) [f0, f1, t] [a0, a1] os from HM.out.keep (fun _ h => h) (fun p hp => HB.out.below.cell (HP.out _ hp)))
  obtain ⟨y0, y1, y2, y3⟩ := HB.out.cells
  have l0 : V.cell? ⟨b2, o2, none⟩ = some (.int .i64 a0) := (HB.out.below.cell (p := ⟨b2, o2, none⟩) hb2).trans (HC2.out 0 a0 rfl)
  have l1 : V.cell? ⟨b2, o2 + 1, none⟩ = some (.int .i64 a1) := (HB.out.below.cell (p := ⟨b2, o2 + 1, none⟩) hb2).trans (HC2.out 1 a1 rfl)
  have m0 : V.cell? ⟨b1, o1, none⟩ = some (.int .i64 f0) := (HB.out.below.cell (p := ⟨b1, o1, none⟩) hb1).trans (HC1.out 0 f0 rfl)
  have m1 : V.cell? ⟨b1, o1 + 1, none⟩ = some (.int .i64 f1) := (HB.out.below.cell (p := ⟨b1, o1 + 1, none⟩) hb1).trans (HC1.out 1 f1 rfl)
  have m2 : V.cell? ⟨b1, o1 + 2, none⟩ = some (.int .i64 t) := (HB.out.below.cell (p := ⟨b1, o1 + 2, none⟩) hb1).trans (HC1.out 2 t rfl)
  have HBH := Lib.hid (show b1 ≠ h + 1 from Nat.ne_of_lt (Nat.lt_succ_of_lt (Nat.lt_of_lt_of_le hb1 HB.out.low)))
  clear hPV
  obtain rfl | rfl | rfl | rfl | rfl | rfl : a0 = 1 ∨ a0 = 2 ∨ a0 = 3 ∨ a0 = 4 ∨ a0 = 5 ∨ a0 = 6 := by omega
  · go_wp2_with (first | (go_at_call 15; refine (word_any 2 _ [f0, f1, t] [1, a1] os 0 1 V HPV.out HMV.out (by simp) (by simp)).mono ?_; rintro e w3 ⟨v3, rfl, hm3, hb3⟩; have HM3 := Lib.hid hm3; have HB3 := Lib.hid hb3; have HP3 := Lib.hid (New.lt HPV.out hb3.size); obtain ⟨A4, c4, A5, c5, A6, c6, rfl⟩ := mc_form hm3; clear hm3 hb3) | (go_at_call 14; refine (to_any 2 _ _ _ os 0 2 w3 HP3.out HM3.out (by simp) (by simp)).mono ?_; rintro e w4 ⟨v4, rfl, hm4, hb4⟩; have HMF := Lib.hid hm4; have HG := Lib.hid (HB.out.on (HB3.out.trans (hb4.mono HB3.out.size))); have HB4 := Lib.hid hb4; obtain ⟨B1, d1, B2, d2, B3, d3, rfl⟩ := mc_form hm4; obtain ⟨x0, x1, x2, x3⟩ := HG.out.room; obtain ⟨-, -, -, u3, u4, u5, u6⟩ := HG.out.frees; clear hm4 hb4))
    obtain ⟨hT, hbel⟩ := HG.out.told0 (.slice B1 3 d1) (.slice B2 2 d2) (.slice B3 os.length d3)
    have hmc := HB.out.mcs HP.out (New.two HB3.out.size HB4.out.size) HMF.out 2 (.slice B1 3 d1) (.slice B2 2 d2) (.slice B3 os.length d3)
    exact bodyPost_ret (v := .agg #[.int .i64 2, .slice B1 3 d1, .slice B2 2 d2, .slice B3 os.length d3]) (results_cell_row rfl _ _ (h + 1) 27 _ (0, 0) _ rfl hT Tryd.underlying27 rfl (by kernel_rfl)) rfl ⟨_, rfl, hmc, hbel⟩
  · go_wp2_with (first | (go_at_call 15; refine (word_any 2 _ [f0, f1, t] [2, a1] os 2 1 V HPV.out HMV.out (by simp) (by simp)).mono ?_; rintro e w3 ⟨v3, rfl, hm3, hb3⟩; have HM3 := Lib.hid hm3; have HB3 := Lib.hid hb3; have HP3 := Lib.hid (New.lt HPV.out hb3.size); obtain ⟨A4, c4, A5, c5, A6, c6, rfl⟩ := mc_form hm3; clear hm3 hb3) | (go_at_call 14; refine (to_any 2 _ _ _ os 0 3 w3 HP3.out HM3.out (by simp) (by simp)).mono ?_; rintro e w4 ⟨v4, rfl, hm4, hb4⟩; have HMF := Lib.hid hm4; have HG := Lib.hid (HB.out.on (HB3.out.trans (hb4.mono HB3.out.size))); have HB4 := Lib.hid hb4; obtain ⟨B1, d1, B2, d2, B3, d3, rfl⟩ := mc_form hm4; obtain ⟨x0, x1, x2, x3⟩ := HG.out.room; obtain ⟨-, -, -, u3, u4, u5, u6⟩ := HG.out.frees; clear hm4 hb4))
    obtain ⟨hT, hbel⟩ := HG.out.told0 (.slice B1 3 d1) (.slice B2 2 d2) (.slice B3 os.length d3)
    have hmc := HB.out.mcs HP.out (New.two HB3.out.size HB4.out.size) HMF.out 2 (.slice B1 3 d1) (.slice B2 2 d2) (.slice B3 os.length d3)
    exact bodyPost_ret (v := .agg #[.int .i64 2, .slice B1 3 d1, .slice B2 2 d2, .slice B3 os.length d3]) (results_cell_row rfl _ _ (h + 1) 27 _ (0, 0) _ rfl hT Tryd.underlying27 rfl (by kernel_rfl)) rfl ⟨_, rfl, hmc, hbel⟩
  · obtain rfl | rfl : f1 = 0 ∨ f1 = 1 := by omega
    · go_upto_region 8 with fail
      have HS := Lib.hid (show (fun W : World => W.cell? ⟨h, 0, none⟩ = some (.int .i64 2) ∧ W.cell? ⟨h, 1, none⟩ = some (.slice (some ⟨b1, o1, none⟩) 3 c1) ∧ W.cell? ⟨h, 2, none⟩ = some (.slice (some ⟨b2, o2, none⟩) 2 c2) ∧ W.cell? ⟨h, 3, none⟩ = some (.slice A3 os.length c3) ∧ W.cell? ⟨b1, o1 + 1, none⟩ = some (.int .i64 0)) V.drew from ⟨y0, y1, y2, y3, m1⟩)
      have HMD := Lib.hid (show Mc V.drew P 2 (.agg #[.int .i64 2, .slice (some ⟨b1, o1, none⟩) 3 c1, .slice (some ⟨b2, o2, none⟩) 2 c2, .slice A3 os.length c3]) [f0, 0, t] [3, a1] os from HMV.out)
      clear y0 y1 y2 y3 l0 l1 m0 m1 m2
      go_region_held3 (fun W => W.cell? ⟨h, 0, none⟩ = some (.int .i64 2) ∧ W.cell? ⟨h, 1, none⟩ = some (.slice (some ⟨b1, o1, none⟩) 3 c1) ∧ W.cell? ⟨h, 2, none⟩ = some (.slice (some ⟨b2, o2, none⟩) 2 c2) ∧ W.cell? ⟨h, 3, none⟩ = some (.slice A3 os.length c3) ∧ W.cell? ⟨b1, o1 + 1, none⟩ = some (.int .i64 0)) (first | exact HS.out | exact HS3.out | exact ⟨(four_off _ (h + 1) _ _ _ _ _ (Nat.ne_of_lt (Nat.lt_succ_self h))).trans HS3.out.1, (four_off _ (h + 1) _ _ _ _ _ (Nat.ne_of_lt (Nat.lt_succ_self h))).trans HS3.out.2.1, (four_off _ (h + 1) _ _ _ _ _ (Nat.ne_of_lt (Nat.lt_succ_self h))).trans HS3.out.2.2.1, (four_off _ (h + 1) _ _ _ _ _ (Nat.ne_of_lt (Nat.lt_succ_self h))).trans HS3.out.2.2.2.1, (four_off _ (h + 1) _ _ _ _ _ HBH.out).trans HS3.out.2.2.2.2⟩) ((go_at_call 16; refine (goes_any 2 _ _ _ os 0 false 5 V.drew HPV.out HMD.out (by simp) (by simp) 3 rfl (by omega) (by omega)).mono ?_; rintro e w4 ⟨v4, rfl, hm4, hb4⟩; have hb5 := (show Below V.heap.size V w4 from (Below.refl V.heap.size V).drew.trans hb4); have HMF := Lib.hid (show Mc w4 (New P V w4) 2 v4 _ _ os from hm4); have HG := Lib.hid (HB.out.on hb5); have HS3 := Lib.hid (show (fun W : World => W.cell? ⟨h, 0, none⟩ = some (.int .i64 2) ∧ W.cell? ⟨h, 1, none⟩ = some (.slice (some ⟨b1, o1, none⟩) 3 c1) ∧ W.cell? ⟨h, 2, none⟩ = some (.slice (some ⟨b2, o2, none⟩) 2 c2) ∧ W.cell? ⟨h, 3, none⟩ = some (.slice A3 os.length c3) ∧ W.cell? ⟨b1, o1 + 1, none⟩ = some (.int .i64 0)) w4 from ⟨HG.out.cells.1, HG.out.cells.2.1, HG.out.cells.2.2.1, HG.out.cells.2.2.2, (hb5.cell (p := ⟨b1, o1 + 1, none⟩) (Nat.lt_of_lt_of_le hb1 HB.out.below.size)).trans HS.out.2.2.2.2⟩); obtain ⟨B1, d1, B2, d2, B3, d3, rfl⟩ := mc_form hm4; obtain ⟨x0, x1, x2, x3⟩ := HG.out.room; obtain ⟨-, -, -, u3, u4, u5, u6⟩ := HG.out.frees; clear hm4 hb4 hb5))
      all_goals
        go_wp2
        obtain ⟨hT, hbel⟩ := HG.out.told0 (.slice B1 3 d1) (.slice B2 2 d2) (.slice B3 os.length d3)
        have hmc := HB.out.mcs HP.out (fun _ hb => hb) HMF.out 2 (.slice B1 3 d1) (.slice B2 2 d2) (.slice B3 os.length d3)
        exact bodyPost_ret (v := .agg #[.int .i64 2, .slice B1 3 d1, .slice B2 2 d2, .slice B3 os.length d3]) (results_cell_row rfl _ _ (h + 1) 27 _ (0, 0) _ rfl hT Tryd.underlying27 rfl (by kernel_rfl)) rfl ⟨_, rfl, hmc, hbel⟩
    · go_upto_region 8 with fail
      have HS := Lib.hid (show (fun W : World => W.cell? ⟨h, 0, none⟩ = some (.int .i64 2) ∧ W.cell? ⟨h, 1, none⟩ = some (.slice (some ⟨b1, o1, none⟩) 3 c1) ∧ W.cell? ⟨h, 2, none⟩ = some (.slice (some ⟨b2, o2, none⟩) 2 c2) ∧ W.cell? ⟨h, 3, none⟩ = some (.slice A3 os.length c3) ∧ W.cell? ⟨b1, o1 + 1, none⟩ = some (.int .i64 1)) V.drew from ⟨y0, y1, y2, y3, m1⟩)
      have HMD := Lib.hid (show Mc V.drew P 2 (.agg #[.int .i64 2, .slice (some ⟨b1, o1, none⟩) 3 c1, .slice (some ⟨b2, o2, none⟩) 2 c2, .slice A3 os.length c3]) [f0, 1, t] [3, a1] os from HMV.out)
      clear y0 y1 y2 y3 l0 l1 m0 m1 m2
      go_region_held3 (fun W => W.cell? ⟨h, 0, none⟩ = some (.int .i64 2) ∧ W.cell? ⟨h, 1, none⟩ = some (.slice (some ⟨b1, o1, none⟩) 3 c1) ∧ W.cell? ⟨h, 2, none⟩ = some (.slice (some ⟨b2, o2, none⟩) 2 c2) ∧ W.cell? ⟨h, 3, none⟩ = some (.slice A3 os.length c3) ∧ W.cell? ⟨b1, o1 + 1, none⟩ = some (.int .i64 1)) (first | exact HS.out | exact HS3.out | exact ⟨(four_off _ (h + 1) _ _ _ _ _ (Nat.ne_of_lt (Nat.lt_succ_self h))).trans HS3.out.1, (four_off _ (h + 1) _ _ _ _ _ (Nat.ne_of_lt (Nat.lt_succ_self h))).trans HS3.out.2.1, (four_off _ (h + 1) _ _ _ _ _ (Nat.ne_of_lt (Nat.lt_succ_self h))).trans HS3.out.2.2.1, (four_off _ (h + 1) _ _ _ _ _ (Nat.ne_of_lt (Nat.lt_succ_self h))).trans HS3.out.2.2.2.1, (four_off _ (h + 1) _ _ _ _ _ HBH.out).trans HS3.out.2.2.2.2⟩) ((go_at_call 16; refine (goes_any 2 _ _ _ os 0 true 5 V.drew HPV.out HMD.out (by simp) (by simp) 3 rfl (by omega) (by omega)).mono ?_; rintro e w4 ⟨v4, rfl, hm4, hb4⟩; have hb5 := (show Below V.heap.size V w4 from (Below.refl V.heap.size V).drew.trans hb4); have HMF := Lib.hid (show Mc w4 (New P V w4) 2 v4 _ _ os from hm4); have HG := Lib.hid (HB.out.on hb5); have HS3 := Lib.hid (show (fun W : World => W.cell? ⟨h, 0, none⟩ = some (.int .i64 2) ∧ W.cell? ⟨h, 1, none⟩ = some (.slice (some ⟨b1, o1, none⟩) 3 c1) ∧ W.cell? ⟨h, 2, none⟩ = some (.slice (some ⟨b2, o2, none⟩) 2 c2) ∧ W.cell? ⟨h, 3, none⟩ = some (.slice A3 os.length c3) ∧ W.cell? ⟨b1, o1 + 1, none⟩ = some (.int .i64 1)) w4 from ⟨HG.out.cells.1, HG.out.cells.2.1, HG.out.cells.2.2.1, HG.out.cells.2.2.2, (hb5.cell (p := ⟨b1, o1 + 1, none⟩) (Nat.lt_of_lt_of_le hb1 HB.out.below.size)).trans HS.out.2.2.2.2⟩); obtain ⟨B1, d1, B2, d2, B3, d3, rfl⟩ := mc_form hm4; obtain ⟨x0, x1, x2, x3⟩ := HG.out.room; obtain ⟨-, -, -, u3, u4, u5, u6⟩ := HG.out.frees; clear hm4 hb4 hb5))
      all_goals
        go_wp2
        obtain ⟨hT, hbel⟩ := HG.out.told0 (.slice B1 3 d1) (.slice B2 2 d2) (.slice B3 os.length d3)
        have hmc := HB.out.mcs HP.out (fun _ hb => hb) HMF.out 2 (.slice B1 3 d1) (.slice B2 2 d2) (.slice B3 os.length d3)
        exact bodyPost_ret (v := .agg #[.int .i64 2, .slice B1 3 d1, .slice B2 2 d2, .slice B3 os.length d3]) (results_cell_row rfl _ _ (h + 1) 27 _ (0, 0) _ rfl hT Tryd.underlying27 rfl (by kernel_rfl)) rfl ⟨_, rfl, hmc, hbel⟩
  · obtain rfl | rfl : t = 0 ∨ t = 1 := by omega
    · go_upto_region 10 with fail
      have HS := Lib.hid (show (fun W : World => W.cell? ⟨h, 0, none⟩ = some (.int .i64 2) ∧ W.cell? ⟨h, 1, none⟩ = some (.slice (some ⟨b1, o1, none⟩) 3 c1) ∧ W.cell? ⟨h, 2, none⟩ = some (.slice (some ⟨b2, o2, none⟩) 2 c2) ∧ W.cell? ⟨h, 3, none⟩ = some (.slice A3 os.length c3) ∧ W.cell? ⟨b1, o1 + 2, none⟩ = some (.int .i64 0)) V.drew from ⟨y0, y1, y2, y3, m2⟩)
      have HMD := Lib.hid (show Mc V.drew P 2 (.agg #[.int .i64 2, .slice (some ⟨b1, o1, none⟩) 3 c1, .slice (some ⟨b2, o2, none⟩) 2 c2, .slice A3 os.length c3]) [f0, f1, 0] [4, a1] os from HMV.out)
      clear y0 y1 y2 y3 l0 l1 m0 m1 m2
      go_region_held3 (fun W => W.cell? ⟨h, 0, none⟩ = some (.int .i64 2) ∧ W.cell? ⟨h, 1, none⟩ = some (.slice (some ⟨b1, o1, none⟩) 3 c1) ∧ W.cell? ⟨h, 2, none⟩ = some (.slice (some ⟨b2, o2, none⟩) 2 c2) ∧ W.cell? ⟨h, 3, none⟩ = some (.slice A3 os.length c3) ∧ W.cell? ⟨b1, o1 + 2, none⟩ = some (.int .i64 0)) (first | exact HS.out | exact HS3.out | exact ⟨(four_off _ (h + 1) _ _ _ _ _ (Nat.ne_of_lt (Nat.lt_succ_self h))).trans HS3.out.1, (four_off _ (h + 1) _ _ _ _ _ (Nat.ne_of_lt (Nat.lt_succ_self h))).trans HS3.out.2.1, (four_off _ (h + 1) _ _ _ _ _ (Nat.ne_of_lt (Nat.lt_succ_self h))).trans HS3.out.2.2.1, (four_off _ (h + 1) _ _ _ _ _ (Nat.ne_of_lt (Nat.lt_succ_self h))).trans HS3.out.2.2.2.1, (four_off _ (h + 1) _ _ _ _ _ HBH.out).trans HS3.out.2.2.2.2⟩) ((go_at_call 16; refine (goes_any 2 _ _ _ os 0 true 3 V.drew HPV.out HMD.out (by simp) (by simp) 4 rfl (by omega) (by omega)).mono ?_; rintro e w4 ⟨v4, rfl, hm4, hb4⟩; have hb5 := (show Below V.heap.size V w4 from (Below.refl V.heap.size V).drew.trans hb4); have HMF := Lib.hid (show Mc w4 (New P V w4) 2 v4 _ _ os from hm4); have HG := Lib.hid (HB.out.on hb5); have HS3 := Lib.hid (show (fun W : World => W.cell? ⟨h, 0, none⟩ = some (.int .i64 2) ∧ W.cell? ⟨h, 1, none⟩ = some (.slice (some ⟨b1, o1, none⟩) 3 c1) ∧ W.cell? ⟨h, 2, none⟩ = some (.slice (some ⟨b2, o2, none⟩) 2 c2) ∧ W.cell? ⟨h, 3, none⟩ = some (.slice A3 os.length c3) ∧ W.cell? ⟨b1, o1 + 2, none⟩ = some (.int .i64 0)) w4 from ⟨HG.out.cells.1, HG.out.cells.2.1, HG.out.cells.2.2.1, HG.out.cells.2.2.2, (hb5.cell (p := ⟨b1, o1 + 2, none⟩) (Nat.lt_of_lt_of_le hb1 HB.out.below.size)).trans HS.out.2.2.2.2⟩); obtain ⟨B1, d1, B2, d2, B3, d3, rfl⟩ := mc_form hm4; obtain ⟨x0, x1, x2, x3⟩ := HG.out.room; obtain ⟨-, -, -, u3, u4, u5, u6⟩ := HG.out.frees; clear hm4 hb4 hb5))
      all_goals
        go_wp2
        obtain ⟨hT, hbel⟩ := HG.out.told0 (.slice B1 3 d1) (.slice B2 2 d2) (.slice B3 os.length d3)
        have hmc := HB.out.mcs HP.out (fun _ hb => hb) HMF.out 2 (.slice B1 3 d1) (.slice B2 2 d2) (.slice B3 os.length d3)
        exact bodyPost_ret (v := .agg #[.int .i64 2, .slice B1 3 d1, .slice B2 2 d2, .slice B3 os.length d3]) (results_cell_row rfl _ _ (h + 1) 27 _ (0, 0) _ rfl hT Tryd.underlying27 rfl (by kernel_rfl)) rfl ⟨_, rfl, hmc, hbel⟩
    · go_upto_region 10 with fail
      have HS := Lib.hid (show (fun W : World => W.cell? ⟨h, 0, none⟩ = some (.int .i64 2) ∧ W.cell? ⟨h, 1, none⟩ = some (.slice (some ⟨b1, o1, none⟩) 3 c1) ∧ W.cell? ⟨h, 2, none⟩ = some (.slice (some ⟨b2, o2, none⟩) 2 c2) ∧ W.cell? ⟨h, 3, none⟩ = some (.slice A3 os.length c3) ∧ W.cell? ⟨b1, o1 + 2, none⟩ = some (.int .i64 1)) V.drew from ⟨y0, y1, y2, y3, m2⟩)
      have HMD := Lib.hid (show Mc V.drew P 2 (.agg #[.int .i64 2, .slice (some ⟨b1, o1, none⟩) 3 c1, .slice (some ⟨b2, o2, none⟩) 2 c2, .slice A3 os.length c3]) [f0, f1, 1] [4, a1] os from HMV.out)
      clear y0 y1 y2 y3 l0 l1 m0 m1 m2
      go_region_held3 (fun W => W.cell? ⟨h, 0, none⟩ = some (.int .i64 2) ∧ W.cell? ⟨h, 1, none⟩ = some (.slice (some ⟨b1, o1, none⟩) 3 c1) ∧ W.cell? ⟨h, 2, none⟩ = some (.slice (some ⟨b2, o2, none⟩) 2 c2) ∧ W.cell? ⟨h, 3, none⟩ = some (.slice A3 os.length c3) ∧ W.cell? ⟨b1, o1 + 2, none⟩ = some (.int .i64 1)) (first | exact HS.out | exact HS3.out | exact ⟨(four_off _ (h + 1) _ _ _ _ _ (Nat.ne_of_lt (Nat.lt_succ_self h))).trans HS3.out.1, (four_off _ (h + 1) _ _ _ _ _ (Nat.ne_of_lt (Nat.lt_succ_self h))).trans HS3.out.2.1, (four_off _ (h + 1) _ _ _ _ _ (Nat.ne_of_lt (Nat.lt_succ_self h))).trans HS3.out.2.2.1, (four_off _ (h + 1) _ _ _ _ _ (Nat.ne_of_lt (Nat.lt_succ_self h))).trans HS3.out.2.2.2.1, (four_off _ (h + 1) _ _ _ _ _ HBH.out).trans HS3.out.2.2.2.2⟩) ((go_at_call 16; refine (goes_any 2 _ _ _ os 0 false 3 V.drew HPV.out HMD.out (by simp) (by simp) 4 rfl (by omega) (by omega)).mono ?_; rintro e w4 ⟨v4, rfl, hm4, hb4⟩; have hb5 := (show Below V.heap.size V w4 from (Below.refl V.heap.size V).drew.trans hb4); have HMF := Lib.hid (show Mc w4 (New P V w4) 2 v4 _ _ os from hm4); have HG := Lib.hid (HB.out.on hb5); have HS3 := Lib.hid (show (fun W : World => W.cell? ⟨h, 0, none⟩ = some (.int .i64 2) ∧ W.cell? ⟨h, 1, none⟩ = some (.slice (some ⟨b1, o1, none⟩) 3 c1) ∧ W.cell? ⟨h, 2, none⟩ = some (.slice (some ⟨b2, o2, none⟩) 2 c2) ∧ W.cell? ⟨h, 3, none⟩ = some (.slice A3 os.length c3) ∧ W.cell? ⟨b1, o1 + 2, none⟩ = some (.int .i64 1)) w4 from ⟨HG.out.cells.1, HG.out.cells.2.1, HG.out.cells.2.2.1, HG.out.cells.2.2.2, (hb5.cell (p := ⟨b1, o1 + 2, none⟩) (Nat.lt_of_lt_of_le hb1 HB.out.below.size)).trans HS.out.2.2.2.2⟩); obtain ⟨B1, d1, B2, d2, B3, d3, rfl⟩ := mc_form hm4; obtain ⟨x0, x1, x2, x3⟩ := HG.out.room; obtain ⟨-, -, -, u3, u4, u5, u6⟩ := HG.out.frees; clear hm4 hb4 hb5))
      all_goals
        go_wp2
        obtain ⟨hT, hbel⟩ := HG.out.told0 (.slice B1 3 d1) (.slice B2 2 d2) (.slice B3 os.length d3)
        have hmc := HB.out.mcs HP.out (fun _ hb => hb) HMF.out 2 (.slice B1 3 d1) (.slice B2 2 d2) (.slice B3 os.length d3)
        exact bodyPost_ret (v := .agg #[.int .i64 2, .slice B1 3 d1, .slice B2 2 d2, .slice B3 os.length d3]) (results_cell_row rfl _ _ (h + 1) 27 _ (0, 0) _ rfl hT Tryd.underlying27 rfl (by kernel_rfl)) rfl ⟨_, rfl, hmc, hbel⟩
  · go_wp2_with (go_at_call 14; refine (to_any 2 _ _ _ os 0 6 V HPV.out HMV.out (by simp) (by simp)).mono ?_; rintro e w4 ⟨v4, rfl, hm4, hb4⟩; have HMF := Lib.hid hm4; have HG := Lib.hid (HB.out.on hb4); have HB4 := Lib.hid hb4; obtain ⟨B1, d1, B2, d2, B3, d3, rfl⟩ := mc_form hm4; obtain ⟨x0, x1, x2, x3⟩ := HG.out.room; obtain ⟨-, -, -, u3, u4, u5, u6⟩ := HG.out.frees; clear hm4 hb4)
    obtain ⟨hT, hbel⟩ := HG.out.told0 (.slice B1 3 d1) (.slice B2 2 d2) (.slice B3 os.length d3)
    have hmc := HB.out.mcs HP.out (fun _ hb => hb) HMF.out 2 (.slice B1 3 d1) (.slice B2 2 d2) (.slice B3 os.length d3)
    exact bodyPost_ret (v := .agg #[.int .i64 2, .slice B1 3 d1, .slice B2 2 d2, .slice B3 os.length d3]) (results_cell_row rfl _ _ (h + 1) 27 _ (0, 0) _ rfl hT Tryd.underlying27 rfl (by kernel_rfl)) rfl ⟨_, rfl, hmc, hbel⟩
  · go_wp2_with (first | (go_at_call 15; refine (word_any 2 _ [f0, f1, t] [6, a1] os 0 0 V HPV.out HMV.out (by simp) (by simp)).mono ?_; rintro e w3 ⟨v3, rfl, hm3, hb3⟩; have HM3 := Lib.hid hm3; have HB3 := Lib.hid hb3; have HP3 := Lib.hid (New.lt HPV.out hb3.size); obtain ⟨A4, c4, A5, c5, A6, c6, rfl⟩ := mc_form hm3; clear hm3 hb3) | (go_at_call 14; refine (to_any 2 _ _ _ os 0 1 w3 HP3.out HM3.out (by simp) (by simp)).mono ?_; rintro e w4 ⟨v4, rfl, hm4, hb4⟩; have HMF := Lib.hid hm4; have HG := Lib.hid (HB.out.on (HB3.out.trans (hb4.mono HB3.out.size))); have HB4 := Lib.hid hb4; obtain ⟨B1, d1, B2, d2, B3, d3, rfl⟩ := mc_form hm4; obtain ⟨x0, x1, x2, x3⟩ := HG.out.room; obtain ⟨-, -, -, u3, u4, u5, u6⟩ := HG.out.frees; clear hm4 hb4))
    obtain ⟨hT, hbel⟩ := HG.out.told0 (.slice B1 3 d1) (.slice B2 2 d2) (.slice B3 os.length d3)
    have hmc := HB.out.mcs HP.out (New.two HB3.out.size HB4.out.size) HMF.out 2 (.slice B1 3 d1) (.slice B2 2 d2) (.slice B3 os.length d3)
    exact bodyPost_ret (v := .agg #[.int .i64 2, .slice B1 3 d1, .slice B2 2 d2, .slice B3 os.length d3]) (results_cell_row rfl _ _ (h + 1) 27 _ (0, 0) _ rfl hT Tryd.underlying27 rfl (by kernel_rfl)) rfl ⟨_, rfl, hmc, hbel⟩
end Go.Proofs.YtjneehfcoljlkaaDoor
