/-
  FifoRow: it is one queue.
-/
import Derived.Test.YtimdhnjkjflbdaaFifLR
import Derived.Test.YtimdhnjkjflbdaaFifLRowA
import Derived.Test.YtimdhnjkjflbdaaFifoFact
import Derived.Test.YtimdhnjkjflbdaaRws
namespace Go.Proofs.Ytimdhnjkjflbdaa.Fif
open Go.RowKit Go.Proofs.Ytimdhnjkjflbdaa.Lin
set_option maxHeartbeats 16000000 in
set_option maxRecDepth 100000 in
theorem row_law (z : Int) (sv : Value) (steps : List (List Int)) (w : World) (hn : Rws w w.heap.size sv steps) :
    Calls Try.prog 4 #[.int .i64 z, sv] w fun e w' => e = .returned (.bool true) ∧ Below w.heap.size w w' := by
  obtain ⟨A, c, rfl, hlen, -⟩ := id hn
  have HN := Lib.hid hn
  clear hn
  have HI := Lib.hid in3_any
  by_cases hz : 1 ≤ z ∧ z ≤ 4
  · obtain ⟨n, rfl⟩ := Int.eq_ofNat_of_zero_le (show 0 ≤ z by omega)
    have h1 : 1 ≤ n := by omega
    have h4 : n ≤ 4 := by omega
    have hn0 : ¬ n = 0 := by omega
    have hmk : ∀ W : World, (Instr.makeSlice 23 (.int .i64 n) (.int .i64 n)).run Try.prog W = .ok (.slice (some ⟨W.heap.size, 0, none⟩) n n) (W.alloc (.cells (madeCells #[.int .i64 0] n) 3)) := make_ints n (by omega)
    clear hz
    go_enter Try.func4, Try.ntmps4
    go_wp2_with (first | (go_at_call 17; refine (fact_any _).mono ?_; rintro e w1 ⟨rfl, hb⟩; have HB := Lib.hid hb; clear hb) | (go_at_call 18; refine (newL HB.out h1 h4).mono ?_; rintro e w2 ⟨g, rfl, hl⟩; have HL := Lib.hid hl; clear hl))
    have HLR := Lib.hid (show LR w (w2.alloc (.cells (madeCells #[.int .i64 0] n) 3)) g n fgnew (fun _ => 0) w2.heap.size (w2.heap.size + 1) (.slice none 0 0) [] (fun _ => 0) from
      ⟨HL.out.made _, wm_new w2 n, HL.out.lt⟩)
    go_loopw [9, 10] (fun hx y wr => ∃ (i : Nat) (s : FG) (vl : Nat → Int) (H : List LO) (mine : Nat → Nat), i ≤ 320 ∧ y = .int .i64 i ∧ LR w wr g n s vl w2.heap.size (w2.heap.size + 1) hx H mine ∧ SQI n s vl H mine i) (fun _ y _ => 320 - (intOf y).toNat)
    case atStart => exact ⟨0, fgnew, _, [], _, by omega, rfl, HLR.out, SQI.new n _ _⟩
    case round =>
      clear HL HLR
      obtain ⟨i, s, vl, H, mine, hi, rfl, hlr, hq⟩ := hrel
      have HLR := Lib.hid hlr
      have HQ := Lib.hid hq
      have h8 := hq.len8
      obtain ⟨XA, xc, rfl, -, -⟩ := hlr.wm.hg.form
      clear hlr hq
      by_cases hlt : i < 320
      · skip
        -- MAIN
        go_upto_region 13 with fail
        obtain ⟨wo, hwo⟩ : ∃ wo, wo = wr.alloc (.cells #[.int .i64 ((i : Int) % (n : Int))] 3) := ⟨_, rfl⟩
        rw [← hwo]
        have HLO := Lib.hid (show LR w wo g n s vl w2.heap.size (w2.heap.size + 1) (.slice XA H.length xc) H mine from hwo ▸ HLR.out.below ((Below.refl _ wr).alloc (Nat.le_refl _) _))
        have hown : wo.cell? ⟨wr.heap.size, 0, none⟩ = some (.int .i64 ((i % n : Nat) : Int)) := by rw [hwo]; simp
        have hob := HLR.out.wm.bs
        have hgm := HLR.out.gm
        clear hwo
        by_cases hs : i < steps.length ∧ i < 200
        · have d1 : decide ((i : Int) < (steps.length : Int)) = true := decide_eq_true (by omega)
          have d2 : decide ((i : Int) < 200) = true := decide_eq_true (by omega)
          obtain ⟨hs1, hi2⟩ := hs
          obtain ⟨l, hx⟩ : ∃ l, steps[i]? = some l := ⟨steps[i], List.getElem?_eq_getElem hs1⟩
          obtain ⟨b, o, rfl, A', c', hxc, hnl⟩ := (HN.out.below HLO.out.lk.below (Nat.le_refl _)).at_ hx
          clear hx
          rcases row_case l with ⟨x, y, rfl⟩ | ⟨x, rfl⟩ | ⟨hl2, hl1⟩
          · obtain ⟨b1, o1, rfl, hbw, hc0⟩ := hnl.at_ (k := 0) rfl
            rw [Nat.add_zero] at hc0
            obtain ⟨b2, o2, e2, _, hc1⟩ := hnl.at_ (k := 1) rfl
            injection e2 with e2
            injection e2 with e2 e3 _
            subst e2 e3
            have hxc : wo.cell? ⟨b, o + i, none⟩ = some (.slice (some ⟨b1, o1, none⟩) 2 c') := hxc
            have hbs : b1 < wo.heap.size := lt_of_cell hc0
            have hbg : b1 ≠ g := by have := HLO.out.lk.new; omega
            clear hnl
            by_cases h7 : H.length < 8
            · have d7 : decide ((H.length : Int) < 8) = true := decide_eq_true (by omega)
              have d7' : decide (H.length < 8) = true := decide_eq_true h7
              by_cases hxp : 0 ≤ x ∧ x ≤ (n : Int) - 1
              · have hin : inR x 0 ((n : Int) - 1) = true := inR_true.2 hxp
                obtain ⟨p, rfl⟩ := Int.eq_ofNat_of_zero_le hxp.1
                have hp : p < n := by omega
                clear hxp
                by_cases hyp : -1 ≤ y ∧ y ≤ 1000
                · have hiy : inR y (-1) 1000 = true := inR_true.2 hyp
                  by_cases hy : y < 0
                  · have dy : decide (y < 0) = true := decide_eq_true hy
                    go_wp2_with (go_at_call 12; (with_reducible refine (HI.out _ _ _ _).mono ?_); rintro e w5 ⟨rfl, rfl⟩)
                    go_region
                    all_goals go_upto_region 21 with fail
                    obtain ⟨wq, hwq⟩ : ∃ wq, wq = (wo.alloc (.cells #[.int .i64 (p : Int), .int .i64 1, .int .i64 0, .int .i64 0, .int .i64 (2 * (i : Int)), .int .i64 0] 34)).drew := ⟨_, rfl⟩
                    rw [← hwq]
                    have hbl := below_drewN ((Below.refl wo.heap.size wo).alloc (Nat.le_refl _) (.cells #[.int .i64 (p : Int), .int .i64 1, .int .i64 0, .int .i64 0, .int .i64 (2 * (i : Int)), .int .i64 0] 34)) 1
                    have HLQ := Lib.hid (show LR w wq g n s vl w2.heap.size (w2.heap.size + 1) (.slice XA H.length xc) H mine from hwq ▸ HLO.out.below hbl)
                    have hblq : Below wo.heap.size wo wq := hwq ▸ hbl
                    have hc0q := (hblq.cell (p := ⟨b1, o1, none⟩) hbs).trans hc0
                    have hc1q := (hblq.cell (p := ⟨b1, o1 + 1, none⟩) hbs).trans hc1
                    have x0 : wq.cell? ⟨wo.heap.size, 0, none⟩ = some (.int .i64 (p : Int)) := by rw [hwq]; show (wo.alloc _).cell? _ = _; simp
                    have x1 : wq.cell? ⟨wo.heap.size, 1, none⟩ = some (.int .i64 1) := by rw [hwq]; show (wo.alloc _).cell? _ = _; simp
                    have x2 : wq.cell? ⟨wo.heap.size, 2, none⟩ = some (.int .i64 0) := by rw [hwq]; show (wo.alloc _).cell? _ = _; simp
                    have x3 : wq.cell? ⟨wo.heap.size, 3, none⟩ = some (.int .i64 0) := by rw [hwq]; show (wo.alloc _).cell? _ = _; simp
                    have x4 : wq.cell? ⟨wo.heap.size, 4, none⟩ = some (.int .i64 (2 * (i : Int))) := by rw [hwq]; show (wo.alloc _).cell? _ = _; simp
                    have x5 : wq.cell? ⟨wo.heap.size, 5, none⟩ = some (.int .i64 0) := by rw [hwq]; show (wo.alloc _).cell? _ = _; simp
                    have hbq : b1 < wq.heap.size := lt_of_cell hc0q
                    have hxq : wo.heap.size < wq.heap.size := lt_of_cell x0
                    have hmo := HLO.out.wm.bs
                    have hxg : wo.heap.size ≠ g := by omega
                    have hxm : wo.heap.size ≠ w2.heap.size := by omega
                    have hxm' : w2.heap.size ≠ wo.heap.size := by omega
                    have hbm : b1 ≠ w2.heap.size := by have h5 := HLO.out.lk.new; omega
                    have hbm' : w2.heap.size ≠ b1 := fun e => hbm e.symm
                    clear hwq hbl hblq hown hc0 hc1
                    have HP := Lib.hid (getL HLQ.out.lk (p : Int) y hy)
                    by_cases he : sBegE n s (p : Int) y = 0
                    · have HQ' := Lib.hid (HQ.out.beg hi2 h7 (by omega) he)
                      rw [show qop (p : Int) y i = (⟨(p : Int), 1, 0, 0, 2 * (i : Int), 0⟩ : LO) from if_pos (show y < 0 by omega), show ((p : Int)).toNat = p from rfl] at HQ'
                      rw [he, errV_zero] at HP
                      clear he
                      go_wp2_with (first | (go_at_call 19; (with_reducible refine HP.out.mono ?_); rintro e w4 ⟨rfl, hl4, ht4⟩; have HL4 := Lib.hid (HLQ.out.obj hl4 ht4); have hc4 := (ht4.cell (p := ⟨b1, o1, none⟩) hbq hbg).trans hc0q; have y0 := (ht4.cell (p := ⟨wo.heap.size, 0, none⟩) hxq hxg).trans x0; have y1 := (ht4.cell (p := ⟨wo.heap.size, 1, none⟩) hxq hxg).trans x1; have y2 := (ht4.cell (p := ⟨wo.heap.size, 2, none⟩) hxq hxg).trans x2; have y3 := (ht4.cell (p := ⟨wo.heap.size, 3, none⟩) hxq hxg).trans x3; have y4 := (ht4.cell (p := ⟨wo.heap.size, 4, none⟩) hxq hxg).trans x4; have y5 := (ht4.cell (p := ⟨wo.heap.size, 5, none⟩) hxq hxg).trans x5; have hmc := HL4.out.wm.mc p hp; have hmf := HL4.out.wm.mf p; have HL5 := Lib.hid (HL4.out.mput p H.length); have HS5 := Lib.hid (show w2.heap.size + 1 ≤ (w4.setCell ⟨w2.heap.size, p, none⟩ (.int .i64 (H.length : Int))).heap.size from HL5.out.wm.bs); clear hl4 ht4) | (at_builtin; refine wpList_append_op2 (w4.setCell ⟨w2.heap.size, p, none⟩ (.int .i64 (H.length : Int))) rfl (.tmp 118) (.tmp 120) rfl (w2.heap.size + 1) (.slice XA H.length xc) H rfl w4.heap.size (size_put _ _ _) rfl (⟨(p : Int), 1, 0, 0, 2 * (i : Int), 0⟩ : LO) HL5.out.wm.hg (by omega) HS5.out ?_; intro q cap w6 hg6 ht6; have HG6 := Lib.hid hg6; have HT6 := Lib.hid ht6; clear hg6 ht6))
                      go_roundw
                      case rel => exact ⟨i + 1, _, _, H ++ [(⟨(p : Int), 1, 0, 0, 2 * (i : Int), 0⟩ : LO)], _, by omega, by go_num, HL5.out.app HG6.out HT6.out, HQ'.out⟩
                      case measure => simp [intOf]; omega
                    · have hsS : sBegS n s (p : Int) y = s ∧ sBegV n s vl (p : Int) y = vl := ⟨by unfold sBegS; rw [if_neg he], by unfold sBegV; rw [if_neg he]⟩
                      rw [hsS.1, hsS.2] at HP
                      rcases (sBeg_err : sBegE n s (p : Int) y = 0 ∨ sBegE n s (p : Int) y = 1 ∨ sBegE n s (p : Int) y = 7 ∨ sBegE n s (p : Int) y = 4) with e9 | e9 | e9 | e9
                      · exact absurd e9 he
                      all_goals
                        rw [e9] at HP
                        first | rw [errV_one] at HP | rw [errV_seven] at HP | rw [errV_four] at HP
                        clear he e9
                        go_wp2_with (go_at_call 19; (with_reducible refine HP.out.mono ?_); rintro e w4 ⟨rfl, hl4, ht4⟩; have HL4 := Lib.hid (HLQ.out.obj hl4 ht4); clear hl4 ht4)
                        go_roundw
                        case rel => exact ⟨i + 1, s, vl, H, mine, by omega, by go_num, HL4.out, HQ.out.skip hi2⟩
                        case measure => simp [intOf]; omega
                  · have dy : decide (y < 0) = false := decide_eq_false hy
                    go_wp2_with (go_at_call 12; (with_reducible refine (HI.out _ _ _ _).mono ?_); rintro e w5 ⟨rfl, rfl⟩)
                    go_region
                    all_goals go_wp2_with fail
                    obtain ⟨wq, hwq⟩ : ∃ wq, wq = (wo.alloc (.cells #[.int .i64 (p : Int), .int .i64 0, .int .i64 y, .int .i64 0, .int .i64 (2 * (i : Int)), .int .i64 0] 34)).drew := ⟨_, rfl⟩
                    rw [← hwq]
                    have hbl := below_drewN ((Below.refl wo.heap.size wo).alloc (Nat.le_refl _) (.cells #[.int .i64 (p : Int), .int .i64 0, .int .i64 y, .int .i64 0, .int .i64 (2 * (i : Int)), .int .i64 0] 34)) 1
                    have HLQ := Lib.hid (show LR w wq g n s vl w2.heap.size (w2.heap.size + 1) (.slice XA H.length xc) H mine from hwq ▸ HLO.out.below hbl)
                    have hblq : Below wo.heap.size wo wq := hwq ▸ hbl
                    have hc0q := (hblq.cell (p := ⟨b1, o1, none⟩) hbs).trans hc0
                    have hc1q := (hblq.cell (p := ⟨b1, o1 + 1, none⟩) hbs).trans hc1
                    have x0 : wq.cell? ⟨wo.heap.size, 0, none⟩ = some (.int .i64 (p : Int)) := by rw [hwq]; show (wo.alloc _).cell? _ = _; simp
                    have x1 : wq.cell? ⟨wo.heap.size, 1, none⟩ = some (.int .i64 0) := by rw [hwq]; show (wo.alloc _).cell? _ = _; simp
                    have x2 : wq.cell? ⟨wo.heap.size, 2, none⟩ = some (.int .i64 y) := by rw [hwq]; show (wo.alloc _).cell? _ = _; simp
                    have x3 : wq.cell? ⟨wo.heap.size, 3, none⟩ = some (.int .i64 0) := by rw [hwq]; show (wo.alloc _).cell? _ = _; simp
                    have x4 : wq.cell? ⟨wo.heap.size, 4, none⟩ = some (.int .i64 (2 * (i : Int))) := by rw [hwq]; show (wo.alloc _).cell? _ = _; simp
                    have x5 : wq.cell? ⟨wo.heap.size, 5, none⟩ = some (.int .i64 0) := by rw [hwq]; show (wo.alloc _).cell? _ = _; simp
                    have hbq : b1 < wq.heap.size := lt_of_cell hc0q
                    have hxq : wo.heap.size < wq.heap.size := lt_of_cell x0
                    have hmo := HLO.out.wm.bs
                    have hxg : wo.heap.size ≠ g := by omega
                    have hxm : wo.heap.size ≠ w2.heap.size := by omega
                    have hxm' : w2.heap.size ≠ wo.heap.size := by omega
                    have hbm : b1 ≠ w2.heap.size := by have h5 := HLO.out.lk.new; omega
                    have hbm' : w2.heap.size ≠ b1 := fun e => hbm e.symm
                    clear hwq hbl hblq hown hc0 hc1
                    have HLQ0 := HLQ
                    have HLQ := Lib.hid (show LR w wq.drew g n s vl w2.heap.size (w2.heap.size + 1) (.slice XA H.length xc) H mine from HLQ0.out.below (below_drewN (Below.refl _ wq) 1))
                    have HP := Lib.hid (putL HLQ.out.lk (p : Int) y (by omega) (by omega))
                    by_cases he : sBegE n s (p : Int) y = 0
                    · have HQ' := Lib.hid (HQ.out.beg hi2 h7 (by omega) he)
                      rw [show qop (p : Int) y i = (⟨(p : Int), 0, y, 0, 2 * (i : Int), 0⟩ : LO) from if_neg (show ¬ y < 0 by omega), show ((p : Int)).toNat = p from rfl] at HQ'
                      rw [he, errV_zero] at HP
                      clear he
                      go_region_with (go_at_call 20; (with_reducible refine HP.out.mono ?_); rintro e w4 ⟨rfl, hl4, ht4⟩; have HL4 := Lib.hid (HLQ.out.obj hl4 ht4); have hc4 := (ht4.cell (p := ⟨b1, o1, none⟩) hbq hbg).trans hc0q; have y0 := (ht4.cell (p := ⟨wo.heap.size, 0, none⟩) hxq hxg).trans x0; have y1 := (ht4.cell (p := ⟨wo.heap.size, 1, none⟩) hxq hxg).trans x1; have y2 := (ht4.cell (p := ⟨wo.heap.size, 2, none⟩) hxq hxg).trans x2; have y3 := (ht4.cell (p := ⟨wo.heap.size, 3, none⟩) hxq hxg).trans x3; have y4 := (ht4.cell (p := ⟨wo.heap.size, 4, none⟩) hxq hxg).trans x4; have y5 := (ht4.cell (p := ⟨wo.heap.size, 5, none⟩) hxq hxg).trans x5; have hmc := HL4.out.wm.mc p hp; have hmf := HL4.out.wm.mf p; have HL5 := Lib.hid (HL4.out.mput p H.length); have HS5 := Lib.hid (show w2.heap.size + 1 ≤ (w4.setCell ⟨w2.heap.size, p, none⟩ (.int .i64 (H.length : Int))).heap.size from HL5.out.wm.bs); clear hl4 ht4)
                      all_goals
                        go_wp2_with (at_builtin; refine wpList_append_op2 (w4.setCell ⟨w2.heap.size, p, none⟩ (.int .i64 (H.length : Int))) rfl (.tmp 118) (.tmp 120) rfl (w2.heap.size + 1) (.slice XA H.length xc) H rfl w4.heap.size (size_put _ _ _) rfl (⟨(p : Int), 0, y, 0, 2 * (i : Int), 0⟩ : LO) HL5.out.wm.hg (by omega) HS5.out ?_; intro q cap w6 hg6 ht6; have HG6 := Lib.hid hg6; have HT6 := Lib.hid ht6; clear hg6 ht6)
                        go_roundw
                        case rel => exact ⟨i + 1, _, _, H ++ [(⟨(p : Int), 0, y, 0, 2 * (i : Int), 0⟩ : LO)], _, by omega, by go_num, HL5.out.app HG6.out HT6.out, HQ'.out⟩
                        case measure => simp [intOf]; omega
                    · have hsS : sBegS n s (p : Int) y = s ∧ sBegV n s vl (p : Int) y = vl := ⟨by unfold sBegS; rw [if_neg he], by unfold sBegV; rw [if_neg he]⟩
                      rw [hsS.1, hsS.2] at HP
                      rcases (sBeg_err : sBegE n s (p : Int) y = 0 ∨ sBegE n s (p : Int) y = 1 ∨ sBegE n s (p : Int) y = 7 ∨ sBegE n s (p : Int) y = 4) with e9 | e9 | e9 | e9
                      · exact absurd e9 he
                      all_goals
                        rw [e9] at HP
                        first | rw [errV_one] at HP | rw [errV_seven] at HP | rw [errV_four] at HP
                        clear he e9
                        go_region_with (go_at_call 20; (with_reducible refine HP.out.mono ?_); rintro e w4 ⟨rfl, hl4, ht4⟩; have HL4 := Lib.hid (HLQ.out.obj hl4 ht4); clear hl4 ht4)
                        all_goals
                          go_wp2
                          go_roundw
                          case rel => exact ⟨i + 1, s, vl, H, mine, by omega, by go_num, HL4.out, HQ.out.skip hi2⟩
                          case measure => simp [intOf]; omega
                · have hiy : inR y (-1) 1000 = false := inR_false.2 hyp
                  clear hyp
                  go_wp2_with (go_at_call 12; (with_reducible refine (HI.out _ _ _ _).mono ?_); rintro e w5 ⟨rfl, rfl⟩)
                  go_roundw
                  case rel => exact ⟨i + 1, s, vl, H, mine, by omega, by go_num, HLO.out, HQ.out.skip hi2⟩
                  case measure => simp [intOf]; omega
              · have hin : inR x 0 ((n : Int) - 1) = false := inR_false.2 hxp
                clear hxp
                go_wp2_with (go_at_call 12; (with_reducible refine (HI.out _ _ _ _).mono ?_); rintro e w5 ⟨rfl, rfl⟩)
                go_roundw
                case rel => exact ⟨i + 1, s, vl, H, mine, by omega, by go_num, HLO.out, HQ.out.skip hi2⟩
                case measure => simp [intOf]; omega
            · have d7 : decide ((H.length : Int) < 8) = false := decide_eq_false (by omega)
              have d7' : decide (H.length < 8) = false := decide_eq_false h7
              go_wp2_with (go_at_call 12; (with_reducible refine (HI.out _ _ _ _).mono ?_); rintro e w5 ⟨rfl, rfl⟩)
              go_roundw
              case rel => exact ⟨i + 1, s, vl, H, mine, by omega, by go_num, HLO.out, HQ.out.skip hi2⟩
              case measure => simp [intOf]; omega
          · obtain ⟨b1, o1, rfl, hbw, hc0⟩ := hnl.at_ (k := 0) rfl
            rw [Nat.add_zero] at hc0
            have hxc : wo.cell? ⟨b, o + i, none⟩ = some (.slice (some ⟨b1, o1, none⟩) 1 c') := hxc
            clear hnl
            by_cases hxp : 0 ≤ x ∧ x ≤ (n : Int) - 1
            · obtain ⟨p, rfl⟩ := Int.eq_ofNat_of_zero_le hxp.1
              have hp : p < n := by omega
              have HIP := Lib.hid (show i < 200 ∨ p = i % n from Or.inl hi2)
              have hbs : b1 < wo.heap.size := lt_of_cell hc0
              have hbg : b1 ≠ g := by have := HLO.out.lk.new; omega
              have HX := Lib.hid (fun w' (ht : Touch (fun k => k = g) wo w') => (show w'.cell? ⟨b1, o1, none⟩ = some (.int .i64 (p : Int)) from (ht.cell (p := ⟨b1, o1, none⟩) hbs hbg).trans hc0))
              clear hxp
              have HS := Lib.hid (stepL HLO.out.lk (p : Int))
              obtain ⟨hA, hB⟩ := HQ.out.step h1 h4 hp HIP.out
              have HSE := Lib.hid (show sStpD n s p = true → sStpE n s p = 0 from fun e => by
                unfold sStpD at e
                split at e
                · assumption
                · cases e)
              have HERR := Lib.hid (sStp_err (n := n) (s := s) (p := (p : Int)))
              obtain ⟨D, hD⟩ : ∃ D, D = sStpD n s p := ⟨_, rfl⟩
              obtain ⟨G, hG⟩ : ∃ G, G = sStpG n s vl p := ⟨_, rfl⟩
              rw [← hD] at hA hB HS HSE
              rw [← hG] at hA HS
              have hin : inR (p : Int) 0 ((n : Int) - 1) = true := inR_true.2 (by omega)
              clear hD hG
              cases D with
              | true =>
                rw [HSE.out rfl, errV_zero] at HS
                obtain ⟨hm, hq'⟩ := hA rfl
                have HQ' := Lib.hid hq'
                obtain ⟨m, hmm⟩ : ∃ m, m = mine p := ⟨_, rfl⟩
                rw [← hmm] at hm HQ'
                have HMM := Lib.hid hmm
                clear hA hB hq' hmm
                obtain ⟨A6, c6, e6, -, hf6⟩ := HLO.out.wm.hg.form
                obtain ⟨hb, rfl, -, -⟩ := hf6 (by omega)
                injection e6 with e7 e8 e9
                subst e7
                have dm : decide ((H.length : Int) ≤ (m : Int)) = false := decide_eq_false (by omega)
                have dm' : decide (H.length ≤ m) = false := decide_eq_false (by omega)
                have hbl := HLO.out.wm.hg.lt (k := hb) rfl
                have n1 : hb ≠ w2.heap.size := by omega
                have n2 : w2.heap.size ≠ hb := by omega
                have n3 : b1 ≠ hb := by have h1 := HLO.out.lk.new; have h2 := HLO.out.gm; have h3 := HLR.out.wm.hg.lt (k := hb) rfl; omega
                have n4 : hb ≠ b1 := fun e => n3 e.symm
                clear e8 e9 hf6
                go_wp2_with (first | (go_at_call 12; (with_reducible refine (HI.out _ _ _ _).mono ?_); rintro e w5 ⟨rfl, rfl⟩) | (go_at_call 21; (with_reducible refine HS.out.mono ?_); rintro e w4 ⟨rfl, hl4, ht4⟩; have HL4 := Lib.hid (HLO.out.obj hl4 ht4); have hc4 := HX.out w4 ht4; have hmc := HL4.out.wm.mc p hp; rw [← show m = mine p from HMM.out] at hmc; have q3 := HL4.out.wm.hg.cell rfl hm (k := 3) rfl; have q5 := HL4.out.wm.hg.cell rfl hm (k := 5) rfl; have f3 := HL4.out.wm.hg.free rfl (m * 6 + 3); have f5 := HL4.out.wm.hg.free rfl (m * 6 + 5); clear hl4 ht4))
                go_roundw
                case rel => exact ⟨i + 1, _, vl, _, mine, by omega, by go_num, HL4.out.got hm, HQ'.out⟩
                case measure => simp [intOf]; omega
              | false =>
                have HQ' := Lib.hid (hB rfl)
                clear hA hB
                rcases HERR.out with he | he | he
                all_goals
                  rw [he] at HS
                  first | rw [errV_zero] at HS | rw [errV_one] at HS | rw [errV_seven] at HS
                  clear he
                  go_wp2_with (first | (go_at_call 12; (with_reducible refine (HI.out _ _ _ _).mono ?_); rintro e w5 ⟨rfl, rfl⟩) | (go_at_call 21; (with_reducible refine HS.out.mono ?_); rintro e w4 ⟨rfl, hl4, ht4⟩; have HL4 := Lib.hid (HLO.out.obj hl4 ht4); clear hl4 ht4))
                  go_roundw
                  case rel => exact ⟨i + 1, _, vl, H, mine, by omega, by go_num, HL4.out, HQ'.out⟩
                  case measure => simp [intOf]; omega
            · have hin : inR x 0 ((n : Int) - 1) = false := inR_false.2 hxp
              clear hxp
              go_wp2_with (go_at_call 12; (with_reducible refine (HI.out _ _ _ _).mono ?_); rintro e w5 ⟨rfl, rfl⟩)
              go_roundw
              case rel => exact ⟨i + 1, s, vl, H, mine, by omega, by go_num, HLO.out, HQ.out.skip hi2⟩
              case measure => simp [intOf]; omega
          · have g2 : ((l.length : Int) == 2) = false := beq_eq_false_iff_ne.2 (by omega)
            have g1 : ((l.length : Int) == 1) = false := beq_eq_false_iff_ne.2 (by omega)
            clear hnl
            go_wp2
            go_roundw
            case rel => exact ⟨i + 1, s, vl, H, mine, by omega, by go_num, HLO.out, HQ.out.skip hi2⟩
            case measure => simp [intOf]; omega
        · have HIP := Lib.hid (show i < 200 ∨ i % n = i % n from Or.inr rfl)
          obtain ⟨p, hpe⟩ : ∃ p, p = i % n := ⟨_, rfl⟩
          rw [← hpe] at hown
          have hp : p < n := by rw [hpe]; exact Nat.mod_lt _ (by omega)
          have HIP := Lib.hid (show i < 200 ∨ p = i % n from Or.inr hpe)
          have hbs : wr.heap.size < wo.heap.size := lt_of_cell hown
          have hbg : wr.heap.size ≠ g := by omega
          have HX := Lib.hid (fun w' (ht : Touch (fun k => k = g) wo w') => (show w'.cell? ⟨wr.heap.size, 0, none⟩ = some (.int .i64 (p : Int)) from (ht.cell (p := ⟨wr.heap.size, 0, none⟩) hbs hbg).trans hown))
          clear hpe
          by_cases hi2 : i < steps.length
          · have hj : ¬ i < 200 := fun e => hs ⟨hi2, e⟩
            have d1 : decide ((i : Int) < (steps.length : Int)) = true := decide_eq_true (by omega)
            have d1' : decide (i < steps.length) = true := decide_eq_true (by omega)
            have d2 : decide ((i : Int) < 200) = false := decide_eq_false (by omega)
            clear hs
            have HS := Lib.hid (stepL HLO.out.lk (p : Int))
            obtain ⟨hA, hB⟩ := HQ.out.step h1 h4 hp HIP.out
            have HSE := Lib.hid (show sStpD n s p = true → sStpE n s p = 0 from fun e => by
              unfold sStpD at e
              split at e
              · assumption
              · cases e)
            have HERR := Lib.hid (sStp_err (n := n) (s := s) (p := (p : Int)))
            obtain ⟨D, hD⟩ : ∃ D, D = sStpD n s p := ⟨_, rfl⟩
            obtain ⟨G, hG⟩ : ∃ G, G = sStpG n s vl p := ⟨_, rfl⟩
            rw [← hD] at hA hB HS HSE
            rw [← hG] at hA HS
            have hin : inR (p : Int) 0 ((n : Int) - 1) = true := inR_true.2 (by omega)
            clear hD hG
            cases D with
            | true =>
              rw [HSE.out rfl, errV_zero] at HS
              obtain ⟨hm, hq'⟩ := hA rfl
              have HQ' := Lib.hid hq'
              obtain ⟨m, hmm⟩ : ∃ m, m = mine p := ⟨_, rfl⟩
              rw [← hmm] at hm HQ'
              have HMM := Lib.hid hmm
              clear hA hB hq' hmm
              obtain ⟨A6, c6, e6, -, hf6⟩ := HLO.out.wm.hg.form
              obtain ⟨hb, rfl, -, -⟩ := hf6 (by omega)
              injection e6 with e7 e8 e9
              subst e7
              have dm : decide ((H.length : Int) ≤ (m : Int)) = false := decide_eq_false (by omega)
              have dm' : decide (H.length ≤ m) = false := decide_eq_false (by omega)
              have hbl := HLO.out.wm.hg.lt (k := hb) rfl
              have n1 : hb ≠ w2.heap.size := by omega
              have n2 : w2.heap.size ≠ hb := by omega
              have n3 : wr.heap.size ≠ hb := by have h1 := HLO.out.lk.new; have h2 := HLO.out.gm; have h3 := HLR.out.wm.hg.lt (k := hb) rfl; omega
              have n4 : hb ≠ wr.heap.size := fun e => n3 e.symm
              clear e8 e9 hf6
              go_wp2_with (first | (go_at_call 12; (with_reducible refine (HI.out _ _ _ _).mono ?_); rintro e w5 ⟨rfl, rfl⟩) | (go_at_call 21; (with_reducible refine HS.out.mono ?_); rintro e w4 ⟨rfl, hl4, ht4⟩; have HL4 := Lib.hid (HLO.out.obj hl4 ht4); have hc4 := HX.out w4 ht4; have hmc := HL4.out.wm.mc p hp; rw [← show m = mine p from HMM.out] at hmc; have q3 := HL4.out.wm.hg.cell rfl hm (k := 3) rfl; have q5 := HL4.out.wm.hg.cell rfl hm (k := 5) rfl; have f3 := HL4.out.wm.hg.free rfl (m * 6 + 3); have f5 := HL4.out.wm.hg.free rfl (m * 6 + 5); clear hl4 ht4))
              go_roundw
              case rel => exact ⟨i + 1, _, vl, _, mine, by omega, by go_num, HL4.out.got hm, HQ'.out⟩
              case measure => simp [intOf]; omega
            | false =>
              have HQ' := Lib.hid (hB rfl)
              clear hA hB
              rcases HERR.out with he | he | he
              all_goals
                rw [he] at HS
                first | rw [errV_zero] at HS | rw [errV_one] at HS | rw [errV_seven] at HS
                clear he
                go_wp2_with (first | (go_at_call 12; (with_reducible refine (HI.out _ _ _ _).mono ?_); rintro e w5 ⟨rfl, rfl⟩) | (go_at_call 21; (with_reducible refine HS.out.mono ?_); rintro e w4 ⟨rfl, hl4, ht4⟩; have HL4 := Lib.hid (HLO.out.obj hl4 ht4); clear hl4 ht4))
                go_roundw
                case rel => exact ⟨i + 1, _, vl, H, mine, by omega, by go_num, HL4.out, HQ'.out⟩
                case measure => simp [intOf]; omega
          · have d1 : decide ((i : Int) < (steps.length : Int)) = false := decide_eq_false (by omega)
            have d1' : decide (i < steps.length) = false := decide_eq_false (by omega)
            clear hs
            have HS := Lib.hid (stepL HLO.out.lk (p : Int))
            obtain ⟨hA, hB⟩ := HQ.out.step h1 h4 hp HIP.out
            have HSE := Lib.hid (show sStpD n s p = true → sStpE n s p = 0 from fun e => by
              unfold sStpD at e
              split at e
              · assumption
              · cases e)
            have HERR := Lib.hid (sStp_err (n := n) (s := s) (p := (p : Int)))
            obtain ⟨D, hD⟩ : ∃ D, D = sStpD n s p := ⟨_, rfl⟩
            obtain ⟨G, hG⟩ : ∃ G, G = sStpG n s vl p := ⟨_, rfl⟩
            rw [← hD] at hA hB HS HSE
            rw [← hG] at hA HS
            have hin : inR (p : Int) 0 ((n : Int) - 1) = true := inR_true.2 (by omega)
            clear hD hG
            cases D with
            | true =>
              rw [HSE.out rfl, errV_zero] at HS
              obtain ⟨hm, hq'⟩ := hA rfl
              have HQ' := Lib.hid hq'
              obtain ⟨m, hmm⟩ : ∃ m, m = mine p := ⟨_, rfl⟩
              rw [← hmm] at hm HQ'
              have HMM := Lib.hid hmm
              clear hA hB hq' hmm
              obtain ⟨A6, c6, e6, -, hf6⟩ := HLO.out.wm.hg.form
              obtain ⟨hb, rfl, -, -⟩ := hf6 (by omega)
              injection e6 with e7 e8 e9
              subst e7
              have dm : decide ((H.length : Int) ≤ (m : Int)) = false := decide_eq_false (by omega)
              have dm' : decide (H.length ≤ m) = false := decide_eq_false (by omega)
              have hbl := HLO.out.wm.hg.lt (k := hb) rfl
              have n1 : hb ≠ w2.heap.size := by omega
              have n2 : w2.heap.size ≠ hb := by omega
              have n3 : wr.heap.size ≠ hb := by have h1 := HLO.out.lk.new; have h2 := HLO.out.gm; have h3 := HLR.out.wm.hg.lt (k := hb) rfl; omega
              have n4 : hb ≠ wr.heap.size := fun e => n3 e.symm
              clear e8 e9 hf6
              go_wp2_with (first | (go_at_call 12; (with_reducible refine (HI.out _ _ _ _).mono ?_); rintro e w5 ⟨rfl, rfl⟩) | (go_at_call 21; (with_reducible refine HS.out.mono ?_); rintro e w4 ⟨rfl, hl4, ht4⟩; have HL4 := Lib.hid (HLO.out.obj hl4 ht4); have hc4 := HX.out w4 ht4; have hmc := HL4.out.wm.mc p hp; rw [← show m = mine p from HMM.out] at hmc; have q3 := HL4.out.wm.hg.cell rfl hm (k := 3) rfl; have q5 := HL4.out.wm.hg.cell rfl hm (k := 5) rfl; have f3 := HL4.out.wm.hg.free rfl (m * 6 + 3); have f5 := HL4.out.wm.hg.free rfl (m * 6 + 5); clear hl4 ht4))
              go_roundw
              case rel => exact ⟨i + 1, _, vl, _, mine, by omega, by go_num, HL4.out.got hm, HQ'.out⟩
              case measure => simp [intOf]; omega
            | false =>
              have HQ' := Lib.hid (hB rfl)
              clear hA hB
              rcases HERR.out with he | he | he
              all_goals
                rw [he] at HS
                first | rw [errV_zero] at HS | rw [errV_one] at HS | rw [errV_seven] at HS
                clear he
                go_wp2_with (first | (go_at_call 12; (with_reducible refine (HI.out _ _ _ _).mono ?_); rintro e w5 ⟨rfl, rfl⟩) | (go_at_call 21; (with_reducible refine HS.out.mono ?_); rintro e w4 ⟨rfl, hl4, ht4⟩; have HL4 := Lib.hid (HLO.out.obj hl4 ht4); clear hl4 ht4))
                go_roundw
                case rel => exact ⟨i + 1, _, vl, H, mine, by omega, by go_num, HL4.out, HQ'.out⟩
                case measure => simp [intOf]; omega
        -- END
      · obtain rfl : i = 320 := by omega
        obtain ⟨hf, hL⟩ := HQ.out.all h1 h4
        have HR := Lib.hid (row3_any 2 H hf hL _ wr HLR.out.wm.hg.ops)
        rw [show ((2 : Nat) : Int) = 2 from rfl] at HR
        clear hf hL
        go_wp2_with (go_at_call 16; (with_reducible refine HR.out.mono ?_); rintro e w9 ⟨rfl, hb9⟩; have HB9 := Lib.hid (HLR.out.lk.below.trans (hb9.mono HLR.out.lk.below.size)); clear hb9)
        go_ret
        exact ⟨rfl, HB9.out⟩
  · have HNB := Lib.hid (fun (W : World) (hb : Below w.heap.size w W) => newBad hb z hz)
    have hh : z < 1 ∨ ¬ z < 1 ∧ 4 < z := by omega
    clear hz
    rcases hh with d1 | ⟨d1, d2⟩
    · have d1' : decide (z < 1) = true := decide_eq_true d1
      go_enter Try.func4, Try.ntmps4
      go_wp2_with (first | (go_at_call 17; refine (fact_any _).mono ?_; rintro e w1 ⟨rfl, hb⟩; have HB := Lib.hid hb; clear hb) | (go_at_call 18; (with_reducible refine (HNB.out _ HB.out).mono ?_); rintro e w2 ⟨rfl, hb2⟩; rw [errV_one]; have HB2 := Lib.hid hb2; clear hb2))
      go_ret
      exact ⟨rfl, HB2.out⟩
    · have d1' : decide (z < 1) = false := decide_eq_false d1
      have d2' : decide (4 < z) = true := decide_eq_true d2
      go_enter Try.func4, Try.ntmps4
      go_wp2_with (first | (go_at_call 17; refine (fact_any _).mono ?_; rintro e w1 ⟨rfl, hb⟩; have HB := Lib.hid hb; clear hb) | (go_at_call 18; (with_reducible refine (HNB.out _ HB.out).mono ?_); rintro e w2 ⟨rfl, hb2⟩; rw [errV_one]; have HB2 := Lib.hid hb2; clear hb2))
      go_ret
      exact ⟨rfl, HB2.out⟩
end Go.Proofs.Ytimdhnjkjflbdaa.Fif
