/-
  The walk of latchgarthtop.TopSwaps: it answers true, whatever the program.
-/
import Derived.Test.YthpnnmkpbkbanaaTsoResults
import Derived.Test.YthpnnmkpbkbanaaRaces
import Derived.Test.YthpnnmkpbkbanaaSwapOne
import Derived.Test.YthpnnmkpbkbanaaRowsSame
import Derived.Deep.DeepCutAuto
namespace Go.Proofs.Ythpnnmkpbkbanaa
open Go.RowKit

theorem Tll.info : (Try.prog.info? 27).map (fun i => (i.zero, i.size, i.bytes)) = some (some (.slice none 0 0), 1, 24) := by kernel_rfl
theorem rowsS_end {hs : List (List Ln)} {k : Nat} (h : k ≤ 4) (hk : k = 4 ∨ hs.length ≤ k) : rowsS hs k = rowsS hs 4 := by
  have e : hs.take k = hs.take 4 := by
    rcases hk with rfl | hk
    · rfl
    · rw [List.take_of_length_le hk, List.take_of_length_le (by omega)]
  rw [rowsS, rowsS, e]

set_option maxRecDepth 100000 in
set_option maxHeartbeats 8000000 in
theorem topswaps_law (words : Int) (hv : Value) (hs : List (List Ln)) (w : World) (hh : Hands w w.heap.size hv hs) :
    Calls Try.prog 3 #[.agg #[.int .i64 words, hv]] w fun e w' => e = .returned (.bool true) ∧ Below w.heap.size w w' := by
  obtain ⟨A, c, rfl, hlen, hh⟩ := hh
  obtain ⟨i0, hi, hz0, hz1, hz2⟩ := info_parts Tln.info
  obtain ⟨i1, hi1, hy0, hy1, hy2⟩ := info_parts Tll.info
  have HH := Lib.hid hh
  have K0 := Lib.hid (Block.made w 24 #[.int .i64 words, .slice A hs.length c])
  have HB0 := Lib.hid ((Below.refl w.heap.size w).alloc (Nat.le_refl _) (.cells #[.int .i64 words, .slice A hs.length c] 24))
  clear hh
  go_enter Try.func3, Try.ntmps3
  go_wp2_with fail
  refine (results_any 1 _ oneL _ (one_hands w _ _ _ rfl)).mono ?_
  rintro e w2 ⟨v2, he, hl2, hb2⟩
  rw [one_check, show errV 66 0 = .nilIface from rfl] at he
  rw [one_resL] at hl2
  subst he
  obtain ⟨A2, c2, rfl, hll, h2⟩ := hl2
  obtain ⟨b2, o2, rfl, hlt2, hc2⟩ := h2 (by simp)
  obtain ⟨u, hu, hn, _⟩ := hc2 0 [0, 0, 3] rfl
  have HN := Lib.hid hn
  obtain ⟨A3, c3, rfl, hl3, _⟩ := hn
  have HB2 := Lib.hid ((((HB0.out.alloc (by simp) _).alloc (by simp; omega) _).alloc (by simp; omega) _).trans (hb2.mono (by simp; omega)))
  have k2 := (((K0.out.alloc _).alloc _).alloc _).below hb2 (by simp; omega)
  have c0 := k2.cell 0
  have c1 := k2.cell 1
  simp at c0 c1 hu
  have K2 := Lib.hid k2
  clear hb2 k2 hc2 h2
  go_wp2_with fail
  have HZ : Nums (w2.alloc (.cells (row [0, 0, 3]) 3)) (w2.alloc (.cells (row [0, 0, 3]) 3)).heap.size (.slice (some ⟨w2.heap.size, 0, none⟩) 3 3) [0, 0, 3] := ⟨some ⟨w2.heap.size, 0, none⟩, 3, rfl, by simp, fun _ => ⟨_, _, rfl, by simp, fun i z hz => ((Block.made w2 3 (row [0, 0, 3])).cell (0 + i)).trans (by rw [Nat.zero_add]; exact row_get hz)⟩⟩
  have HN2 : Nums (w2.alloc (.cells (row [0, 0, 3]) 3)) w2.heap.size (.slice A3 3 c3) [0, 0, 3] := HN.out.below ((Below.refl _ _).alloc (Nat.le_refl _) _) (Nat.le_refl _)
  refine (ints_any [0, 0, 3] [0, 0, 3] _ _ _ _ _ HN2 HZ).mono ?_
  rw [decide_eq_true rfl]
  rintro e w5 ⟨rfl, m, hw5⟩
  have hb5 : Below w2.heap.size w2 w5 := by rw [hw5]; exact below_drewN ((Below.refl w2.heap.size w2).alloc (Nat.le_refl _) _) m
  have HB5 := Lib.hid (HB2.out.trans (hb5.mono HB2.out.size))
  have k5 := K2.out.below hb5 K2.out.lt
  have K5 := Lib.hid k5
  have d0 := k5.cell 0
  have d1 := k5.cell 1
  simp at d0 d1
  obtain ⟨qb, hqb⟩ : ∃ qb, qb = w5.heap.size := ⟨_, rfl⟩
  obtain ⟨V, hV⟩ : ∃ V, V = w5.alloc (.cells #[.int .i64 words, .slice none 0 0] 24) := ⟨_, rfl⟩
  have HP0 := Lib.hid (show PG w V words (.slice A hs.length c) qb (.slice none 0 0) [] [] from by
    rw [hV, hqb]
    exact ⟨K5.out.alloc _, K5.out.lt, Block.made w5 _ _, HB5.out.alloc HB5.out.size _, World.ownsRow_nil _ _ _ _, rfl, fun i u l hu => by simp at hu, fun u hu => by cases hu⟩)
  clear k5 hw5 hb5 c0 c1 hu HZ HN2
  go_upto_region 7 with fail
  rw [← hqb, ← hV]
  clear hqb hV K0 K2 K5 HB0 HB2 HB5 d0 d1
  go_loopw [7] (fun i wr => ∃ (k : Nat) (qv : Value) (us : List Value), k ≤ hs.length ∧ k ≤ 4 ∧ i = .int .i64 k ∧ us.length = k ∧ PG w wr words (.slice A hs.length c) qb qv (rowsS hs k) us) (fun i _ => hs.length - (intOf i).toNat)
  case atStart => exact ⟨0, _, [], by omega, by omega, rfl, rfl, HP0.out⟩
  case round =>
    clear HP0
    obtain ⟨k, qv, us, hk1, hk2, rfl, hus, hp⟩ := hrel
    have HP := Lib.hid hp
    have HUS := Lib.hid hus
    have c0 := hp.prog.cell 0
    have c1 := hp.prog.cell 1
    simp at c0 c1
    clear hp hus
    by_cases hgo : k < hs.length ∧ k < 4
    · obtain ⟨hlt, hlt4⟩ := hgo
      have hI : (k : Int) < hs.length := by omega
      have h4 : (k : Int) < 4 := by omega
      obtain ⟨b, o, rfl, hbb, hcc⟩ := HH.out (by omega)
      obtain ⟨ls, hls⟩ : ∃ ls, hs[k]? = some ls := ⟨_, List.getElem?_eq_getElem hlt⟩
      obtain ⟨u, hu, hL⟩ := hcc k ls hls
      obtain ⟨A3, c3, rfl, hl3, hlc⟩ := hL
      have HLC := Lib.hid hlc
      have HU := Lib.hid hu
      have HLS := Lib.hid hls
      have HBB := Lib.hid hbb
      clear hcc hu hls hlc hbb
      go_wp2
      go_loopw [8, 9] (fun lv i wr => ∃ j : Nat, j ≤ ls.length ∧ j ≤ 6 ∧ i = .int .i64 j ∧ PG w wr words (.slice (some ⟨b, o, none⟩) hs.length c) qb qv (rowsS hs k) us ∧ LG wr qb qv us lv ((ls.take j).map swL)) (fun _ i _ => ls.length - (intOf i).toNat)
      case atStart => exact ⟨0, by omega, by omega, rfl, HP.out, LG.nil _ _ _ _⟩
      case round =>
        obtain ⟨j, hj1, hj2, rfl, hp, hg⟩ := hrel
        have HP1 := Lib.hid hp
        have HG1 := Lib.hid hg
        have d1 := hp.prog.cell 1
        simp at d1
        have x1 := (hp.below.cell (p := ⟨b, o + k, none⟩) HBB.out).trans HU.out
        clear hp hg c0 c1
        by_cases hjl : j < ls.length ∧ j < 6
        · obtain ⟨hjl, hj6⟩ := hjl
          have hjI : (j : Int) < ls.length := by omega
          have hj6I : (j : Int) < 6 := by omega
          obtain ⟨b3, o3, rfl, hb3, hc3⟩ := HLC.out (by omega)
          obtain ⟨l, hl⟩ : ∃ l, ls[j]? = some l := ⟨_, List.getElem?_eq_getElem hjl⟩
          obtain ⟨l1, l2, l3, l4⟩ := hc3 j l hl
          have HB3 := Lib.hid hb3
          have HL1 := Lib.hid l1
          have q0 := (HP1.out.below.cell (p := ⟨b3, o3 + j * 4, none⟩) hb3).trans l1
          have q1 := (HP1.out.below.cell (p := ⟨b3, o3 + j * 4 + 1, none⟩) hb3).trans l2
          have q2 := (HP1.out.below.cell (p := ⟨b3, o3 + j * 4 + 2, none⟩) hb3).trans l3
          have q3 := (HP1.out.below.cell (p := ⟨b3, o3 + j * 4 + 3, none⟩) hb3).trans l4
          have HL := Lib.hid hl
          have HR := Lib.hid (show ((ls.take j).map swL).length ≤ 6 from by rw [List.length_map, List.length_take]; omega)
          obtain ⟨r, hr⟩ : ∃ r, r = (ls.take j).map swL := ⟨_, rfl⟩
          have HRE := Lib.hid hr
          rw [← hr] at HG1 HR
          clear hc3 hb3 l1 l2 l3 l4 hl hr
          by_cases h1 : l.k = 1
          · skip
            have HT := Lib.hid (show Touch (fun _ => False) wr (wr.alloc (.cells #[.int .i64 3, .int .i64 l.r, .int .i64 l.d, .int .i64 l.v] 26)) from (Touch.refl _ wr).alloc _)
            have HPW := Lib.hid (HP1.out.touch HT.out fun _ h => h.elim)
            have HGW := Lib.hid (HG1.out.touch HT.out fun _ _ h => h)
            have HE := Lib.hid (show (ls.take (j + 1)).map swL = r ++ [⟨3, l.r, l.d, l.v⟩] by rw [sw_succ HL.out, HRE.out, swL, if_pos (by omega)])
            have e1 : (l.k == 1) = true := beq_iff_eq.2 h1
            clear h1
            go_wp2_with (at_builtin; refine wpList_append_lies _ rfl (.tmp 87) (.tmp 89) 27 rfl (qb + 1) 26 i0 _ 4 32 Try.underlying27 hi hz0 hz1 hz2 rfl (by omega) u8 (r).length ((r).flatMap lnCells) rfl (HGW.out.own.alloc _) ⟨wr.heap.size + 1, 0, none⟩ 1 1 (lnCells ⟨3, l.r, l.d, l.v⟩) rfl rfl (four_cells (by simp) (by simp) (by simp) (by simp)) (by intro u hu; simp [lnCells] at hu; rcases hu with rfl | rfl | rfl | rfl <;> rfl) (by omega) (by have := HR.out; unfold maxLen; omega) (by have := HR.out; omega) (by have := HP1.out.qblk.lt; simp; omega) (wr.heap.size + 1 + 1) (by simp) ?_; intro g2 cap2 w2 hown hgrow hat _; obtain ⟨hp2, hg2⟩ := LG.line HPW.out HGW.out ⟨3, l.r, l.d, l.v⟩ hown hgrow (by simpa using hat); have HP2 := Lib.hid hp2; have HG2 := Lib.hid hg2; have a1 := hp2.prog.cell 1; simp at a1; have a2 := (hp2.below.cell (p := ⟨b, o + k, none⟩) HBB.out).trans HU.out; clear hp2 hg2 hown hgrow hat)
            go_roundw
            case rel => exact ⟨j + 1, by omega, by omega, by go_num, HP2.out, by rw [HE.out]; exact HG2.out⟩
            case measure => simp [intOf]; omega
          · by_cases h2 : l.k = 2
            · skip
              have HT := Lib.hid (show Touch (fun _ => False) wr (wr.alloc (.cells #[.int .i64 3, .int .i64 l.r, .int .i64 l.d, .int .i64 l.v] 26)) from (Touch.refl _ wr).alloc _)
              have HPW := Lib.hid (HP1.out.touch HT.out fun _ h => h.elim)
              have HGW := Lib.hid (HG1.out.touch HT.out fun _ _ h => h)
              have HE := Lib.hid (show (ls.take (j + 1)).map swL = r ++ [⟨3, l.r, l.d, l.v⟩] by rw [sw_succ HL.out, HRE.out, swL, if_pos (by omega)])
              have e1 : (l.k == 1) = false := beq_eq_false_iff_ne.2 h1
              have e2 : (l.k == 2) = true := beq_iff_eq.2 h2
              clear h1 h2
              go_wp2_with (at_builtin; refine wpList_append_lies _ rfl (.tmp 87) (.tmp 89) 27 rfl (qb + 1) 26 i0 _ 4 32 Try.underlying27 hi hz0 hz1 hz2 rfl (by omega) u8 (r).length ((r).flatMap lnCells) rfl (HGW.out.own.alloc _) ⟨wr.heap.size + 1, 0, none⟩ 1 1 (lnCells ⟨3, l.r, l.d, l.v⟩) rfl rfl (four_cells (by simp) (by simp) (by simp) (by simp)) (by intro u hu; simp [lnCells] at hu; rcases hu with rfl | rfl | rfl | rfl <;> rfl) (by omega) (by have := HR.out; unfold maxLen; omega) (by have := HR.out; omega) (by have := HP1.out.qblk.lt; simp; omega) (wr.heap.size + 1 + 1) (by simp) ?_; intro g2 cap2 w2 hown hgrow hat _; obtain ⟨hp2, hg2⟩ := LG.line HPW.out HGW.out ⟨3, l.r, l.d, l.v⟩ hown hgrow (by simpa using hat); have HP2 := Lib.hid hp2; have HG2 := Lib.hid hg2; have a1 := hp2.prog.cell 1; simp at a1; have a2 := (hp2.below.cell (p := ⟨b, o + k, none⟩) HBB.out).trans HU.out; clear hp2 hg2 hown hgrow hat)
              go_roundw
              case rel => exact ⟨j + 1, by omega, by omega, by go_num, HP2.out, by rw [HE.out]; exact HG2.out⟩
              case measure => simp [intOf]; omega
            · skip
              have HT := Lib.hid (show Touch (fun _ => False) wr (wr.alloc (.cells #[.int .i64 l.k, .int .i64 l.r, .int .i64 l.d, .int .i64 l.v] 26)) from (Touch.refl _ wr).alloc _)
              have HPW := Lib.hid (HP1.out.touch HT.out fun _ h => h.elim)
              have HGW := Lib.hid (HG1.out.touch HT.out fun _ _ h => h)
              have HE := Lib.hid (show (ls.take (j + 1)).map swL = r ++ [l] by rw [sw_succ HL.out, HRE.out, swL, if_neg (by omega)])
              have e1 : (l.k == 1) = false := beq_eq_false_iff_ne.2 h1
              have e2 : (l.k == 2) = false := beq_eq_false_iff_ne.2 h2
              clear h1 h2
              go_wp2_with (at_builtin; refine wpList_append_lies _ rfl (.tmp 87) (.tmp 89) 27 rfl (qb + 1) 26 i0 _ 4 32 Try.underlying27 hi hz0 hz1 hz2 rfl (by omega) u8 (r).length ((r).flatMap lnCells) rfl (HGW.out.own.alloc _) ⟨wr.heap.size + 1, 0, none⟩ 1 1 (lnCells l) rfl rfl (four_cells (by simp) (by simp) (by simp) (by simp)) (by intro u hu; simp [lnCells] at hu; rcases hu with rfl | rfl | rfl | rfl <;> rfl) (by omega) (by have := HR.out; unfold maxLen; omega) (by have := HR.out; omega) (by have := HP1.out.qblk.lt; simp; omega) (wr.heap.size + 1 + 1) (by simp) ?_; intro g2 cap2 w2 hown hgrow hat _; obtain ⟨hp2, hg2⟩ := LG.line HPW.out HGW.out l hown hgrow (by simpa using hat); have HP2 := Lib.hid hp2; have HG2 := Lib.hid hg2; have a1 := hp2.prog.cell 1; simp at a1; have a2 := (hp2.below.cell (p := ⟨b, o + k, none⟩) HBB.out).trans HU.out; clear hp2 hg2 hown hgrow hat)
              go_roundw
              case rel => exact ⟨j + 1, by omega, by omega, by go_num, HP2.out, by rw [HE.out]; exact HG2.out⟩
              case measure => simp [intOf]; omega
        · have HE := Lib.hid (sw6_end (ls := ls) (by omega) hj2)
          rw [HE.out] at HG1
          have HR := Lib.hid (show (sw6 ls).length ≤ 6 from by rw [sw6, List.length_map, List.length_take]; omega)
          obtain ⟨A5, c5, hlv⟩ : ∃ A5 c5, u8 = .slice A5 (sw6 ls).length c5 := by
            rcases HG1.out.own.2 with ⟨e, h0⟩ | ⟨g, cp, cur, e, _⟩
            · exact ⟨none, 0, by rw [e, h0]⟩
            · exact ⟨_, _, e⟩
          subst hlv
          have p0 := HP1.out.qblk.cell 0
          have p1 := HP1.out.qblk.cell 1
          simp at p0 p1
          obtain ⟨n6, hn6⟩ : ∃ n, n = (sw6 ls).length := ⟨_, rfl⟩
          rw [← hn6] at HG1
          rw [← hn6]
          clear hn6
          have hh2 : (j : Int) < ls.length ∧ ¬ (j : Int) < 6 ∨ ¬ (j : Int) < ls.length := by omega
          clear hjl
          rcases hh2 with ⟨hI2, hJ2⟩ | hI2
          all_goals
            go_wp2_with (at_builtin; refine wpList_append_lies _ rfl (.tmp 92) (.tmp 94) 22 rfl (qb + 1) 27 i1 (.slice none 0 0) 1 24 Try.underlying22 hi1 hy0 hy1 hy2 rfl (by omega) qv us.length us rfl (HP1.out.own.alloc _) ⟨wr.heap.size, 0, none⟩ 1 1 [.slice A5 n6 c5] rfl rfl (one_cell (by simp)) (by intro u hu; simp at hu; subst hu; rfl) (by omega) (by have := HUS.out; unfold maxLen; omega) (by have := HUS.out; omega) (by have := HP1.out.qblk.lt; simp; omega) (wr.heap.size + 1) (by simp) ?_; intro g4 cap4 w4 hown hgrow hat _; obtain ⟨hq4, hp4⟩ := PG.hand HP1.out HG1.out (by have := HR.out; omega) hown hgrow hat; have HP4 := Lib.hid hp4; have r0 := (hq4.cell 1).trans rfl; have r1 := hq4.free 1; clear hq4 hp4 hown hgrow hat)
            go_roundw
            case rel => exact ⟨k + 1, _, us ++ [_], by omega, by omega, by go_num, by simp [HUS.out], by rw [rowsS_succ HLS.out]; exact HP4.out⟩
            case measure => simp [intOf]; omega
    · have hend := rowsS_end (hs := hs) hk2 (by omega)
      obtain ⟨R, hR⟩ : ∃ R, R = rowsS hs 4 := ⟨_, rfl⟩
      rw [← hR] at hend
      have hp := HP.out
      rw [hend] at hp
      have HHQ := Lib.hid (hp.hands (by rw [← hp.len, HUS.out]; omega))
      have HSZ := Lib.hid hp.below
      have HQB := Lib.hid hp.qblk
      have q0 := hp.qblk.cell 0
      have q1 := hp.qblk.cell 1
      simp at q0 q1
      obtain ⟨S, hS⟩ : ∃ S, S = scR words R := ⟨_, rfl⟩
      have HRS := Lib.hid hS
      have HNO := Lib.hid (show scRace R = false from by rw [hR]; exact swaps_race (rowsS_no hs 4))
      have HRF := Lib.hid (show ∀ ts, TsoOf words R ts → check words R = 0 → ts = S from by intro ts h hc; rw [hS, hR]; rw [hR] at h hc; exact swaps_tso (check_well hc) (rowsS_no hs 4) h)
      clear hp hR hend HP hS
      have hh2 : (k : Int) < hs.length ∧ ¬ (k : Int) < 4 ∨ ¬ (k : Int) < hs.length := by omega
      clear hgo
      rcases hh2 with ⟨hI2, hJ2⟩ | hI2
      all_goals
        by_cases hc : check words R = 0
        · have HC := Lib.hid hc
          clear hc
          go_wp2_with fail
          refine (races_any words _ R wr HHQ.out).mono ?_
          rintro e wa ⟨he, hba⟩
          rw [HC.out, HNO.out, show errV 66 0 = .nilIface from rfl, show (decide ((0 : Int) = 0) && false) = false from rfl] at he
          subst he
          have ka := HQB.out.below hba HQB.out.lt
          have a0 := ka.cell 0
          have a1 := ka.cell 1
          simp at a0 a1
          have KA := Lib.hid ka
          have HBA := Lib.hid (HSZ.out.trans (hba.mono HSZ.out.size))
          have HHA := Lib.hid ((HHQ.out.below hba (Nat.le_refl _)).more hba.size)
          clear hba ka q0 q1 c0 c1
          go_wp2_with fail
          refine (results_any words _ R wa HHA.out).mono ?_
          rintro e w2 ⟨v2, he, hl2, hb2⟩
          rw [HC.out, show errV 66 0 = .nilIface from rfl] at he
          rw [resL, if_pos HC.out, ← HRS.out] at hl2
          subst he
          have HL2 := Lib.hid hl2
          obtain ⟨A2, c2, rfl, hll, _⟩ := hl2
          have k2 := KA.out.below hb2 KA.out.lt
          have d0 := k2.cell 0
          have d1 := k2.cell 1
          simp at d0 d1
          have HB2 := Lib.hid (HBA.out.trans (hb2.mono HBA.out.size))
          have HHQ2 := Lib.hid ((HHA.out.below hb2 (Nat.le_refl _)).more hb2.size)
          clear hb2 k2 a0 a1
          go_wp2_with fail
          refine (tresults_good words _ R w2 HHQ2.out HC.out).mono ?_
          rintro e w3 ⟨v3, ts, rfl, hl3, hto, hb3⟩
          have e := HRF.out ts hto HC.out
          subst e
          have HL3 := Lib.hid hl3
          obtain ⟨A3, c3, rfl, hlt3, _⟩ := hl3
          have HL2' := Lib.hid (HL2.out.below hb3 (Nat.le_refl _))
          have HB3 := Lib.hid (HB2.out.trans (hb3.mono HB2.out.size))
          clear hb3 d0 d1 hto HL2
          go_wp2_with (go_at_call 8; (with_reducible refine (rows_same ts _ _ _ _ _ HL2'.out HL3.out).mono ?_); rintro e w5 ⟨rfl, m, rfl⟩)
          go_ret
          exact ⟨rfl, below_drewN HB3.out _⟩
        · have HC := Lib.hid hc
          clear hc
          go_wp2_with fail
          refine (races_any words _ R wr HHQ.out).mono ?_
          rintro e wa ⟨he, hba⟩
          rw [show errV 66 (check words R) = .iface 66 (.int .i64 (check words R)) from if_neg HC.out] at he
          subst he
          have ka := HQB.out.below hba HQB.out.lt
          have a0 := ka.cell 0
          have a1 := ka.cell 1
          simp at a0 a1
          have KA := Lib.hid ka
          have HBA := Lib.hid (HSZ.out.trans (hba.mono HSZ.out.size))
          have HHA := Lib.hid ((HHQ.out.below hba (Nat.le_refl _)).more hba.size)
          clear hba ka q0 q1 c0 c1
          go_wp2_with fail
          refine (results_any words _ R wa HHA.out).mono ?_
          rintro e w2 ⟨v2, he, hl2, hb2⟩
          rw [show errV 66 (check words R) = .iface 66 (.int .i64 (check words R)) from if_neg HC.out] at he
          subst he
          obtain ⟨A2, c2, rfl, _, _⟩ := hl2
          have k2 := KA.out.below hb2 KA.out.lt
          have d0 := k2.cell 0
          have d1 := k2.cell 1
          simp at d0 d1
          have HB2 := Lib.hid (HBA.out.trans (hb2.mono HBA.out.size))
          have HHQ2 := Lib.hid ((HHA.out.below hb2 (Nat.le_refl _)).more hb2.size)
          clear hb2 k2 a0 a1
          go_wp2_with fail
          refine (tresults_bad words _ R w2 HHQ2.out HC.out).mono ?_
          rintro e w3 ⟨rfl, hb3⟩
          have HB3 := Lib.hid (HB2.out.trans (hb3.mono HB2.out.size))
          clear hb3 d0 d1
          go_wp2
          go_ret
          exact ⟨rfl, HB3.out⟩
end Go.Proofs.Ythpnnmkpbkbanaa
