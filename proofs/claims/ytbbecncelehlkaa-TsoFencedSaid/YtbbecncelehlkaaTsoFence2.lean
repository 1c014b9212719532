/-
  The walk of latchgarthlaw1.TsoFenced: it answers true, whatever the program.
-/
import Derived.Test.YtbbecncelehlkaaTsoFacts
import Derived.Test.YtbbecncelehlkaaTsoLw
import Derived.Test.YtbbecncelehlkaaRowsSame
import Derived.Test.YtbbecncelehlkaaGrowing
import Derived.Deep.DeepCutAuto
namespace Go.Proofs.Ytbbecncelehlkaa
open Go.RowKit

theorem fen_len : ∀ l : List Ln, (fen l).length ≤ 2 * l.length
  | [] => by simp [fen]
  | x :: r => by
    have := fen_len r
    unfold fen
    split <;> simp <;> omega
/-- The hands that are made, so many of them. -/
def fr6 (ls : List Ln) : List Ln := fen (ls.take 6)
def rows6 (hs : List (List Ln)) (k : Nat) : List (List Ln) := (hs.take k).map fr6
theorem rows6_succ {hs : List (List Ln)} {k : Nat} {ls : List Ln} (h : hs[k]? = some ls) : rows6 hs (k + 1) = rows6 hs k ++ [fr6 ls] := by rw [rows6, take_succ_at h, List.map_append]; rfl
theorem rows6_end {hs : List (List Ln)} {k : Nat} (h : k ≤ 4) (hk : k = 4 ∨ hs.length ≤ k) : rows6 hs k = ((hs.take 4).map (List.take 6)).map fen := by
  have e : hs.take k = hs.take 4 := by
    rcases hk with rfl | hk
    · rfl
    · rw [List.take_of_length_le hk, List.take_of_length_le (by omega)]
  rw [rows6, e, List.map_map]
  rfl
theorem take6_end {ls : List Ln} {j : Nat} (h : j ≤ 6) (hj : j = 6 ∨ ls.length ≤ j) : fen (ls.take j) = fr6 ls := by
  rcases hj with rfl | hj
  · rfl
  · rw [fr6, List.take_of_length_le hj, List.take_of_length_le (by omega)]

theorem Tll.info : (Try.prog.info? 37).map (fun i => (i.zero, i.size, i.bytes)) = some (some (.slice none 0 0), 1, 24) := by kernel_rfl
set_option maxRecDepth 100000 in
set_option maxHeartbeats 8000000 in
theorem fenced_law (words : Int) (hv : Value) (hs : List (List Ln)) (w : World) (hh : Hands w w.heap.size hv hs) :
    Calls Try.prog 5 #[.agg #[.int .i64 words, hv]] w fun e w' => e = .returned (.bool true) ∧ Below w.heap.size w w' := by
  obtain ⟨A, c, rfl, hlen, hh⟩ := hh
  have HH := Lib.hid hh
  have K0 := Lib.hid (Block.made w 24 #[.int .i64 words, .slice A hs.length c])
  have HB0 := Lib.hid ((Below.refl w.heap.size w).alloc (Nat.le_refl _) (.cells #[.int .i64 words, .slice A hs.length c] 24))
  obtain ⟨i0, hi, hz0, hz1, hz2⟩ := info_parts Tln.info
  obtain ⟨i1, hi1, hy0, hy1, hy2⟩ := info_parts Tll.info
  clear hh
  go_enter Try.func5, Try.ntmps5
  go_wp2_with fail
  refine (tsoFact_any _).mono ?_
  rintro e w1 ⟨rfl, hb1⟩
  have k1 : Block w1 w.heap.size 24 #[.int .i64 words, .slice A hs.length c] := K0.out.below hb1 (by simp)
  have HB1 := Lib.hid (HB0.out.trans (hb1.mono (by simp)))
  have c0 := k1.cell 0
  have c1 := k1.cell 1
  simp at c0 c1
  have K1 := Lib.hid k1
  clear hb1 k1
  go_wp2_with fail
  obtain ⟨qb, hqb⟩ : ∃ qb, qb = w1.heap.size := ⟨_, rfl⟩
  obtain ⟨V, hV⟩ : ∃ V, V = w1.alloc (.cells #[.int .i64 words, .slice none 0 0] 24) := ⟨_, rfl⟩
  have HP0 := Lib.hid (show PG w V words (.slice A hs.length c) qb (.slice none 0 0) [] [] from by
    rw [hV, hqb]
    exact ⟨K1.out.alloc _, K1.out.lt, Block.made w1 _ _, HB1.out.alloc HB1.out.size _, World.ownsRow_nil _ _ _ _, rfl, fun i u l hu => by simp at hu, fun u hu => by cases hu⟩)
  go_upto_region 6 with fail
  rw [← hqb, ← hV]
  clear hqb hV K0 K1 HB0 HB1 c0 c1
  go_loopw [5] (fun i wr => ∃ (k : Nat) (qv : Value) (us : List Value), k ≤ hs.length ∧ k ≤ 4 ∧ i = .int .i64 k ∧ us.length = k ∧ PG w wr words (.slice A hs.length c) qb qv (rows6 hs k) us) (fun i _ => hs.length - (intOf i).toNat)
  case atStart => exact ⟨0, _, [], by omega, by omega, rfl, rfl, HP0.out⟩
  case round =>
    clear HP0
    obtain ⟨k, qv, us, hk1, hk2, rfl, hus, hp⟩ := hrel
    have HP := Lib.hid hp
    have HUS := Lib.hid hus
    have c0 := hp.prog.cell 0
    have c1 := hp.prog.cell 1
    simp at c0 c1
    clear hp hus
    by_cases hgo : k < hs.length ∧ k < 4
    · obtain ⟨hlt, hlt4⟩ := hgo
      have hI : (k : Int) < hs.length := by omega
      have h4 : (k : Int) < 4 := by omega
      obtain ⟨b, o, rfl, hbb, hcc⟩ := HH.out (by omega)
      obtain ⟨ls, hls⟩ : ∃ ls, hs[k]? = some ls := ⟨_, List.getElem?_eq_getElem hlt⟩
      obtain ⟨u, hu, hL⟩ := hcc k ls hls
      obtain ⟨A3, c3, rfl, hl3, hlc⟩ := hL
      have HLC := Lib.hid hlc
      have HU := Lib.hid hu
      have HLS := Lib.hid hls
      have HBB := Lib.hid hbb
      clear hcc hu hls hlc hbb
      go_wp2
      go_loopw [6, 7] (fun lv i wr => ∃ j : Nat, j ≤ ls.length ∧ j ≤ 6 ∧ i = .int .i64 j ∧ PG w wr words (.slice (some ⟨b, o, none⟩) hs.length c) qb qv (rows6 hs k) us ∧ LG wr qb qv us lv (fen (ls.take j))) (fun _ i _ => ls.length - (intOf i).toNat)
      case atStart => exact ⟨0, by omega, by omega, rfl, HP.out, LG.nil _ _ _ _⟩
      case round =>
        obtain ⟨j, hj1, hj2, rfl, hp, hg⟩ := hrel
        have HP1 := Lib.hid hp
        have HG1 := Lib.hid hg
        have d1 := hp.prog.cell 1
        simp at d1
        have x1 := (hp.below.cell (p := ⟨b, o + k, none⟩) HBB.out).trans HU.out
        clear hp hg c0 c1
        by_cases hjl : j < ls.length ∧ j < 6
        · obtain ⟨hjl, hj6⟩ := hjl
          have hjI : (j : Int) < ls.length := by omega
          have hj6I : (j : Int) < 6 := by omega
          obtain ⟨b3, o3, rfl, hb3, hc3⟩ := HLC.out (by omega)
          obtain ⟨l, hl⟩ : ∃ l, ls[j]? = some l := ⟨_, List.getElem?_eq_getElem hjl⟩
          obtain ⟨l1, l2, l3, l4⟩ := hc3 j l hl
          have HB3 := Lib.hid hb3
          have HL1 := Lib.hid l1
          have q0 := (HP1.out.below.cell (p := ⟨b3, o3 + j * 4, none⟩) hb3).trans l1
          have q1 := (HP1.out.below.cell (p := ⟨b3, o3 + j * 4 + 1, none⟩) hb3).trans l2
          have q2 := (HP1.out.below.cell (p := ⟨b3, o3 + j * 4 + 2, none⟩) hb3).trans l3
          have q3 := (HP1.out.below.cell (p := ⟨b3, o3 + j * 4 + 3, none⟩) hb3).trans l4
          have HL := Lib.hid hl
          have HR := Lib.hid (show (fen (ls.take j)).length ≤ 12 from Nat.le_trans (fen_len _) (by rw [List.length_take]; omega))
          obtain ⟨r, hr⟩ : ∃ r, r = fen (ls.take j) := ⟨_, rfl⟩
          have HRE := Lib.hid hr
          rw [← hr] at HG1 HR
          clear hc3 hb3 l1 l2 l3 l4 hl hr
          by_cases h5 : l.k = 5
          · have e5 : (l.k == 5) = true := beq_iff_eq.2 h5
            clear h5
            go_wp2
            go_ret
            exact ⟨rfl, HP1.out.below⟩
          · have e5 : (l.k == 5) = false := beq_eq_false_iff_ne.2 h5
            clear h5
            by_cases h2 : l.k = 2
            · have e2 : (l.k == 2) = true := beq_iff_eq.2 h2
              have HE := Lib.hid (show fen (ls.take (j + 1)) = (r ++ [l]) ++ [fenceLn] by rw [take_succ_at HL.out, fen_snoc, if_pos h2, HRE.out, List.append_assoc]; rfl)
              clear h2
              go_wp2_with (first | (at_builtin; refine wpList_append_lies _ rfl (.tmp 53) (.tmp 62) 37 rfl (qb + 1) 39 i0 _ 4 32 Try.underlying37 hi hz0 hz1 hz2 rfl (by omega) u6 (r).length ((r).flatMap lnCells) rfl (HG1.out.own.alloc _) ⟨wr.heap.size, 0, none⟩ 1 1 (lnCells l) rfl rfl (four_cells (by simp) (by simp) (by simp) (by simp)) (by intro u hu; simp [lnCells] at hu; rcases hu with rfl | rfl | rfl | rfl <;> rfl) (by omega) (by have := HR.out; unfold maxLen; omega) (by have := HR.out; omega) (by have := HP1.out.qblk.lt; simp; omega) (wr.heap.size + 1) (by simp) ?_; intro g2 cap2 w2 hown hgrow hat _; obtain ⟨hp2, hg2⟩ := LG.line HP1.out HG1.out l hown hgrow hat; have HP2 := Lib.hid hp2; have HG2 := Lib.hid hg2; have a1 := hp2.prog.cell 1; simp at a1; have a2 := (hp2.below.cell (p := ⟨b, o + k, none⟩) HBB.out).trans HU.out; have a3 := (hp2.below.cell (p := ⟨b3, o3 + j * 4, none⟩) HB3.out).trans HL1.out; clear hp2 hg2 hown hgrow hat) | (at_builtin; refine wpList_append_lies _ rfl (.tmp 74) (.tmp 76) 37 rfl (qb + 1) 39 i0 _ 4 32 Try.underlying37 hi hz0 hz1 hz2 rfl (by omega) (.slice (some ⟨g2, 0, none⟩) (r.length + 1) cap2) (r.length + 1) ((r ++ [l]).flatMap lnCells) rfl (by have := HG2.out.own.alloc (.cells #[.int .i64 4, .int .i64 0, .int .i64 0, .int .i64 0] 39); simpa using this) ⟨w2.heap.size, 0, none⟩ 1 1 (lnCells fenceLn) rfl rfl (four_cells (by simp [fenceLn]) (by simp [fenceLn]) (by simp [fenceLn]) (by simp [fenceLn])) (by intro u hu; simp [lnCells] at hu; rcases hu with rfl | rfl | rfl | rfl <;> rfl) (by omega) (by have := HR.out; unfold maxLen; omega) (by have := HR.out; omega) (by have := HP2.out.qblk.lt; simp; omega) (w2.heap.size + 1) (by simp) ?_; intro g3 cap3 w3 hown hgrow hat _; rw [show r.length + 1 = (r ++ [l]).length by simp] at hown; obtain ⟨hp3, hg3⟩ := LG.line HP2.out HG2.out fenceLn hown hgrow hat; have HP3 := Lib.hid hp3; have HG3 := Lib.hid hg3; clear hp3 hg3 hown hgrow hat))
              go_roundw
              case rel => exact ⟨j + 1, by omega, by omega, by go_num, HP3.out, by rw [HE.out]; simpa using HG3.out⟩
              case measure => simp [intOf]; omega
            · have e2 : (l.k == 2) = false := beq_eq_false_iff_ne.2 h2
              have HE := Lib.hid (show fen (ls.take (j + 1)) = r ++ [l] by rw [take_succ_at HL.out, fen_snoc, if_neg h2, HRE.out])
              clear h2
              go_wp2_with (at_builtin; refine wpList_append_lies _ rfl (.tmp 53) (.tmp 62) 37 rfl (qb + 1) 39 i0 _ 4 32 Try.underlying37 hi hz0 hz1 hz2 rfl (by omega) u6 (r).length ((r).flatMap lnCells) rfl (HG1.out.own.alloc _) ⟨wr.heap.size, 0, none⟩ 1 1 (lnCells l) rfl rfl (four_cells (by simp) (by simp) (by simp) (by simp)) (by intro u hu; simp [lnCells] at hu; rcases hu with rfl | rfl | rfl | rfl <;> rfl) (by omega) (by have := HR.out; unfold maxLen; omega) (by have := HR.out; omega) (by have := HP1.out.qblk.lt; simp; omega) (wr.heap.size + 1) (by simp) ?_; intro g2 cap2 w2 hown hgrow hat _; obtain ⟨hp2, hg2⟩ := LG.line HP1.out HG1.out l hown hgrow hat; have HP2 := Lib.hid hp2; have HG2 := Lib.hid hg2; have a1 := hp2.prog.cell 1; simp at a1; have a2 := (hp2.below.cell (p := ⟨b, o + k, none⟩) HBB.out).trans HU.out; have a3 := (hp2.below.cell (p := ⟨b3, o3 + j * 4, none⟩) HB3.out).trans HL1.out; clear hp2 hg2 hown hgrow hat)
              go_roundw
              case rel => exact ⟨j + 1, by omega, by omega, by go_num, HP2.out, by rw [HE.out]; exact HG2.out⟩
              case measure => simp [intOf]; omega
        · have HE := Lib.hid (take6_end (ls := ls) hj2 (by omega))
          rw [HE.out] at HG1
          have HR := Lib.hid (show (fr6 ls).length ≤ 12 from Nat.le_trans (fen_len _) (by rw [List.length_take]; omega))
          obtain ⟨A5, c5, hlv⟩ : ∃ A5 c5, u6 = .slice A5 (fr6 ls).length c5 := by
            rcases HG1.out.own.2 with ⟨e, h0⟩ | ⟨g, cp, cur, e, _⟩
            · exact ⟨none, 0, by rw [e, h0]⟩
            · exact ⟨_, _, e⟩
          subst hlv
          have p0 := HP1.out.qblk.cell 0
          have p1 := HP1.out.qblk.cell 1
          simp at p0 p1
          obtain ⟨n6, hn6⟩ : ∃ n, n = (fr6 ls).length := ⟨_, rfl⟩
          rw [← hn6] at HG1
          rw [← hn6]
          clear hn6
          have hh2 : (j : Int) < ls.length ∧ ¬ (j : Int) < 6 ∨ ¬ (j : Int) < ls.length := by omega
          clear hjl
          rcases hh2 with ⟨hI2, hJ2⟩ | hI2
          all_goals
            go_wp2_with (at_builtin; refine wpList_append_lies _ rfl (.tmp 79) (.tmp 81) 22 rfl (qb + 1) 37 i1 (.slice none 0 0) 1 24 Try.underlying22 hi1 hy0 hy1 hy2 rfl (by omega) qv us.length us rfl (HP1.out.own.alloc _) ⟨wr.heap.size, 0, none⟩ 1 1 [.slice A5 n6 c5] rfl rfl (one_cell (by simp)) (by intro u hu; simp at hu; subst hu; rfl) (by omega) (by have := HUS.out; unfold maxLen; omega) (by have := HUS.out; omega) (by have := HP1.out.qblk.lt; simp; omega) (wr.heap.size + 1) (by simp) ?_; intro g4 cap4 w4 hown hgrow hat _; obtain ⟨hq4, hp4⟩ := PG.hand HP1.out HG1.out (by have := HR.out; omega) hown hgrow hat; have HP4 := Lib.hid hp4; have r0 := (hq4.cell 1).trans rfl; have r1 := hq4.free 1; clear hq4 hp4 hown hgrow hat)
            go_roundw
            case rel => exact ⟨k + 1, _, us ++ [_], by omega, by omega, by go_num, by simp [HUS.out], by rw [rows6_succ HLS.out]; exact HP4.out⟩
            case measure => simp [intOf]; omega
    · have hend := rows6_end (hs := hs) hk2 (by omega)
      obtain ⟨R, hR⟩ : ∃ R, R = ((hs.take 4).map (List.take 6)).map fen := ⟨_, rfl⟩
      rw [← hR] at hend
      have hp := HP.out
      rw [hend] at hp
      have HHQ := Lib.hid (hp.hands (by rw [← hp.len, HUS.out]; omega))
      have HSZ := Lib.hid hp.below
      have HQB := Lib.hid hp.qblk
      have q0 := hp.qblk.cell 0
      have q1 := hp.qblk.cell 1
      simp at q0 q1
      obtain ⟨S, hS⟩ : ∃ S, S = scR words R := ⟨_, rfl⟩
      have HRS := Lib.hid hS
      have HRF := Lib.hid (show ∀ ts, TsoOf words R ts → check words R = 0 → ts = S from by intro ts h hc; rw [hS, hR]; rw [hR] at h hc; exact fen_tso (check_well hc) h)
      clear hp hR hend HP hS
      have hh2 : (k : Int) < hs.length ∧ ¬ (k : Int) < 4 ∨ ¬ (k : Int) < hs.length := by omega
      clear hgo
      rcases hh2 with ⟨hI2, hJ2⟩ | hI2
      all_goals
        by_cases hc : check words R = 0
        · have HC := Lib.hid hc
          clear hc
          go_wp2_with fail
          refine (results_any words _ R wr HHQ.out).mono ?_
          rintro e w2 ⟨v2, he, hl2, hb2⟩
          rw [HC.out, show errV 72 0 = .nilIface from rfl] at he
          rw [resL, if_pos HC.out, ← HRS.out] at hl2
          subst he
          have HL2 := Lib.hid hl2
          obtain ⟨A2, c2, rfl, hll, _⟩ := hl2
          have k2 := HQB.out.below hb2 HQB.out.lt
          have d0 := k2.cell 0
          have d1 := k2.cell 1
          simp at d0 d1
          have HB2 := Lib.hid (HSZ.out.trans (hb2.mono HSZ.out.size))
          have HHQ2 := Lib.hid ((HHQ.out.below hb2 (Nat.le_refl _)).more hb2.size)
          clear hb2 k2 q0 q1 c0 c1
          go_wp2_with fail
          refine (tresults_good words _ R w2 HHQ2.out HC.out).mono ?_
          rintro e w3 ⟨v3, ts, rfl, hl3, hto, hb3⟩
          have e := HRF.out ts hto HC.out
          subst e
          have HL3 := Lib.hid hl3
          obtain ⟨A3, c3, rfl, hlt3, _⟩ := hl3
          have HL2' := Lib.hid (HL2.out.below hb3 (Nat.le_refl _))
          have HB3 := Lib.hid (HB2.out.trans (hb3.mono HB2.out.size))
          clear hb3 d0 d1 hto HL2
          go_wp2_with (go_at_call 13; (with_reducible refine (rows_same ts _ _ _ _ _ HL2'.out HL3.out).mono ?_); rintro e w5 ⟨rfl, m, rfl⟩)
          go_ret
          exact ⟨rfl, below_drewN HB3.out _⟩
        · have HC := Lib.hid hc
          clear hc
          go_wp2_with fail
          refine (results_any words _ R wr HHQ.out).mono ?_
          rintro e w2 ⟨v2, he, hl2, hb2⟩
          rw [show errV 72 (check words R) = .iface 72 (.int .i64 (check words R)) from if_neg HC.out] at he
          subst he
          obtain ⟨A2, c2, rfl, _, _⟩ := hl2
          have k2 := HQB.out.below hb2 HQB.out.lt
          have d0 := k2.cell 0
          have d1 := k2.cell 1
          simp at d0 d1
          have HB2 := Lib.hid (HSZ.out.trans (hb2.mono HSZ.out.size))
          have HHQ2 := Lib.hid ((HHQ.out.below hb2 (Nat.le_refl _)).more hb2.size)
          clear hb2 k2 q0 q1 c0 c1
          go_wp2_with fail
          refine (tresults_bad words _ R w2 HHQ2.out HC.out).mono ?_
          rintro e w3 ⟨rfl, hb3⟩
          have HB3 := Lib.hid (HB2.out.trans (hb3.mono HB2.out.size))
          clear hb3 d0 d1
          go_wp2
          go_ret
          exact ⟨rfl, HB3.out⟩
end Go.Proofs.Ytbbecncelehlkaa
