/-
  latchgarthlaw3.SnapPlays: a round that begins to look.
-/
import Derived.Test.YtnplhjbbkccdnaaDoorSnapPW
namespace Go.Proofs.YtnplhjbbkccdnaaDoor.Snap
open Go.RowKit
set_option maxHeartbeats 8000000 in
set_option maxRecDepth 1000000 in
theorem round_l {w wr : World} {g b n c : Nat} {A : Option Addr} {steps : List (List Int)} {Q0 : Exit → Act → World → Prop} {k : Nat} (u2 u3 u4 u6 u9 u10 u11 u12 u13 u14 u15 u16 u17 u18 u19 u20 u21 u22 u23 u24 u25 u26 u27 u28 u29 u30 u31 u32 u33 u34 u35 u36 u37 u38 u39 u40 u41 u42 u43 u44 u45 u46 u47 u48 u49 u50 u51 u52 u53 u54 u55 u56 u57 u58 u59 u60 u61 u62 u63 u64 u65 u66 u67 u68 u69 u70 u71 u72 u73 u74 u75 u76 u77 u78 u79 u80 u81 u82 u83 u84 u85 u86 u87 u88 u89 u90 u91 u92 u93 u94 u95 u96 u97 u98 u99 u100 u101 u102 u103 u104 u105 u106 u107 u108 u109 u110 u111 u112 u113 u114 u115 u116 u117 u118 u119 u120 u121 u122 u123 u124 u125 u126 u127 u128 u129 u130 u131 u132 u133 u134 u135 u136 u137 u138 u139 u140 u141 u142 u143 u144 u145 u146 u147 u148 u149 u150 u151 u152 u153 u154 u155 u156 u157 u158 u159 u160 u161 u162 u163 u164 u165 u166 u167 u168 u169 u170 u171 u172 u173 u174 u175 u176 u177 u178 u179 u180 u181 u182 u183 u184 u185 u186 u187 u188 u189 u190 u191 : Value) (h1 : 1 ≤ n) (h4 : n ≤ 4) (hlt : k < steps.length) (hk300 : k < 300) (hinv : (∃ (s : SS) (v0 v1 v2 v3 v4 v5 v6 v7 : Value), UP w wr g b n k s s v0 v1 v2 v3 v4 v5 v6 v7)) (HN0 : Rws w w.heap.size (.slice A steps.length c) steps) (HG : Hid (ErrVar w)) (hQP : ∀ (c : List PanicEntry) (a : Act) (d : Option Tmp) (v : Value) (w : World), Q0 (.panic c) (a.put d v) w → Q0 (.panic c) a w) {x y : Int} (hx : steps[k]? = some [x, y]) (hy : y < 0) :
    Code.wp Tryd.prog mainBody (Exit.then (fun a' w'' => WI w g b n steps.length c A a' w'' ∧ Wmu steps.length a' < Wmu steps.length ⟨#[.int .i64 (n : Int), .slice A steps.length c, u2, u3, u4, .pointer (some ⟨g, 0, none⟩), u6, .pointer (some ⟨b, 0, none⟩), .int .i64 (k : Int), u9, u10, u11, u12, u13, u14, u15, u16, u17, u18, u19, u20, u21, u22, u23, u24, u25, u26, u27, u28, u29, u30, u31, u32, u33, u34, u35, u36, u37, u38, u39, u40, u41, u42, u43, u44, u45, u46, u47, u48, u49, u50, u51, u52, u53, u54, u55, u56, u57, u58, u59, u60, u61, u62, u63, u64, u65, u66, u67, u68, u69, u70, u71, u72, u73, u74, u75, u76, u77, u78, u79, u80, u81, u82, u83, u84, u85, u86, u87, u88, u89, u90, u91, u92, u93, u94, u95, u96, u97, u98, u99, u100, u101, u102, u103, u104, u105, u106, u107, u108, u109, u110, u111, u112, u113, u114, u115, u116, u117, u118, u119, u120, u121, u122, u123, u124, u125, u126, u127, u128, u129, u130, u131, u132, u133, u134, u135, u136, u137, u138, u139, u140, u141, u142, u143, u144, u145, u146, u147, u148, u149, u150, u151, u152, u153, u154, u155, u156, u157, u158, u159, u160, u161, u162, u163, u164, u165, u166, u167, u168, u169, u170, u171, u172, u173, u174, u175, u176, u177, u178, u179, u180, u181, u182, u183, u184, u185, u186, u187, u188, u189, u190, u191], []⟩) Q0) ⟨#[.int .i64 (n : Int), .slice A steps.length c, u2, u3, u4, .pointer (some ⟨g, 0, none⟩), u6, .pointer (some ⟨b, 0, none⟩), .int .i64 (k : Int), u9, u10, u11, u12, u13, u14, u15, u16, u17, u18, u19, u20, u21, u22, u23, u24, u25, u26, u27, u28, u29, u30, u31, u32, u33, u34, u35, u36, u37, u38, u39, u40, u41, u42, u43, u44, u45, u46, u47, u48, u49, u50, u51, u52, u53, u54, u55, u56, u57, u58, u59, u60, u61, u62, u63, u64, u65, u66, u67, u68, u69, u70, u71, u72, u73, u74, u75, u76, u77, u78, u79, u80, u81, u82, u83, u84, u85, u86, u87, u88, u89, u90, u91, u92, u93, u94, u95, u96, u97, u98, u99, u100, u101, u102, u103, u104, u105, u106, u107, u108, u109, u110, u111, u112, u113, u114, u115, u116, u117, u118, u119, u120, u121, u122, u123, u124, u125, u126, u127, u128, u129, u130, u131, u132, u133, u134, u135, u136, u137, u138, u139, u140, u141, u142, u143, u144, u145, u146, u147, u148, u149, u150, u151, u152, u153, u154, u155, u156, u157, u158, u159, u160, u161, u162, u163, u164, u165, u166, u167, u168, u169, u170, u171, u172, u173, u174, u175, u176, u177, u178, u179, u180, u181, u182, u183, u184, u185, u186, u187, u188, u189, u190, u191], []⟩ wr := by
  conv => arg 2; whnf
  unfold WI Wmu
  have hI : (k : Int) < steps.length := by omega
  have h2I : (k : Int) < 300 := by omega
  obtain ⟨s, v0, v1, v2, v3, v4, v5, v6, v7, hup⟩ := hinv
  obtain ⟨bs, os, rfl, A', c', hxc, hnl⟩ := (HN0.below hup.lk.below (Nat.le_refl _)).at_ hx
  clear hx
  have HLX := Lib.hid (show ∀ W, Below w.heap.size w W → Nums W w.heap.size (.slice A' _ c') _ from fun W hb => hnl.keep fun p hp => (hb.cell hp).trans (hup.lk.below.cell hp).symm)
  have HU := Lib.hid hup
  clear hnl hup HN0
  have hbb : ((([x, y] : List Int).length : Int) == 2) = true := rfl
  have hbc : ((([x, y] : List Int).length : Int) == 1) = false := rfl
  obtain ⟨B0, d0, B1, d1, B2, d2, B3, d3, B4, d4, B5, d5, B6, d6, B7, d7, rfl, rfl, rfl, rfl, rfl, rfl, rfl, rfl⟩ := HU.out.rk.forms
  have hnl := HLX.out _ HU.out.lk.below
  obtain ⟨b1, o1, rfl, hbw, hc0⟩ := hnl.at_ (k := 0) rfl
  rw [Nat.add_zero] at hc0
  obtain ⟨b2, o2, e2, _, hc1⟩ := hnl.at_ (k := 1) rfl
  injection e2 with e2
  injection e2 with e2 e3 _
  subst e2 e3
  have HC2 := Lib.hid (show ∀ W, Below w.heap.size w W → W.cell? ⟨b1, o1, none⟩ = some (.int .i64 x) ∧ W.cell? ⟨b1, o1 + 1, none⟩ = some (.int .i64 y) from fun W hb => ⟨(hb.cell (p := ⟨b1, o1, none⟩) hbw).trans ((HU.out.lk.below.cell (p := ⟨b1, o1, none⟩) hbw).symm.trans hc0), (hb.cell (p := ⟨b1, o1 + 1, none⟩) hbw).trans ((HU.out.lk.below.cell (p := ⟨b1, o1 + 1, none⟩) hbw).symm.trans hc1)⟩)
  have hyd : decide (0 ≤ y) = false := decide_eq_false (by omega)
  have hye : decide (y < 0) = true := decide_eq_true hy
  go_upto_region 17 with fail
  clear hnl hc0 hc1 hxc HLX
  go_cut [12, 13] from 95 to 102 (fun t12 t13 wx => t13 = .int .i64 (bgE n s x) ∧ ∃ (bv : Nat) (y0 y1 y2 y3 y4 y5 y6 y7 : Value), t12 = .pointer (some ⟨bv, 0, none⟩) ∧ Block wx bv 34 #[y0, y1, y2, y3, y4, y5, y6, y7] ∧ UP w wx g b n k s s (.slice B0 n d0) (.slice B1 n d1) (.slice B2 n d2) (.slice B3 n d3) (.slice B4 n d4) (.slice B5 n d5) (.slice B6 n d6) (.slice B7 n d7) ∧ BX (fun z => z = g ∨ z = b) wx n (glk n s x) y0 y1 y2 y3 y4 y5 y6 y7)
  case first =>
    refine preg17_any HU HC2 h1 h4 _ _ _ _ _ _ _ _ _ _ _ _ _ _ _ _ _ _ _ _ _ _ _ _ _ _ _ _ _ _ _ _ _ _ _ _ _ _ _ _ _ _ _ _ _ _ _ _ _ _ _ _ _ _ _ _ _ _ _ _ _ _ _ _ _ _ _ _ _ _ _ _ _ _ _ _ _ _ _ _ _ _ _ _ _ _ _ _ _ _ _ _ _ _ _ _ _ _ _ _ _ _ _ _ _ _ _ _ _ _ _ _ _ _ _ _ _ _ _ _ _ _ _ _ _ _ _ _ _ _ _ _ _ _ _ _ _ _ _ _ _ _ _ _ _ _ _ _ _ _ _ _ _ _ _ _ _ _ _ _ _ _ _ _ _ _ _ _ _ _ _ _ _ _ _ _ _ _ _ _ _ _ _ _ _ _ _ _ _ _ (Lib.hid ?_) (fun c0 a0 d0 v0 w0 h => hQP c0 a0 d0 v0 w0 h)
    intro x0 x1 x2 x3 x4 x5 x6 x7 W bv y0 y1 y2 y3 y4 y5 y6 y7 hb9 hu9 hr9
    go_wp2_with fail
    go_meet
    exact ⟨rfl, _, _, _, _, _, _, _, _, _, rfl, hb9, hu9, hr9⟩
  case rest =>
    obtain ⟨rfl, bv, y0, y1, y2, y3, y4, y5, y6, y7, rfl, hbv, hu2, hr2⟩ := hcut
    obtain ⟨wx, rfl⟩ : ∃ wx : World, wx = wc := ⟨_, rfl⟩
    obtain ⟨E0, f0, E1, f1, E2, f2, E3, f3, E4, f4, E5, f5, E6, f6, E7, f7, rfl, rfl, rfl, rfl, rfl, rfl, rfl, rfl⟩ := hr2.forms
    obtain ⟨ST, hST⟩ : ∃ t, t = glk n s x := ⟨_, rfl⟩
    rw [← hST] at hr2
    have HST := Lib.hid hST
    clear hST
    have s0 := hbv.cell 0
    have s1 := hbv.cell 1
    have s2 := hbv.cell 2
    have s3 := hbv.cell 3
    have s4 := hbv.cell 4
    have s5 := hbv.cell 5
    have s6 := hbv.cell 6
    have s7 := hbv.cell 7
    simp at s0 s1 s2 s3 s4 s5 s6 s7
    obtain ⟨q0, q1, q2, q3, q4, q5, q6, q7⟩ := hu2.q
    have ff0 := hu2.box.free 0
    have ff1 := hu2.box.free 1
    have ff2 := hu2.box.free 2
    have ff3 := hu2.box.free 3
    have ff4 := hu2.box.free 4
    have ff5 := hu2.box.free 5
    have ff6 := hu2.box.free 6
    have ff7 := hu2.box.free 7
    have HUS := Lib.hid (hu2.store hr2)
    clear hbv hu2 hr2
    go_upto_region 19 with fail
    clear s0 q0 ff0 s1 q1 ff1 s2 q2 ff2 s3 q3 ff3 s4 q4 ff4 s5 q5 ff5 s6 q6 ff6 s7 q7 ff7
    have hus := HUS.out
    obtain ⟨V, hV⟩ : ∃ V, V = ((((((((wx.setCell ⟨b, 0, none⟩ (.slice E0 n f0)).setCell ⟨b, 1, none⟩ (.slice E1 n f1)).setCell ⟨b, 2, none⟩ (.slice E2 n f2)).setCell ⟨b, 3, none⟩ (.slice E3 n f3)).setCell ⟨b, 4, none⟩ (.slice E4 n f4)).setCell ⟨b, 5, none⟩ (.slice E5 n f5)).setCell ⟨b, 6, none⟩ (.slice E6 n f6)).setCell ⟨b, 7, none⟩ (.slice E7 n f7)) := ⟨_, rfl⟩
    rw [← hV] at hus ⊢
    have HUV := Lib.hid hus
    clear hus hV HUS
    have hc0 := HC2.out V HUV.out.lk.below
    obtain ⟨EE, hEE⟩ : ∃ E, E = bgE n s x := ⟨_, rfl⟩
    have hpw := lookT HUV.out.lk x
    rw [← hEE, ← HST.out] at hpw
    rw [← hEE]
    have HP := Lib.hid hpw
    clear hpw hEE
    go_wp2_with (first | (go_at_call 10; (with_reducible refine HP.out.mono ?_); rintro e w4 ⟨rfl, hl4, ht4⟩; have HU4 := Lib.hid (HUV.out.turn hl4 ht4); clear hl4 ht4) | (go_at_call 6; (with_reducible refine (errIs HG.out HU4.out.lk.below).mono ?_); rintro e w5 ⟨rfl, hb5⟩; have HU5 := Lib.hid (HU4.out.call hb5); clear hb5))
    have HU6 := Lib.hid (HU5.out.later (Nat.le_succ k))
    have hcz := HC2.out w5 HU5.out.lk.below
    clear HU4 HU5 HC2
    have hnn : ((n : Int) != (n : Int)) = false := by simp
    go_upto_region 28 with (go_at_call 14; (with_reducible refine (valsL HU6.out.lk).mono ?_); rintro e w9 ⟨u, rfl, hu9, -, hb9, -⟩; have HN9 := Lib.hid hu9; have HB9 := Lib.hid hb9; clear hu9 hb9)
    obtain ⟨bv, ov, cv, rfl, hbv, hvc⟩ := vals_of HN9.out h1
    have HU4 := Lib.hid (HU6.out.call HB9.out)
    have HV := Lib.hid hvc
    have HBV := Lib.hid hbv
    clear hvc hbv HN9 HB9
    go_wp2_with fail
    go_loopw [22] (fun i wr => ∃ q : Nat, q ≤ n ∧ i = .int .i64 q ∧ Below w9.heap.size w9 wr ∧ UP w wr g b n (k + 1) ST ST (.slice E0 n f0) (.slice E1 n f1) (.slice E2 n f2) (.slice E3 n f3) (.slice E4 n f4) (.slice E5 n f5) (.slice E6 n f6) (.slice E7 n f7)) (fun i _ => n - (intOf i).toNat)
    case atStart => exact ⟨0, by omega, rfl, Below.refl _ _, HU4.out⟩
    case round =>
      clear HU4
      obtain ⟨q, hq, rfl, hbl, hup⟩ := hrel
      have HU3 := Lib.hid hup
      have HBL := Lib.hid hbl
      clear hup hbl
      by_cases hqn : q < n
      · have hqI : (q : Int) < n := by omega
        have hcv := (HBL.out.drew.cell (p := ⟨bv, ov + q, none⟩) HBV.out).trans (HV.out q hqn)
        obtain ⟨bt, ot, ct, b0, o0, c0, ev1, ev0, q1, q2, q3, q4⟩ := HU3.out.drew.qt hqn
        injection ev1 with ev1 _ ev1c
        injection ev0 with ev0 _ ev0c
        subst ev1 ev1c ev0 ev0c
        obtain ⟨a, ha⟩ : ∃ a, a = (ST.h q).a := ⟨_, rfl⟩
        obtain ⟨y, hy⟩ : ∃ y, y = (ST.wd q).v := ⟨_, rfl⟩
        have HA := Lib.hid (atL HU3.out.drew.lk q)
        rw [if_pos (show 0 ≤ (q : Int) ∧ (q : Int) < n by omega), Int.toNat_natCast, ← ha] at HA
        rw [← ha] at q2
        rw [← hy] at q4 hcv
        have haa : ((a : Int) != (a : Int)) = false := by simp
        have hyy : ((y : Int) != (y : Int)) = false := by simp
        have HS := Lib.hid (show (fun W : World => W.cell? ⟨b, 1, none⟩ = some (.slice (some ⟨bt, ot, none⟩) n f1) ∧ W.cell? ⟨bt, ot + q, none⟩ = some (.int .i64 (a : Int)) ∧ W.cell? ⟨b, 0, none⟩ = some (.slice (some ⟨b0, o0, none⟩) n f0) ∧ W.cell? ⟨b0, o0 + q * 3, none⟩ = some (.int .i64 (y : Int)) ∧ W.cell? ⟨bv, ov + q, none⟩ = some (.int .i64 (y : Int))) _ from ⟨q1, q2, q3, q4, hcv⟩)
        clear ha hy q1 q2 q3 q4 hcv
        go_wp2_with fail
        go_region_held3 (fun W : World => W.cell? ⟨b, 1, none⟩ = some (.slice (some ⟨bt, ot, none⟩) n f1) ∧ W.cell? ⟨bt, ot + q, none⟩ = some (.int .i64 (a : Int)) ∧ W.cell? ⟨b, 0, none⟩ = some (.slice (some ⟨b0, o0, none⟩) n f0) ∧ W.cell? ⟨b0, o0 + q * 3, none⟩ = some (.int .i64 (y : Int)) ∧ W.cell? ⟨bv, ov + q, none⟩ = some (.int .i64 (y : Int))) (exact HS.out) ((go_at_call 15; (with_reducible refine HA.out.mono ?_); rintro e w9 ⟨rfl, rfl⟩))
        all_goals
          go_wp2
          go_roundw
          case rel => exact ⟨q + 1, by omega, by go_num, HBL.out.drew, HU3.out.drew⟩
          case measure => simp [intOf]; omega
      · obtain rfl : q = n := by omega
        have hqI : ¬ (q : Int) < q := by omega
        go_wp2
        go_roundw
        case rel => exact ⟨k + 1, by omega, by go_num, by omega, ST, _, _, _, _, _, _, _, _, HU3.out⟩
        case measure => simp [intOf]; omega
end Go.Proofs.YtnplhjbbkccdnaaDoor.Snap
