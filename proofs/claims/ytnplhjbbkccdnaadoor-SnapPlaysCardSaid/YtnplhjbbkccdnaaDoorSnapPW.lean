/-
  latchgarthlaw3.SnapPlays: its great loop, a case of a round a theorem.
-/
import Derived.Test.YtnplhjbbkccdnaaDoorSnapUPs
import Derived.Test.YtnplhjbbkccdnaaDoorSnapRegs
import Derived.Deep.RegionHeld3
import Derived.LoopTactic
namespace Go.Proofs.YtnplhjbbkccdnaaDoor.Snap
open Go.RowKit
def firstLoop : Code → Option Code
  | .loop c => some c
  | .seq a b => match firstLoop a with
    | some c => some c
    | none => firstLoop b
  | .block _ c => firstLoop c
  | .scope c => firstLoop c
  | .cond _ a b => match firstLoop a with
    | some c => some c
    | none => firstLoop b
  | _ => none
noncomputable def mainBody : Code := ((Tryd.f3.body.bind firstLoop).getD .skip)
set_option maxRecDepth 1000000 in
def WI (w : World) (g b n len c : Nat) (A : Option Addr) (a : Act) (w' : World) : Prop := ∃ u2 u3 u4 u6 u8 u9 u10 u11 u12 u13 u14 u15 u16 u17 u18 u19 u20 u21 u22 u23 u24 u25 u26 u27 u28 u29 u30 u31 u32 u33 u34 u35 u36 u37 u38 u39 u40 u41 u42 u43 u44 u45 u46 u47 u48 u49 u50 u51 u52 u53 u54 u55 u56 u57 u58 u59 u60 u61 u62 u63 u64 u65 u66 u67 u68 u69 u70 u71 u72 u73 u74 u75 u76 u77 u78 u79 u80 u81 u82 u83 u84 u85 u86 u87 u88 u89 u90 u91 u92 u93 u94 u95 u96 u97 u98 u99 u100 u101 u102 u103 u104 u105 u106 u107 u108 u109 u110 u111 u112 u113 u114 u115 u116 u117 u118 u119 u120 u121 u122 u123 u124 u125 u126 u127 u128 u129 u130 u131 u132 u133 u134 u135 u136 u137 u138 u139 u140 u141 u142 u143 u144 u145 u146 u147 u148 u149 u150 u151 u152 u153 u154 u155 u156 u157 u158 u159 u160 u161 u162 u163 u164 u165 u166 u167 u168 u169 u170 u171 u172 u173 u174 u175 u176 u177 u178 u179 u180 u181 u182 u183 u184 u185 u186 u187 u188 u189 u190 u191 : Value, (∃ k : Nat, k ≤ len ∧ u8 = .int .i64 k ∧ k ≤ 300 ∧ (∃ (s : SS) (v0 v1 v2 v3 v4 v5 v6 v7 : Value), UP w w' g b n k s s v0 v1 v2 v3 v4 v5 v6 v7)) ∧ a = ⟨#[.int .i64 (n : Int), .slice A len c, u2, u3, u4, .pointer (some ⟨g, 0, none⟩), u6, .pointer (some ⟨b, 0, none⟩), u8, u9, u10, u11, u12, u13, u14, u15, u16, u17, u18, u19, u20, u21, u22, u23, u24, u25, u26, u27, u28, u29, u30, u31, u32, u33, u34, u35, u36, u37, u38, u39, u40, u41, u42, u43, u44, u45, u46, u47, u48, u49, u50, u51, u52, u53, u54, u55, u56, u57, u58, u59, u60, u61, u62, u63, u64, u65, u66, u67, u68, u69, u70, u71, u72, u73, u74, u75, u76, u77, u78, u79, u80, u81, u82, u83, u84, u85, u86, u87, u88, u89, u90, u91, u92, u93, u94, u95, u96, u97, u98, u99, u100, u101, u102, u103, u104, u105, u106, u107, u108, u109, u110, u111, u112, u113, u114, u115, u116, u117, u118, u119, u120, u121, u122, u123, u124, u125, u126, u127, u128, u129, u130, u131, u132, u133, u134, u135, u136, u137, u138, u139, u140, u141, u142, u143, u144, u145, u146, u147, u148, u149, u150, u151, u152, u153, u154, u155, u156, u157, u158, u159, u160, u161, u162, u163, u164, u165, u166, u167, u168, u169, u170, u171, u172, u173, u174, u175, u176, u177, u178, u179, u180, u181, u182, u183, u184, u185, u186, u187, u188, u189, u190, u191], []⟩
def Wmu (len : Nat) (a : Act) : Nat := len - (intOf (a.tmps.getD 8 undef)).toNat
set_option maxHeartbeats 8000000 in
set_option maxRecDepth 1000000 in
theorem round_none {w wr : World} {g b n c : Nat} {A : Option Addr} {steps : List (List Int)} {Q0 : Exit → Act → World → Prop} {k : Nat} (u2 u3 u4 u6 u9 u10 u11 u12 u13 u14 u15 u16 u17 u18 u19 u20 u21 u22 u23 u24 u25 u26 u27 u28 u29 u30 u31 u32 u33 u34 u35 u36 u37 u38 u39 u40 u41 u42 u43 u44 u45 u46 u47 u48 u49 u50 u51 u52 u53 u54 u55 u56 u57 u58 u59 u60 u61 u62 u63 u64 u65 u66 u67 u68 u69 u70 u71 u72 u73 u74 u75 u76 u77 u78 u79 u80 u81 u82 u83 u84 u85 u86 u87 u88 u89 u90 u91 u92 u93 u94 u95 u96 u97 u98 u99 u100 u101 u102 u103 u104 u105 u106 u107 u108 u109 u110 u111 u112 u113 u114 u115 u116 u117 u118 u119 u120 u121 u122 u123 u124 u125 u126 u127 u128 u129 u130 u131 u132 u133 u134 u135 u136 u137 u138 u139 u140 u141 u142 u143 u144 u145 u146 u147 u148 u149 u150 u151 u152 u153 u154 u155 u156 u157 u158 u159 u160 u161 u162 u163 u164 u165 u166 u167 u168 u169 u170 u171 u172 u173 u174 u175 u176 u177 u178 u179 u180 u181 u182 u183 u184 u185 u186 u187 u188 u189 u190 u191 : Value) (h1 : 1 ≤ n) (h4 : n ≤ 4) (hlt : k < steps.length) (hk300 : k < 300) (hinv : (∃ (s : SS) (v0 v1 v2 v3 v4 v5 v6 v7 : Value), UP w wr g b n k s s v0 v1 v2 v3 v4 v5 v6 v7)) (HN0 : Rws w w.heap.size (.slice A steps.length c) steps) (_HG : Hid (ErrVar w)) (_hQP : ∀ (c : List PanicEntry) (a : Act) (d : Option Tmp) (v : Value) (w : World), Q0 (.panic c) (a.put d v) w → Q0 (.panic c) a w) {l : List Int} (hx : steps[k]? = some l) (hl2 : l.length ≠ 2) (hl1 : l.length ≠ 1) :
    Code.wp Tryd.prog mainBody (Exit.then (fun a' w'' => WI w g b n steps.length c A a' w'' ∧ Wmu steps.length a' < Wmu steps.length ⟨#[.int .i64 (n : Int), .slice A steps.length c, u2, u3, u4, .pointer (some ⟨g, 0, none⟩), u6, .pointer (some ⟨b, 0, none⟩), .int .i64 (k : Int), u9, u10, u11, u12, u13, u14, u15, u16, u17, u18, u19, u20, u21, u22, u23, u24, u25, u26, u27, u28, u29, u30, u31, u32, u33, u34, u35, u36, u37, u38, u39, u40, u41, u42, u43, u44, u45, u46, u47, u48, u49, u50, u51, u52, u53, u54, u55, u56, u57, u58, u59, u60, u61, u62, u63, u64, u65, u66, u67, u68, u69, u70, u71, u72, u73, u74, u75, u76, u77, u78, u79, u80, u81, u82, u83, u84, u85, u86, u87, u88, u89, u90, u91, u92, u93, u94, u95, u96, u97, u98, u99, u100, u101, u102, u103, u104, u105, u106, u107, u108, u109, u110, u111, u112, u113, u114, u115, u116, u117, u118, u119, u120, u121, u122, u123, u124, u125, u126, u127, u128, u129, u130, u131, u132, u133, u134, u135, u136, u137, u138, u139, u140, u141, u142, u143, u144, u145, u146, u147, u148, u149, u150, u151, u152, u153, u154, u155, u156, u157, u158, u159, u160, u161, u162, u163, u164, u165, u166, u167, u168, u169, u170, u171, u172, u173, u174, u175, u176, u177, u178, u179, u180, u181, u182, u183, u184, u185, u186, u187, u188, u189, u190, u191], []⟩) Q0) ⟨#[.int .i64 (n : Int), .slice A steps.length c, u2, u3, u4, .pointer (some ⟨g, 0, none⟩), u6, .pointer (some ⟨b, 0, none⟩), .int .i64 (k : Int), u9, u10, u11, u12, u13, u14, u15, u16, u17, u18, u19, u20, u21, u22, u23, u24, u25, u26, u27, u28, u29, u30, u31, u32, u33, u34, u35, u36, u37, u38, u39, u40, u41, u42, u43, u44, u45, u46, u47, u48, u49, u50, u51, u52, u53, u54, u55, u56, u57, u58, u59, u60, u61, u62, u63, u64, u65, u66, u67, u68, u69, u70, u71, u72, u73, u74, u75, u76, u77, u78, u79, u80, u81, u82, u83, u84, u85, u86, u87, u88, u89, u90, u91, u92, u93, u94, u95, u96, u97, u98, u99, u100, u101, u102, u103, u104, u105, u106, u107, u108, u109, u110, u111, u112, u113, u114, u115, u116, u117, u118, u119, u120, u121, u122, u123, u124, u125, u126, u127, u128, u129, u130, u131, u132, u133, u134, u135, u136, u137, u138, u139, u140, u141, u142, u143, u144, u145, u146, u147, u148, u149, u150, u151, u152, u153, u154, u155, u156, u157, u158, u159, u160, u161, u162, u163, u164, u165, u166, u167, u168, u169, u170, u171, u172, u173, u174, u175, u176, u177, u178, u179, u180, u181, u182, u183, u184, u185, u186, u187, u188, u189, u190, u191], []⟩ wr := by
  conv => arg 2; whnf
  unfold WI Wmu
  have hI : (k : Int) < steps.length := by omega
  have h2I : (k : Int) < 300 := by omega
  obtain ⟨s, v0, v1, v2, v3, v4, v5, v6, v7, hup⟩ := hinv
  obtain ⟨bs, os, rfl, A', c', hxc, hnl⟩ := (HN0.below hup.lk.below (Nat.le_refl _)).at_ hx
  clear hx
  have HLX := Lib.hid (show ∀ W, Below w.heap.size w W → Nums W w.heap.size (.slice A' _ c') _ from fun W hb => hnl.keep fun p hp => (hb.cell hp).trans (hup.lk.below.cell hp).symm)
  have HU := Lib.hid hup
  clear hnl hup HN0
  have hbb : ((l.length : Int) == 2) = false := by simp; omega
  have hbc : ((l.length : Int) == 1) = false := by simp; omega
  obtain ⟨B0, d0, B1, d1, B2, d2, B3, d3, B4, d4, B5, d5, B6, d6, B7, d7, rfl, rfl, rfl, rfl, rfl, rfl, rfl, rfl⟩ := HU.out.rk.forms
  have HU6 := Lib.hid (HU.out.later (Nat.le_succ k))
  clear HU HLX hl2 hl1
  have hnn : ((n : Int) != (n : Int)) = false := by simp
  go_upto_region 28 with (go_at_call 14; (with_reducible refine (valsL HU6.out.lk).mono ?_); rintro e w9 ⟨u, rfl, hu9, -, hb9, -⟩; have HN9 := Lib.hid hu9; have HB9 := Lib.hid hb9; clear hu9 hb9)
  obtain ⟨bv, ov, cv, rfl, hbv, hvc⟩ := vals_of HN9.out h1
  have HU4 := Lib.hid (HU6.out.call HB9.out)
  have HV := Lib.hid hvc
  have HBV := Lib.hid hbv
  clear hvc hbv HN9 HB9
  go_wp2_with fail
  go_loopw [22] (fun i wr => ∃ q : Nat, q ≤ n ∧ i = .int .i64 q ∧ Below w9.heap.size w9 wr ∧ UP w wr g b n (k + 1) s s (.slice B0 n d0) (.slice B1 n d1) (.slice B2 n d2) (.slice B3 n d3) (.slice B4 n d4) (.slice B5 n d5) (.slice B6 n d6) (.slice B7 n d7)) (fun i _ => n - (intOf i).toNat)
  case atStart => exact ⟨0, by omega, rfl, Below.refl _ _, HU4.out⟩
  case round =>
    clear HU4
    obtain ⟨q, hq, rfl, hbl, hup⟩ := hrel
    have HU3 := Lib.hid hup
    have HBL := Lib.hid hbl
    clear hup hbl
    by_cases hqn : q < n
    · have hqI : (q : Int) < n := by omega
      have hcv := (HBL.out.drew.cell (p := ⟨bv, ov + q, none⟩) HBV.out).trans (HV.out q hqn)
      obtain ⟨bt, ot, ct, b0, o0, c0, ev1, ev0, q1, q2, q3, q4⟩ := HU3.out.drew.qt hqn
      injection ev1 with ev1 _ ev1c
      injection ev0 with ev0 _ ev0c
      subst ev1 ev1c ev0 ev0c
      obtain ⟨a, ha⟩ : ∃ a, a = (s.h q).a := ⟨_, rfl⟩
      obtain ⟨y, hy⟩ : ∃ y, y = (s.wd q).v := ⟨_, rfl⟩
      have HA := Lib.hid (atL HU3.out.drew.lk q)
      rw [if_pos (show 0 ≤ (q : Int) ∧ (q : Int) < n by omega), Int.toNat_natCast, ← ha] at HA
      rw [← ha] at q2
      rw [← hy] at q4 hcv
      have haa : ((a : Int) != (a : Int)) = false := by simp
      have hyy : ((y : Int) != (y : Int)) = false := by simp
      have HS := Lib.hid (show (fun W : World => W.cell? ⟨b, 1, none⟩ = some (.slice (some ⟨bt, ot, none⟩) n d1) ∧ W.cell? ⟨bt, ot + q, none⟩ = some (.int .i64 (a : Int)) ∧ W.cell? ⟨b, 0, none⟩ = some (.slice (some ⟨b0, o0, none⟩) n d0) ∧ W.cell? ⟨b0, o0 + q * 3, none⟩ = some (.int .i64 (y : Int)) ∧ W.cell? ⟨bv, ov + q, none⟩ = some (.int .i64 (y : Int))) _ from ⟨q1, q2, q3, q4, hcv⟩)
      clear ha hy q1 q2 q3 q4 hcv
      go_wp2_with fail
      go_region_held3 (fun W : World => W.cell? ⟨b, 1, none⟩ = some (.slice (some ⟨bt, ot, none⟩) n d1) ∧ W.cell? ⟨bt, ot + q, none⟩ = some (.int .i64 (a : Int)) ∧ W.cell? ⟨b, 0, none⟩ = some (.slice (some ⟨b0, o0, none⟩) n d0) ∧ W.cell? ⟨b0, o0 + q * 3, none⟩ = some (.int .i64 (y : Int)) ∧ W.cell? ⟨bv, ov + q, none⟩ = some (.int .i64 (y : Int))) (exact HS.out) ((go_at_call 15; (with_reducible refine HA.out.mono ?_); rintro e w9 ⟨rfl, rfl⟩))
      all_goals
        go_wp2
        go_roundw
        case rel => exact ⟨q + 1, by omega, by go_num, HBL.out.drew, HU3.out.drew⟩
        case measure => simp [intOf]; omega
    · obtain rfl : q = n := by omega
      have hqI : ¬ (q : Int) < q := by omega
      go_wp2
      go_roundw
      case rel => exact ⟨k + 1, by omega, by go_num, by omega, s, _, _, _, _, _, _, _, _, HU3.out⟩
      case measure => simp [intOf]; omega
end Go.Proofs.YtnplhjbbkccdnaaDoor.Snap
