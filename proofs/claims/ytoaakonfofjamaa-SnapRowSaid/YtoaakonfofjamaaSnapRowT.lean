/-
  latchgarthlaw3.SnapRow: a round of its great loop.
-/
import Derived.Test.YtoaakonfofjamaaSnapRowW
namespace Go.Proofs.Ytoaakonfofjamaa.Snap
open Go.RowKit
set_option maxHeartbeats 8000000 in
set_option maxRecDepth 1000000 in
theorem round_two {w wr : World} {g h n c : Nat} {A : Option Addr} {steps : List (List Int)} {Q0 : Exit → Act → World → Prop} {k : Nat} (u4 u13 u14 u15 u17 u18 u19 u20 u21 u22 u23 u55 u56 u57 u58 u59 u60 u61 u62 u63 u64 u65 u66 u67 u68 u69 u70 u71 u72 u73 u74 u75 u76 u77 u78 u79 u80 u81 u82 u83 u84 u85 u86 u87 u88 u89 u90 u91 u92 u93 u94 u95 u96 u97 u98 u99 u100 u101 u102 u103 u104 u105 u106 u107 u108 u109 u110 u111 u112 u113 u114 u115 u116 u117 u118 u119 u120 u121 u122 u123 u124 u125 u126 u127 u128 u129 u130 u131 u132 u133 u134 u135 u136 u137 u138 u139 u140 u141 u142 u143 u144 u145 u146 u147 u148 u149 u150 u151 u152 u153 u154 u155 u156 u157 u158 u159 u160 u161 u162 u163 u164 u165 u166 u167 u168 u169 u170 u171 u172 u173 u174 u175 u176 u177 u178 u179 u180 u181 u182 u183 u184 u185 u186 u187 u188 u189 u190 u191 u192 u193 u194 u195 u196 u197 u198 u199 u200 u201 u202 u203 u204 u205 u206 u207 u208 u209 u210 u211 u212 u213 u214 u215 : Value) (h1 : 1 ≤ n) (h4 : n ≤ 4) (hlt : k < steps.length) (hk200 : k < 300) (hinv : Inv w wr g h n k u13 u14 u15) (HN0 : Rws w w.heap.size (.slice A steps.length c) steps) {x y : Int} (hx : steps[k]? = some [x, y]) :
    Code.wp Try.prog mainBody (Exit.then (fun a' w'' => WI w g h n steps.length c A a' w'' ∧ Wmu steps.length a' < Wmu steps.length ⟨#[.int .i64 (n : Int), .slice A steps.length c, undef, undef, u4, .bool true, .pointer (some ⟨g, 0, none⟩), .nilIface, .slice (some ⟨h, 0, none⟩) n n, .slice (some ⟨h + 1, 0, none⟩) n n, .slice (some ⟨h + 1 + 1, 0, none⟩) n n, .slice (some ⟨h + 1 + 1 + 1, 0, none⟩) n n, .slice (some ⟨h + 1 + 1 + 1 + 1, 0, none⟩) n n, u13, u14, u15, .int .i64 (k : Int), u17, u18, u19, u20, u21, u22, u23, undef, undef, undef, undef, undef, .bool true, .bool true, .bool false, .tuple #[.pointer (some ⟨g, 0, none⟩), .nilIface], .int .i64 (n : Int), .tuple #[.pointer (some ⟨g, 0, none⟩), .nilIface], .pointer (some ⟨g, 0, none⟩), .nilIface, .nilIface, .bool false, undef, undef, undef, undef, undef, undef, .int .i64 (n : Int), .slice (some ⟨h, 0, none⟩) n n, .int .i64 (n : Int), .slice (some ⟨h + 1, 0, none⟩) n n, .int .i64 (n : Int), .slice (some ⟨h + 1 + 1, 0, none⟩) n n, .int .i64 (n : Int), .slice (some ⟨h + 1 + 1 + 1, 0, none⟩) n n, .int .i64 (n : Int), .slice (some ⟨h + 1 + 1 + 1 + 1, 0, none⟩) n n, u55, u56, u57, u58, u59, u60, u61, u62, u63, u64, u65, u66, u67, u68, u69, u70, u71, u72, u73, u74, u75, u76, u77, u78, u79, u80, u81, u82, u83, u84, u85, u86, u87, u88, u89, u90, u91, u92, u93, u94, u95, u96, u97, u98, u99, u100, u101, u102, u103, u104, u105, u106, u107, u108, u109, u110, u111, u112, u113, u114, u115, u116, u117, u118, u119, u120, u121, u122, u123, u124, u125, u126, u127, u128, u129, u130, u131, u132, u133, u134, u135, u136, u137, u138, u139, u140, u141, u142, u143, u144, u145, u146, u147, u148, u149, u150, u151, u152, u153, u154, u155, u156, u157, u158, u159, u160, u161, u162, u163, u164, u165, u166, u167, u168, u169, u170, u171, u172, u173, u174, u175, u176, u177, u178, u179, u180, u181, u182, u183, u184, u185, u186, u187, u188, u189, u190, u191, u192, u193, u194, u195, u196, u197, u198, u199, u200, u201, u202, u203, u204, u205, u206, u207, u208, u209, u210, u211, u212, u213, u214, u215, undef, undef, undef, undef, undef, undef, undef, undef, undef, undef, undef, undef, undef, undef, undef, undef, undef, undef, undef, undef, undef, undef, undef, undef, undef, undef, undef, undef, undef, undef, undef, undef, undef, undef, undef, undef, undef, undef, undef, undef, undef, undef, undef, undef, undef, undef, undef, undef, undef, undef, undef, undef, undef, undef, undef, undef, undef, undef, undef, undef, undef, undef, undef, undef, undef, undef, undef, undef, undef, undef, undef], []⟩) Q0) ⟨#[.int .i64 (n : Int), .slice A steps.length c, undef, undef, u4, .bool true, .pointer (some ⟨g, 0, none⟩), .nilIface, .slice (some ⟨h, 0, none⟩) n n, .slice (some ⟨h + 1, 0, none⟩) n n, .slice (some ⟨h + 1 + 1, 0, none⟩) n n, .slice (some ⟨h + 1 + 1 + 1, 0, none⟩) n n, .slice (some ⟨h + 1 + 1 + 1 + 1, 0, none⟩) n n, u13, u14, u15, .int .i64 (k : Int), u17, u18, u19, u20, u21, u22, u23, undef, undef, undef, undef, undef, .bool true, .bool true, .bool false, .tuple #[.pointer (some ⟨g, 0, none⟩), .nilIface], .int .i64 (n : Int), .tuple #[.pointer (some ⟨g, 0, none⟩), .nilIface], .pointer (some ⟨g, 0, none⟩), .nilIface, .nilIface, .bool false, undef, undef, undef, undef, undef, undef, .int .i64 (n : Int), .slice (some ⟨h, 0, none⟩) n n, .int .i64 (n : Int), .slice (some ⟨h + 1, 0, none⟩) n n, .int .i64 (n : Int), .slice (some ⟨h + 1 + 1, 0, none⟩) n n, .int .i64 (n : Int), .slice (some ⟨h + 1 + 1 + 1, 0, none⟩) n n, .int .i64 (n : Int), .slice (some ⟨h + 1 + 1 + 1 + 1, 0, none⟩) n n, u55, u56, u57, u58, u59, u60, u61, u62, u63, u64, u65, u66, u67, u68, u69, u70, u71, u72, u73, u74, u75, u76, u77, u78, u79, u80, u81, u82, u83, u84, u85, u86, u87, u88, u89, u90, u91, u92, u93, u94, u95, u96, u97, u98, u99, u100, u101, u102, u103, u104, u105, u106, u107, u108, u109, u110, u111, u112, u113, u114, u115, u116, u117, u118, u119, u120, u121, u122, u123, u124, u125, u126, u127, u128, u129, u130, u131, u132, u133, u134, u135, u136, u137, u138, u139, u140, u141, u142, u143, u144, u145, u146, u147, u148, u149, u150, u151, u152, u153, u154, u155, u156, u157, u158, u159, u160, u161, u162, u163, u164, u165, u166, u167, u168, u169, u170, u171, u172, u173, u174, u175, u176, u177, u178, u179, u180, u181, u182, u183, u184, u185, u186, u187, u188, u189, u190, u191, u192, u193, u194, u195, u196, u197, u198, u199, u200, u201, u202, u203, u204, u205, u206, u207, u208, u209, u210, u211, u212, u213, u214, u215, undef, undef, undef, undef, undef, undef, undef, undef, undef, undef, undef, undef, undef, undef, undef, undef, undef, undef, undef, undef, undef, undef, undef, undef, undef, undef, undef, undef, undef, undef, undef, undef, undef, undef, undef, undef, undef, undef, undef, undef, undef, undef, undef, undef, undef, undef, undef, undef, undef, undef, undef, undef, undef, undef, undef, undef, undef, undef, undef, undef, undef, undef, undef, undef, undef, undef, undef, undef, undef, undef, undef], []⟩ wr := by
  conv => arg 2; whnf
  unfold WI Wmu
  have HN := Lib.hid HN0
  clear HN0
  obtain ⟨i0, hi0, hz0, hz1, hz2⟩ := info_parts TintI.info
  obtain ⟨i1, hi1, hy0, hy1, hy2⟩ := info_parts Tints_info
  have hwn : IntKind.i64.wrap ((n : Int) - 1) = (n : Int) - 1 := IntWalk.i64_in _ (by omega)
  have hI : (k : Int) < steps.length := by omega
  have h2I : (k : Int) < 300 := by omega
  obtain ⟨T, s, Hh, bt, B, Wt, Sn, bl, hd, L, xF, xT, hT, hl, hgh, hm, hr, hLk⟩ := hinv
  have HT := Lib.hid hT
  have HL := Lib.hid hl
  have HM := Lib.hid hm
  have HR := Lib.hid hr
  have HLK := Lib.hid hLk
  have HGH := Lib.hid (show w.heap.size ≤ g ∧ g < h ∧ h + 4 < wr.heap.size from ⟨hl.new, hgh, hm.lt⟩)
  clear hT hl hm hr hgh hLk
  obtain ⟨b, o, rfl, hbl, A', c', hxc, hnl⟩ := rws_at HN.out hx
  have hxr : wr.cell? ⟨b, o + k, none⟩ = some (.slice A' _ c') := (HL.out.below.cell (p := ⟨b, o + k, none⟩) hbl).trans hxc
  clear hx hxc
  have hT6 : T ≤ 1000000 := by have := HT.out; omega
  obtain ⟨b1, o1, rfl, hb1, hc0⟩ := hnl.at_ (k := 0) rfl
  rw [Nat.add_zero] at hc0
  obtain ⟨b2, o2, e2, _, hc1⟩ := hnl.at_ (k := 1) rfl
  injection e2 with e2
  injection e2 with e2 e3 _
  subst e2 e3
  have hxr2 : wr.cell? ⟨b, o + k, none⟩ = some (.slice (some ⟨b1, o1, none⟩) 2 c') := hxr
  clear hxr
  have d0 : wr.cell? ⟨b1, o1, none⟩ = some (.int .i64 x) := (HL.out.below.cell (p := ⟨b1, o1, none⟩) hb1).trans hc0
  have d1 : wr.cell? ⟨b1, o1 + 1, none⟩ = some (.int .i64 y) := (HL.out.below.cell (p := ⟨b1, o1 + 1, none⟩) hb1).trans hc1
  clear hnl hc0 hc1
  by_cases hp : 0 ≤ x ∧ x ≤ (n : Int) - 1
  · obtain ⟨p, rfl⟩ := Int.eq_ofNat_of_zero_le hp.1
    have hpn : p < n := by omega
    have hpI : (p : Int) < n := by omega
    have HIN := Lib.hid (inB_yes p 0 ((n : Int) - 1) hp.1 hp.2)
    have hsm := rs_small HR.out HL.out HT.out hpn
    by_cases hy : 0 ≤ y
    · have hbc := HM.out.r1.cell hpn
      obtain ⟨Bp, hBp⟩ : ∃ Bp, Bp = B p := ⟨_, rfl⟩
      rw [← hBp] at hsm hbc
      have hwB : IntKind.i64.wrap (Bp + 1) = Bp + 1 := IntWalk.i64_in _ (by omega)
      by_cases ha : (s.h p).a = 0
      · have hwr : wrE n s p (Bp + 1) = 0 := by
          unfold wrE bgE
          rw [if_neg (by omega), if_neg (by omega), if_neg (show ¬ (s.h (p : Int).toNat).a ≠ 0 from fun h => h ha)]
        have hst : gwr n s p (Bp + 1) = sbeg s p true (Bp + 1).toNat := by unfold gwr; rw [if_pos hwr]; rfl
        have HW := Lib.hid (writeNil HL.out hwr)
        rw [hst] at HW
        have hr2 := HR.out.write hpn ha (x := (Bp + 1).toNat) (by rw [← hBp]; omega)
        rw [← hBp] at hr2
        have HR2 := Lib.hid hr2
        have HBP := Lib.hid hBp
        clear hp hBp ha hwr hst hr2 hsm
        go_upto_region 22 with (first | (go_at_call 7; (with_reducible refine (HIN.out _).mono ?_); rintro e w5 ⟨rfl, rfl⟩) | (go_at_call 8; (with_reducible refine HW.out.mono ?_); rintro e w4 ⟨rfl, hl4, ht4⟩; have HL4 := Lib.hid hl4; have HT4 := Lib.hid ht4; have HM4 := Lib.hid (HM.out.touch ht4 fun k hk => (by have : k = g := hk; have := HGH.out; omega)); clear hl4 ht4))
        have c2 := HM4.out.r1.cell hpn
        rw [← HBP.out] at c2
        have f2 := HM4.out.r1.free p
        go_upto_region 23 with fail
        have m5 := HM4.out.put1 hpn (Bp + 1)
        have l5 := HL4.out.other (i := p) (k := h) (u := .int .i64 (Bp + 1)) (by have := HGH.out; omega) (by have := HGH.out; omega)
        obtain ⟨V5, hV5⟩ : ∃ V5, V5 = w4.setCell ⟨h, p, none⟩ (.int .i64 (Bp + 1)) := ⟨_, rfl⟩
        rw [← hV5] at m5 l5 ⊢
        have c3 := m5.r3.cell hpn
        have f3 := m5.r3.free p
        have M6 := Lib.hid (m5.put3 hpn true)
        have L6 := Lib.hid (l5.other (i := p) (k := h + 2) (u := .bool true) (by have := HGH.out; omega) (by have := HGH.out; omega))
        clear c2 f2 hV5 m5 l5
        go_wp2
        go_roundw
        case rel => exact ⟨k + 1, by omega, by go_num, by omega, T, _, _, _, _, _, _, _, _, _, _, _, by have := HT.out; omega, L6.out, HGH.out.2.1, M6.out, HR2.out, by have := HLK.out; omega⟩
        case measure => simp [intOf]; omega
      · have hwr : wrE n s p (Bp + 1) ≠ 0 := by
          unfold wrE bgE
          rw [if_neg (by omega), if_neg (by omega), if_pos (show (s.h (p : Int).toNat).a ≠ 0 from ha)]
          omega
        have HW := Lib.hid (writeErr HL.out hwr)
        clear hp hBp ha hwr hsm
        go_wp2_with (first | (go_at_call 7; (with_reducible refine (HIN.out _).mono ?_); rintro e w5 ⟨rfl, rfl⟩) | (go_at_call 8; (with_reducible refine HW.out.mono ?_); rintro e w4 ⟨⟨u4, rfl⟩, hl4, ht4⟩; have HL4 := Lib.hid hl4; have HT4 := Lib.hid ht4; have HM4 := Lib.hid (HM.out.touch ht4 fun k hk => (by have : k = g := hk; have := HGH.out; omega)); clear hl4 ht4))
        go_roundw
        case rel => exact ⟨k + 1, by omega, by go_num, by omega, Inv.skip HGH.out.2.1 HM.out HR.out HLK.out HL4.out (by have := HT.out; omega) HT4.out⟩
        case measure => simp [intOf]; omega
    · by_cases ha : (s.h p).a = 0
      · have hwr : bgE n s p = 0 := by
          unfold bgE
          rw [if_neg (by omega), if_neg (show ¬ (s.h (p : Int).toNat).a ≠ 0 from fun h => h ha)]
        have hst : glk n s p = sbeg s p false 0 := by unfold glk; rw [if_pos hwr]; rfl
        have HW := Lib.hid (lookNil HL.out hwr)
        rw [hst] at HW
        have HR2 := Lib.hid (HR.out.look hpn ha)
        have HWT := Lib.hid HR.out.wt
        clear hp ha hwr hst hsm
        go_upto_region 25 with (first | (go_at_call 7; (with_reducible refine (HIN.out _).mono ?_); rintro e w5 ⟨rfl, rfl⟩) | (go_at_call 9; (with_reducible refine HW.out.mono ?_); rintro e w4 ⟨rfl, hl4, ht4⟩; have HL4 := Lib.hid hl4; have HT4 := Lib.hid ht4; have HM4 := Lib.hid (HM.out.touch ht4 fun k hk => (by have : k = g := hk; have := HGH.out; omega)); clear hl4 ht4))
        have c2 := HM4.out.r3.cell hpn
        have f2 := HM4.out.r3.free p
        go_upto_region 26 with fail
        have m5 := HM4.out.put3 hpn false
        have l5 := HL4.out.other (i := p) (k := h + 2) (u := .bool false) (by have := HGH.out; omega) (by have := HGH.out; omega)
        obtain ⟨V5, hV5⟩ : ∃ V5, V5 = w4.setCell ⟨h + 2, p, none⟩ (.bool false) := ⟨_, rfl⟩
        rw [← hV5] at m5 l5 ⊢
        clear c2 f2 hV5
        have c2 := m5.r4.cell hpn
        have f2 := m5.r4.free p
        have M5 := Lib.hid m5
        have L5 := Lib.hid l5
        clear m5 l5
        go_upto_region 27 with fail
        have m6 := M5.out.put4 hpn (k : Int)
        have l6 := L5.out.other (i := p) (k := h + 3) (u := .int .i64 (k : Int)) (by have := HGH.out; omega) (by have := HGH.out; omega)
        obtain ⟨V6, hV6⟩ : ∃ V6, V6 = V5.setCell ⟨h + 3, p, none⟩ (.int .i64 (k : Int)) := ⟨_, rfl⟩
        rw [← hV6] at m6 l6 ⊢
        clear c2 f2 hV6
        have M6 := Lib.hid m6
        have L6 := Lib.hid l6
        have HA := Lib.hid (World.ownsRow_made (base := V6.heap.size) (e := 3) (size := 1) V6 #[] 0 (Nat.le_refl _) (Nat.zero_le _) rfl)
        have HCW := Lib.hid (show ∀ j u, ((List.range n).map fun q => Value.int .i64 (((s.wd q).t : Nat) : Int))[j]? = some u → (V6.alloc (.cells #[] 3)).cell? ((⟨h + 1, 0, none⟩ : Addr).add j) = some u from fun j u hu => by
          have hj : j < n := by have := (List.getElem?_eq_some_iff.1 hu).1; simpa using this
          rw [List.getElem?_map, List.getElem?_range hj] at hu
          have h9 := (m6.alloc (.cells #[] 3)).r2.cell hj
          rw [HWT.out j hj] at h9
          rw [Addr.add_lit, Nat.zero_add, h9]
          exact hu)
        have HMADE := Lib.hid (show ∀ (g2 cap : Nat) (w7 : World), w7.ownsRow V6.heap.size 3 1 (.slice (some ⟨g2, 0, none⟩) n cap) n ([] ++ ((List.range n).map fun q => Value.int .i64 (((s.wd q).t : Nat) : Int))) → (V6.alloc (.cells #[] 3)).grownBy w7 (some V6.heap.size) →
            w7.frozen? ⟨h + 4, p, none⟩ = false ∧ (∃ u, w7.cell? ⟨h + 4, p, none⟩ = some u) ∧ LkAt w (w7.setCell ⟨h + 4, p, none⟩ (.slice (some ⟨g2, 0, none⟩) n cap)) g n T (sbeg s p false 0) ∧ MR (w7.setCell ⟨h + 4, p, none⟩ (.slice (some ⟨g2, 0, none⟩) n cap)) h n (at4 u14 u15 (.slice none 0 0) (.slice none 0 0)) u13 B Wt (rput Sn p (k : Int)) (rput bl p false) (rput hd p (some fun q => (s.wd q).t)) L (at4 xF xT [] []) from fun g2 cap w7 hown hgr => by
          obtain ⟨t7, m7, d7⟩ := had_made M6.out (f := fun q => (s.wd q).t) hown rfl (by simp) hgr
          obtain ⟨f9, c9⟩ := m7.hfree hpn
          have l7 := L6.out.touch t7 fun k hk => (by have := HGH.out; have := L6.out.below.size; have := L6.out.lk.lt; have : V6.heap.size ≤ k := hk; omega)
          exact ⟨f9, c9, l7.other (by have := HGH.out; omega) (by have := HGH.out; omega), m7.put5 hpn d7⟩)
        clear m6 l6
        go_wp2_with (at_builtin; refine wpList_append_lies _ rfl (.tmp 118) (.tmp 119) 29 rfl V6.heap.size 3 i0 (.int .i64 0) 1 8 Try.underlying29 hi0 hz0 hz1 hz2 rfl (by omega) (.slice (some ⟨V6.heap.size, 0, none⟩) 0 0) 0 [] rfl HA.out ⟨h + 1, 0, none⟩ n n ((List.range n).map fun q => Value.int .i64 (((s.wd q).t : Nat) : Int)) rfl (by simp) HCW.out (by intro u hu; obtain ⟨z, _, rfl⟩ := List.mem_map.1 hu; rfl) (by omega) (by unfold maxLen; omega) (by omega) (by simp) (V6.heap.size + 1) (by simp) ?_; intro g2 cap w7 hown hgr hat hlt7; simp only [Nat.zero_add] at hown ⊢; obtain ⟨f9, ⟨u9, c9⟩, l8, m8⟩ := HMADE.out g2 cap w7 hown hgr; have L8 := Lib.hid l8; have M8 := Lib.hid m8; clear hown hgr hat hlt7 l8 m8)
        go_roundw
        case rel => exact ⟨k + 1, by omega, by go_num, by omega, T, _, _, _, _, _, _, _, _, _, _, _, by have := HT.out; omega, L8.out, HGH.out.2.1, M8.out, HR2.out, by have := HLK.out; omega⟩
        case measure => simp [intOf]; omega
      · have hwr : bgE n s p ≠ 0 := by
          unfold bgE
          rw [if_neg (by omega), if_pos (show (s.h (p : Int).toNat).a ≠ 0 from ha)]
          omega
        have HW := Lib.hid (lookErr HL.out hwr)
        clear hp ha hwr hsm
        go_wp2_with (first | (go_at_call 7; (with_reducible refine (HIN.out _).mono ?_); rintro e w5 ⟨rfl, rfl⟩) | (go_at_call 9; (with_reducible refine HW.out.mono ?_); rintro e w4 ⟨⟨u4, rfl⟩, hl4, ht4⟩; have HL4 := Lib.hid hl4; have HT4 := Lib.hid ht4; have HM4 := Lib.hid (HM.out.touch ht4 fun k hk => (by have : k = g := hk; have := HGH.out; omega)); clear hl4 ht4))
        go_roundw
        case rel => exact ⟨k + 1, by omega, by go_num, by omega, Inv.skip HGH.out.2.1 HM.out HR.out HLK.out HL4.out (by have := HT.out; omega) HT4.out⟩
        case measure => simp [intOf]; omega
  · have HIN := Lib.hid (inB_no x 0 ((n : Int) - 1) hp)
    clear hp
    go_wp2_with (go_at_call 7; (with_reducible refine (HIN.out _).mono ?_); rintro e w5 ⟨rfl, rfl⟩)
    go_roundw
    case rel => exact ⟨k + 1, by omega, by go_num, by omega, Inv.skip HGH.out.2.1 HM.out HR.out HLK.out HL.out (by have := HT.out; omega) (Touch.refl _ _)⟩
    case measure => simp [intOf]; omega
end Go.Proofs.Ytoaakonfofjamaa.Snap
