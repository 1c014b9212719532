/-
  latchgarthlaw3.SnapRow: a round of its great loop.
-/
import Derived.Test.YtoaakonfofjamaaSnapRowW
namespace Go.Proofs.Ytoaakonfofjamaa.Snap
open Go.RowKit
set_option maxHeartbeats 8000000 in
set_option maxRecDepth 1000000 in
theorem round_one {w wr : World} {g h n c : Nat} {A : Option Addr} {steps : List (List Int)} {Q0 : Exit → Act → World → Prop} {k : Nat} (u4 u13 u14 u15 u17 u18 u19 u20 u21 u22 u23 u55 u56 u57 u58 u59 u60 u61 u62 u63 u64 u65 u66 u67 u68 u69 u70 u71 u72 u73 u74 u75 u76 u77 u78 u79 u80 u81 u82 u83 u84 u85 u86 u87 u88 u89 u90 u91 u92 u93 u94 u95 u96 u97 u98 u99 u100 u101 u102 u103 u104 u105 u106 u107 u108 u109 u110 u111 u112 u113 u114 u115 u116 u117 u118 u119 u120 u121 u122 u123 u124 u125 u126 u127 u128 u129 u130 u131 u132 u133 u134 u135 u136 u137 u138 u139 u140 u141 u142 u143 u144 u145 u146 u147 u148 u149 u150 u151 u152 u153 u154 u155 u156 u157 u158 u159 u160 u161 u162 u163 u164 u165 u166 u167 u168 u169 u170 u171 u172 u173 u174 u175 u176 u177 u178 u179 u180 u181 u182 u183 u184 u185 u186 u187 u188 u189 u190 u191 u192 u193 u194 u195 u196 u197 u198 u199 u200 u201 u202 u203 u204 u205 u206 u207 u208 u209 u210 u211 u212 u213 u214 u215 : Value) (h1 : 1 ≤ n) (h4 : n ≤ 4) (hlt : k < steps.length) (hk200 : k < 300) (hinv : Inv w wr g h n k u13 u14 u15) (HN0 : Rws w w.heap.size (.slice A steps.length c) steps) {x : Int} (hx : steps[k]? = some [x]) :
    Code.wp Try.prog mainBody (Exit.then (fun a' w'' => WI w g h n steps.length c A a' w'' ∧ Wmu steps.length a' < Wmu steps.length ⟨#[.int .i64 (n : Int), .slice A steps.length c, undef, undef, u4, .bool true, .pointer (some ⟨g, 0, none⟩), .nilIface, .slice (some ⟨h, 0, none⟩) n n, .slice (some ⟨h + 1, 0, none⟩) n n, .slice (some ⟨h + 1 + 1, 0, none⟩) n n, .slice (some ⟨h + 1 + 1 + 1, 0, none⟩) n n, .slice (some ⟨h + 1 + 1 + 1 + 1, 0, none⟩) n n, u13, u14, u15, .int .i64 (k : Int), u17, u18, u19, u20, u21, u22, u23, undef, undef, undef, undef, undef, .bool true, .bool true, .bool false, .tuple #[.pointer (some ⟨g, 0, none⟩), .nilIface], .int .i64 (n : Int), .tuple #[.pointer (some ⟨g, 0, none⟩), .nilIface], .pointer (some ⟨g, 0, none⟩), .nilIface, .nilIface, .bool false, undef, undef, undef, undef, undef, undef, .int .i64 (n : Int), .slice (some ⟨h, 0, none⟩) n n, .int .i64 (n : Int), .slice (some ⟨h + 1, 0, none⟩) n n, .int .i64 (n : Int), .slice (some ⟨h + 1 + 1, 0, none⟩) n n, .int .i64 (n : Int), .slice (some ⟨h + 1 + 1 + 1, 0, none⟩) n n, .int .i64 (n : Int), .slice (some ⟨h + 1 + 1 + 1 + 1, 0, none⟩) n n, u55, u56, u57, u58, u59, u60, u61, u62, u63, u64, u65, u66, u67, u68, u69, u70, u71, u72, u73, u74, u75, u76, u77, u78, u79, u80, u81, u82, u83, u84, u85, u86, u87, u88, u89, u90, u91, u92, u93, u94, u95, u96, u97, u98, u99, u100, u101, u102, u103, u104, u105, u106, u107, u108, u109, u110, u111, u112, u113, u114, u115, u116, u117, u118, u119, u120, u121, u122, u123, u124, u125, u126, u127, u128, u129, u130, u131, u132, u133, u134, u135, u136, u137, u138, u139, u140, u141, u142, u143, u144, u145, u146, u147, u148, u149, u150, u151, u152, u153, u154, u155, u156, u157, u158, u159, u160, u161, u162, u163, u164, u165, u166, u167, u168, u169, u170, u171, u172, u173, u174, u175, u176, u177, u178, u179, u180, u181, u182, u183, u184, u185, u186, u187, u188, u189, u190, u191, u192, u193, u194, u195, u196, u197, u198, u199, u200, u201, u202, u203, u204, u205, u206, u207, u208, u209, u210, u211, u212, u213, u214, u215, undef, undef, undef, undef, undef, undef, undef, undef, undef, undef, undef, undef, undef, undef, undef, undef, undef, undef, undef, undef, undef, undef, undef, undef, undef, undef, undef, undef, undef, undef, undef, undef, undef, undef, undef, undef, undef, undef, undef, undef, undef, undef, undef, undef, undef, undef, undef, undef, undef, undef, undef, undef, undef, undef, undef, undef, undef, undef, undef, undef, undef, undef, undef, undef, undef, undef, undef, undef, undef, undef, undef], []⟩) Q0) ⟨#[.int .i64 (n : Int), .slice A steps.length c, undef, undef, u4, .bool true, .pointer (some ⟨g, 0, none⟩), .nilIface, .slice (some ⟨h, 0, none⟩) n n, .slice (some ⟨h + 1, 0, none⟩) n n, .slice (some ⟨h + 1 + 1, 0, none⟩) n n, .slice (some ⟨h + 1 + 1 + 1, 0, none⟩) n n, .slice (some ⟨h + 1 + 1 + 1 + 1, 0, none⟩) n n, u13, u14, u15, .int .i64 (k : Int), u17, u18, u19, u20, u21, u22, u23, undef, undef, undef, undef, undef, .bool true, .bool true, .bool false, .tuple #[.pointer (some ⟨g, 0, none⟩), .nilIface], .int .i64 (n : Int), .tuple #[.pointer (some ⟨g, 0, none⟩), .nilIface], .pointer (some ⟨g, 0, none⟩), .nilIface, .nilIface, .bool false, undef, undef, undef, undef, undef, undef, .int .i64 (n : Int), .slice (some ⟨h, 0, none⟩) n n, .int .i64 (n : Int), .slice (some ⟨h + 1, 0, none⟩) n n, .int .i64 (n : Int), .slice (some ⟨h + 1 + 1, 0, none⟩) n n, .int .i64 (n : Int), .slice (some ⟨h + 1 + 1 + 1, 0, none⟩) n n, .int .i64 (n : Int), .slice (some ⟨h + 1 + 1 + 1 + 1, 0, none⟩) n n, u55, u56, u57, u58, u59, u60, u61, u62, u63, u64, u65, u66, u67, u68, u69, u70, u71, u72, u73, u74, u75, u76, u77, u78, u79, u80, u81, u82, u83, u84, u85, u86, u87, u88, u89, u90, u91, u92, u93, u94, u95, u96, u97, u98, u99, u100, u101, u102, u103, u104, u105, u106, u107, u108, u109, u110, u111, u112, u113, u114, u115, u116, u117, u118, u119, u120, u121, u122, u123, u124, u125, u126, u127, u128, u129, u130, u131, u132, u133, u134, u135, u136, u137, u138, u139, u140, u141, u142, u143, u144, u145, u146, u147, u148, u149, u150, u151, u152, u153, u154, u155, u156, u157, u158, u159, u160, u161, u162, u163, u164, u165, u166, u167, u168, u169, u170, u171, u172, u173, u174, u175, u176, u177, u178, u179, u180, u181, u182, u183, u184, u185, u186, u187, u188, u189, u190, u191, u192, u193, u194, u195, u196, u197, u198, u199, u200, u201, u202, u203, u204, u205, u206, u207, u208, u209, u210, u211, u212, u213, u214, u215, undef, undef, undef, undef, undef, undef, undef, undef, undef, undef, undef, undef, undef, undef, undef, undef, undef, undef, undef, undef, undef, undef, undef, undef, undef, undef, undef, undef, undef, undef, undef, undef, undef, undef, undef, undef, undef, undef, undef, undef, undef, undef, undef, undef, undef, undef, undef, undef, undef, undef, undef, undef, undef, undef, undef, undef, undef, undef, undef, undef, undef, undef, undef, undef, undef, undef, undef, undef, undef, undef, undef], []⟩ wr := by
  conv => arg 2; whnf
  unfold WI Wmu
  have HN := Lib.hid HN0
  clear HN0
  obtain ⟨i0, hi0, hz0, hz1, hz2⟩ := info_parts TintI.info
  obtain ⟨i1, hi1, hy0, hy1, hy2⟩ := info_parts Tints_info
  have hwn : IntKind.i64.wrap ((n : Int) - 1) = (n : Int) - 1 := IntWalk.i64_in _ (by omega)
  have hI : (k : Int) < steps.length := by omega
  have h2I : (k : Int) < 300 := by omega
  obtain ⟨T, s, Hh, bt, B, Wt, Sn, bl, hd, L, xF, xT, hT, hl, hgh, hm, hr, hLk⟩ := hinv
  have HT := Lib.hid hT
  have HL := Lib.hid hl
  have HM := Lib.hid hm
  have HR := Lib.hid hr
  have HLK := Lib.hid hLk
  have HGH := Lib.hid (show w.heap.size ≤ g ∧ g < h ∧ h + 4 < wr.heap.size from ⟨hl.new, hgh, hm.lt⟩)
  clear hT hl hm hr hgh hLk
  obtain ⟨b, o, rfl, hbl, A', c', hxc, hnl⟩ := rws_at HN.out hx
  have hxr : wr.cell? ⟨b, o + k, none⟩ = some (.slice A' _ c') := (HL.out.below.cell (p := ⟨b, o + k, none⟩) hbl).trans hxc
  clear hx hxc
  have hT6 : T ≤ 1000000 := by have := HT.out; omega
  obtain ⟨b1, o1, rfl, hb1, hc0⟩ := hnl.at_ (k := 0) rfl
  rw [Nat.add_zero] at hc0
  have hxr2 : wr.cell? ⟨b, o + k, none⟩ = some (.slice (some ⟨b1, o1, none⟩) 1 c') := hxr
  clear hxr
  have d0 : wr.cell? ⟨b1, o1, none⟩ = some (.int .i64 x) := (HL.out.below.cell (p := ⟨b1, o1, none⟩) hb1).trans hc0
  clear hnl hc0
  by_cases hp : 0 ≤ x ∧ x ≤ (n : Int) - 1
  · obtain ⟨p, rfl⟩ := Int.eq_ofNat_of_zero_le hp.1
    have hpn : p < n := by omega
    have hpI : (p : Int) < n := by omega
    have HIN := Lib.hid (inB_yes p 0 ((n : Int) - 1) hp.1 hp.2)
    by_cases he : stOk n s p
    · have ha : (s.h p).a ≠ 0 := he.2
      have hst : gst n s p = sstep n s p := gst_ok he
      have HW := Lib.hid (stepNil HL.out hT6 he)
      rw [hst, Int.toNat_natCast] at HW
      by_cases hdn : (sone n s p).a = 0
      · rw [decide_eq_true hdn] at HW
        cases hw : (s.h p).w with
        | true =>
          have h3 := HR.out.wrote hpn ha hw hdn
          have HR2 := Lib.hid (HR.out.step hpn ha (HR.out.more h3))
          have HBL := Lib.hid (show bl p = true by rw [HR.out.bl' p hpn ha, hw])
          have hsm := rs_small HR.out HL.out HT.out hpn
          have hwW : IntKind.i64.wrap (Wt p + 1) = Wt p + 1 := IntWalk.i64_in _ (by omega)
          clear hp he ha hst hdn hw h3 hsm
          go_upto_region 32 with (first | (go_at_call 7; (with_reducible refine (HIN.out _).mono ?_); rintro e w5 ⟨rfl, rfl⟩) | (go_at_call 10; (with_reducible refine HW.out.mono ?_); rintro e w4 ⟨⟨u4, rfl, -, -⟩, hl4, ht4⟩; have HL4 := Lib.hid hl4; have HT4 := Lib.hid ht4; have HM4 := Lib.hid (HM.out.touch ht4 fun k hk => (by have : k = g := hk; have := HGH.out; omega)); clear hl4 ht4))
          have c2 := HM4.out.r3.cell hpn
          rw [HBL.out] at c2
          have c3 := HM4.out.r2.cell hpn
          have f3 := HM4.out.r2.free p
          have M5 := Lib.hid (HM4.out.put2 hpn (Wt p + 1))
          have L5 := Lib.hid (HL4.out.other (i := p) (k := h + 1) (u := .int .i64 (Wt p + 1)) (by have := HGH.out; omega) (by have := HGH.out; omega))
          go_wp2
          go_roundw
          case rel => exact ⟨k + 1, by omega, by go_num, by omega, T + 1, _, _, _, _, _, _, _, _, _, _, _, by have := HT.out; omega, L5.out, HGH.out.2.1, M5.out, HR2.out, by have := HLK.out; omega⟩
          case measure => simp [intOf]; omega
        | false =>
          obtain ⟨f, htd, ⟨gf, hgf, hgq⟩, t, ht1, ht2, ht3⟩ := HR.out.looked hpn ha hw hdn
          have h3 : (s.h p).a ≠ 3 := fun h3 => by
            have h9 := ((HR.out.ok.hk p hpn).three h3).1
            rw [hw] at h9
            cases h9
          have HR2 := Lib.hid ((HR.out.step hpn ha (HR.out.same h3)).add (f := f) (a := bt p) (b := k) (t := t) (by omega) ht1 ht2 (fun q hq => by rw [hnext_old ht2]; exact ht3 q hq))
          have HSN := Lib.hid (HR.out.sn p hpn ha hw)
          have HBL := Lib.hid (show bl p = false by rw [HR.out.bl' p hpn ha, hw])
          have HGQ := Lib.hid hgq
          have HHD := Lib.hid hgf
          have HTD := Lib.hid htd
          have hxl : L.length ≤ 300 ∧ xF.length = L.length ∧ xT.length = L.length := ⟨by have := HLK.out; omega, HR.out.lf, HR.out.lt⟩
          have HXL := Lib.hid hxl
          clear hp he ha hst hdn hw h3 hgq hgf htd ht1 ht2 ht3 hxl
          go_upto_region 32 with (first | (go_at_call 7; (with_reducible refine (HIN.out _).mono ?_); rintro e w5 ⟨rfl, rfl⟩) | (go_at_call 10; (with_reducible refine HW.out.mono ?_); rintro e w4 ⟨⟨u4, rfl, hu4, -⟩, hl4, ht4⟩; have HU4 := Lib.hid (hu4 f HTD.out); have HL4 := Lib.hid hl4; have HM4 := Lib.hid (HM.out.touch ht4 fun k hk => (by have : k = g := hk; have := HGH.out; omega)); clear hl4 ht4 hu4))
          have c2 := HM4.out.r3.cell hpn
          rw [HBL.out] at c2
          obtain ⟨b3, o3, c3, hd3, -, -, hc3⟩ := HM4.out.had hpn HHD.out
          obtain ⟨bs, os, cs, rfl, hbs, hlone, hcs⟩ := told_dt HM.out h1 HU4.out.1 HU4.out.2
          have HCS := Lib.hid hcs
          have HC3 := Lib.hid hc3
          have HLO := Lib.hid (show Lone h (at4 u14 u15 (.slice none 0 0) (.slice none 0 0)) u13 bs ∧ bs < w4.heap.size from ⟨hlone, hbs⟩)
          clear hcs hc3 hlone hbs
          go_upto_block 2 with fail
          clear c2
          go_wp2_with fail
          go_loopw [23] (fun qv wq => ∃ q : Nat, q ≤ n ∧ qv = .int .i64 q ∧ ∃ j, wq = w4.drewN j) (fun qv _ => n - (intOf qv).toNat)
          case atStart => exact ⟨0, by omega, rfl, 0, rfl⟩
          case round =>
            obtain ⟨q, hq, rfl, j, rfl⟩ := hrel
            by_cases hqn : q < n
            · have hqI : (q : Int) < n := by omega
              have e1 := HCS.out q hqn
              have e2 := HC3.out q hqn
              have e3 := HM4.out.r1.cell hqn
              have g1 := HGQ.out q hqn
              obtain ⟨a1, ha1⟩ : ∃ a1, a1 = f q := ⟨_, rfl⟩
              obtain ⟨a2, ha2⟩ : ∃ a2, a2 = gf q := ⟨_, rfl⟩
              obtain ⟨a3, ha3⟩ : ∃ a3, a3 = B q := ⟨_, rfl⟩
              rw [← ha1] at e1
              rw [← ha2] at e2
              rw [← ha3] at e3
              have n1 : decide ((a1 : Int) < (a2 : Int)) = false := decide_eq_false (by omega)
              have n4 : decide (a1 < a2) = false := decide_eq_false (by omega)
              have n2 : decide (a3 < (a1 : Int)) = false := decide_eq_false (by omega)
              clear g1 ha1 ha2 ha3
              go_wp2_with fail
              go_quiet (fail)
              go_wp2
              go_roundw
              case rel => exact ⟨q + 1, by omega, by go_num, _, rfl⟩
              case measure => simp [intOf]; omega
            · have hqI : ¬ (q : Int) < n := by omega
              clear hd3
              obtain ⟨V4, hV4⟩ : ∃ V4, V4 = w4.drewN j := ⟨_, rfl⟩
              rw [← hV4]
              have m4 : MR V4 h n (at4 u14 u15 (.slice none 0 0) (.slice none 0 0)) u13 B Wt Sn bl hd L (at4 xF xT [] []) := by rw [hV4]; exact HM4.out.drew j
              have l4 : LkAt w V4 g n (T + 1) (sstep n s p) := by rw [hV4]; exact HL4.out.on (below_drewN (Below.refl _ w4) j) (Nat.le_refl _)
              have hdt : Dt V4 h n (at4 u14 u15 (.slice none 0 0) (.slice none 0 0)) u13 (.slice (some ⟨bs, os, none⟩) n cs) f := ⟨bs, os, cs, rfl, HLO.out.1, by rw [hV4]; exact HLO.out.2, fun q hq => by rw [hV4]; exact HCS.out q hq⟩
              obtain ⟨us, hus⟩ := m4.lk
              have hul : us.length = L.length := by simpa using hus.1.1
              have HOL := Lib.hid (own_touch (O := fun _ => False) hus.1 ((Touch.refl _ V4).alloc (.cells #[(.slice (some ⟨bs, os, none⟩) n cs)] 29)) fun _ _ e => e)
              have hsz := m4.lt
              have HSZ := Lib.hid hsz
              have HA1 := Lib.hid (show ∀ (g5 cap5 : Nat) (w5 : World), w5.ownsRow (h + 5) 29 1 (.slice (some ⟨g5, 0, none⟩) (L.length + 1) cap5) (L.length + 1) (us ++ [(.slice (some ⟨bs, os, none⟩) n cs)]) → (V4.alloc (.cells #[(.slice (some ⟨bs, os, none⟩) n cs)] 29)).grownBy w5 u13.ownBlock → (u13.ownBlock = some g5 ∨ g5 = V4.heap.size + 1) →
                  MR w5 h n (at4 u14 u15 (.slice none 0 0) (.slice none 0 0)) (.slice (some ⟨g5, 0, none⟩) (L.length + 1) cap5) B Wt Sn bl hd (L ++ [f]) (at4 xF xT [] []) ∧ LkAt w w5 g n (T + 1) (sstep n s p) from fun g5 cap5 w5 ho hg hat =>
                ⟨m4.appL hus ho rfl rfl hul hdt hg hat, lk_own l4 HGH.out.2.1 (((Touch.refl (fun k => u13.ownBlock = some k) V4).alloc _).grown hg fun k hk => Or.inl hk) fun k hk => (m4.lklt hk).1⟩)
              have HA2 := Lib.hid (show ∀ (vL5 : Value) (L5 : List (Nat → Nat)) (w5 : World), MR w5 h n (at4 u14 u15 (.slice none 0 0) (.slice none 0 0)) vL5 B Wt Sn bl hd L5 (at4 xF xT [] []) → LkAt w w5 g n (T + 1) (sstep n s p) → w5.cell? ⟨h + 3, p, none⟩ = some (.int .i64 ((bt p : Nat) : Int)) ∧ h + 4 < w5.heap.size ∧
                  (w5.alloc (.cells #[.int .i64 ((bt p : Nat) : Int)] 3)).ownsRow (h + 5) 3 1 u14 xF.length (xF.map (Value.int .i64)) ∧ ∀ (g6 cap6 : Nat) (w6 : World), w6.ownsRow (h + 5) 3 1 (.slice (some ⟨g6, 0, none⟩) (xF.length + 1) cap6) (xF.length + 1) (xF.map (Value.int .i64) ++ [.int .i64 ((bt p : Nat) : Int)]) → (w5.alloc (.cells #[.int .i64 ((bt p : Nat) : Int)] 3)).grownBy w6 u14.ownBlock → (u14.ownBlock = some g6 ∨ g6 = w5.heap.size + 1) →
                  MR w6 h n (at4 (.slice (some ⟨g6, 0, none⟩) (xF.length + 1) cap6) u15 (.slice none 0 0) (.slice none 0 0)) vL5 B Wt Sn bl hd L5 (at4 (xF ++ [((bt p : Nat) : Int)]) xT [] []) ∧ LkAt w w6 g n (T + 1) (sstep n s p) from fun vL5 L5 w5 m5 l5 =>
                ⟨by rw [m5.r4.cell hpn, HSN.out], m5.lt, own_touch (O := fun _ => False) (m5.rg.own 0 (by omega)) ((Touch.refl _ w5).alloc _) (fun _ _ e => e), fun g6 cap6 w6 ho hg hat => by
                  obtain ⟨m6, t6⟩ := m5.app0 ho rfl rfl hg hat
                  exact ⟨m6, lk_own l5 HGH.out.2.1 t6 fun k hk => (m5.rg.lt (i := 0) (by omega) hk).1⟩⟩)
              have HA3 := Lib.hid (show ∀ (vL5 v6 : Value) (L5 : List (Nat → Nat)) (x6 : List Int) (w6 : World), MR w6 h n (at4 v6 u15 (.slice none 0 0) (.slice none 0 0)) vL5 B Wt Sn bl hd L5 (at4 x6 xT [] []) → LkAt w w6 g n (T + 1) (sstep n s p) → h + 4 < w6.heap.size ∧
                  (w6.alloc (.cells #[.int .i64 (k : Int)] 3)).ownsRow (h + 5) 3 1 u15 xT.length (xT.map (Value.int .i64)) ∧ ∀ (g7 cap7 : Nat) (w7 : World), w7.ownsRow (h + 5) 3 1 (.slice (some ⟨g7, 0, none⟩) (xT.length + 1) cap7) (xT.length + 1) (xT.map (Value.int .i64) ++ [.int .i64 (k : Int)]) → (w6.alloc (.cells #[.int .i64 (k : Int)] 3)).grownBy w7 u15.ownBlock → (u15.ownBlock = some g7 ∨ g7 = w6.heap.size + 1) →
                  MR w7 h n (at4 v6 (.slice (some ⟨g7, 0, none⟩) (xT.length + 1) cap7) (.slice none 0 0) (.slice none 0 0)) vL5 B Wt Sn bl hd L5 (at4 x6 (xT ++ [(k : Int)]) [] []) ∧ LkAt w w7 g n (T + 1) (sstep n s p) from fun vL5 v6 L5 x6 w6 m6 l6 =>
                ⟨m6.lt, own_touch (O := fun _ => False) (m6.rg.own 1 (by omega)) ((Touch.refl _ w6).alloc _) (fun _ _ e => e), fun g7 cap7 w7 ho hg hat => by
                  obtain ⟨m7, t7⟩ := m6.app1 ho rfl rfl hg hat
                  exact ⟨m7, lk_own l6 HGH.out.2.1 t7 fun k hk => (m6.rg.lt (i := 1) (by omega) hk).1⟩⟩)
              clear m4 l4 hdt hus hul hV4 hsz
              go_wp2_with (first | (at_builtin; refine wpList_append_lies _ rfl (.tmp 201) (.tmp 203) 22 rfl (h + 5) 29 i1 (.slice none 0 0) 1 24 Try.underlying22 hi1 hy0 hy1 hy2 rfl (by omega) u13 L.length us rfl HOL.out ⟨V4.heap.size, 0, none⟩ 1 1 [(.slice (some ⟨bs, os, none⟩) n cs)] rfl (by rfl) one_at (by intro u hu; simp at hu; subst hu; rfl) (by omega) (by unfold maxLen; have := HXL.out; omega) (by have := HXL.out; omega) (by have := HSZ.out; simp; omega) (V4.heap.size + 1) (by simp) ?_; intro g5 cap5 w5 hown hgr hat hlt5; obtain ⟨m5, l5⟩ := HA1.out g5 cap5 w5 hown hgr hat; obtain ⟨c5, z5, o5, q5⟩ := HA2.out _ _ w5 m5 l5; have HO5 := Lib.hid o5; have HZ5 := Lib.hid z5; have HQ5 := Lib.hid q5; clear hown hgr hat hlt5 m5 l5 z5 o5 q5) | (at_builtin; refine wpList_append_lies _ rfl (.tmp 205) (.tmp 210) 29 rfl (h + 5) 3 i0 (.int .i64 0) 1 8 Try.underlying29 hi0 hz0 hz1 hz2 rfl (by omega) u14 xF.length (xF.map (Value.int .i64)) rfl HO5.out ⟨w5.heap.size, 0, none⟩ 1 1 [.int .i64 ((bt p : Nat) : Int)] rfl (by rfl) one_at (by intro u hu; simp at hu; subst hu; rfl) (by omega) (by unfold maxLen; have := HXL.out; omega) (by have := HXL.out; omega) (by have := HZ5.out; simp; omega) (w5.heap.size + 1) (by simp) ?_; intro g6 cap6 w6 hown hgr hat hlt6; obtain ⟨m6, l6⟩ := HQ5.out g6 cap6 w6 hown hgr hat; obtain ⟨z6, o6, q6⟩ := HA3.out _ _ _ _ w6 m6 l6; have HO6 := Lib.hid o6; have HZ6 := Lib.hid z6; have HQ6 := Lib.hid q6; clear hown hgr hat hlt6 m6 l6 z6 o6 q6) | (at_builtin; refine wpList_append_lies _ rfl (.tmp 212) (.tmp 214) 29 rfl (h + 5) 3 i0 (.int .i64 0) 1 8 Try.underlying29 hi0 hz0 hz1 hz2 rfl (by omega) u15 xT.length (xT.map (Value.int .i64)) rfl HO6.out ⟨w6.heap.size, 0, none⟩ 1 1 [.int .i64 (k : Int)] rfl (by rfl) one_at (by intro u hu; simp at hu; subst hu; rfl) (by omega) (by unfold maxLen; have := HXL.out; omega) (by have := HXL.out; omega) (by have := HZ6.out; simp; omega) (w6.heap.size + 1) (by simp) ?_; intro g7 cap7 w7 hown hgr hat hlt7; obtain ⟨m7, l7⟩ := HQ6.out g7 cap7 w7 hown hgr hat; have M7 := Lib.hid m7; have L7 := Lib.hid l7; clear hown hgr hat hlt7 m7 l7))
              go_roundw
              case rel => exact ⟨k + 1, by omega, by go_num, by omega, T + 1, _, _, _, _, _, _, _, _, _, _, _, by have := HT.out; omega, L7.out, HGH.out.2.1, M7.out, HR2.out, by rw [List.length_append, List.length_singleton]; have := HLK.out; omega⟩
              case measure => simp [intOf]; omega
      · rw [decide_eq_false hdn] at HW
        have HR2 := Lib.hid (HR.out.step hpn ha (HR.out.same (not3 hdn)))
        clear hp he ha hst hdn
        go_wp2_with (first | (go_at_call 7; (with_reducible refine (HIN.out _).mono ?_); rintro e w5 ⟨rfl, rfl⟩) | (go_at_call 10; (with_reducible refine HW.out.mono ?_); rintro e w4 ⟨⟨u4, rfl, -, -⟩, hl4, ht4⟩; have HL4 := Lib.hid hl4; have HT4 := Lib.hid ht4; have HM4 := Lib.hid (HM.out.touch ht4 fun k hk => (by have : k = g := hk; have := HGH.out; omega)); clear hl4 ht4))
        go_roundw
        case rel => exact ⟨k + 1, by omega, by go_num, by omega, T + 1, _, _, _, _, _, _, _, _, _, _, _, by have := HT.out; omega, HL4.out, HGH.out.2.1, HM4.out, HR2.out, by have := HLK.out; omega⟩
        case measure => simp [intOf]; omega
    · have HW := Lib.hid (stepErr HL.out hT6 he)
      clear hp he
      go_wp2_with (first | (go_at_call 7; (with_reducible refine (HIN.out _).mono ?_); rintro e w5 ⟨rfl, rfl⟩) | (go_at_call 10; (with_reducible refine HW.out.mono ?_); rintro e w4 ⟨⟨u4, rfl⟩, hl4, ht4⟩; have HL4 := Lib.hid hl4; have HT4 := Lib.hid ht4; have HM4 := Lib.hid (HM.out.touch ht4 fun k hk => (by have : k = g := hk; have := HGH.out; omega)); clear hl4 ht4))
      go_roundw
      case rel => exact ⟨k + 1, by omega, by go_num, by omega, Inv.skip HGH.out.2.1 HM.out HR.out HLK.out HL4.out (by have := HT.out; omega) HT4.out⟩
      case measure => simp [intOf]; omega
  · have HIN := Lib.hid (inB_no x 0 ((n : Int) - 1) hp)
    clear hp
    go_wp2_with (go_at_call 7; (with_reducible refine (HIN.out _).mono ?_); rintro e w5 ⟨rfl, rfl⟩)
    go_roundw
    case rel => exact ⟨k + 1, by omega, by go_num, by omega, Inv.skip HGH.out.2.1 HM.out HR.out HLK.out HL.out (by have := HT.out; omega) (Touch.refl _ _)⟩
    case measure => simp [intOf]; omega
end Go.Proofs.Ytoaakonfofjamaa.Snap
