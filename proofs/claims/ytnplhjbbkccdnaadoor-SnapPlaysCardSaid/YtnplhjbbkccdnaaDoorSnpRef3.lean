/-
  The reference of package snap: what BeginBoard answers.
-/
import Derived.Test.YtnplhjbbkccdnaaDoorSnpRef2
import Derived.Deep.RegionHeld3
namespace Go.Proofs.YtnplhjbbkccdnaaDoor.Snap
open Go.RowKit

theorem Tbool_info : (Tryd.prog.info? 4).map (fun i => (i.zero, i.size, i.bytes)) = some (some (.bool false), 1, 1) := by kernel_rfl
theorem zeros_nm {F : Nat → Prop} {W : World} {h n : Nat} (k : IRow W h n (fun _ => 0)) (hF : ¬ F h) (h1 : 1 ≤ n) : nm n (fun _ => 0) F W (.slice (some ⟨h, 0, none⟩) n n) := by
  refine ⟨_, n, rfl, fun e => ?_, fun _ => ⟨h, 0, rfl, k.lt, hF, fun i P hP => ?_⟩⟩
  · have := sl_len n (fun i => isInt ((fun _ => (0 : Int)) i)); rw [e] at this; simp at this; omega
  · have hi : i < n := by have := (List.getElem?_eq_some_iff.1 hP).1; simpa using this
    rw [sl_get _ hi] at hP
    rw [← Option.some.inj hP]
    exact ⟨_, by rw [Nat.zero_add]; exact k.cell hi, rfl⟩
/-- The error of BeginBoard. -/
def bbE (n : Nat) (fa : Nat → Int) (p x : Int) : Int := if ¬ (0 ≤ p ∧ p < n) ∨ ¬ (0 ≤ x ∧ x ≤ 1000) then 1 else if fa p.toNat ≠ 0 then 7 else 0
set_option maxHeartbeats 8000000 in
set_option maxRecDepth 100000 in
theorem beginBoard_any {F : Nat → Prop} {n : Nat} {P0 P7 : Pd} {fa fx : Nat → Int} {fb : Nat → Bool} {Gf Gl Gm : Nat → Pd} {v0 v1 v2 v3 v4 v5 v6 v7 : Value} {A0 A7 : Option Addr} {m0 c0 m7 c7 : Nat} (w : World) (h0 : v0 = .slice A0 m0 c0) (h7 : v7 = .slice A7 m7 c7)
    (h : RV F w v0 v1 v2 v3 v4 v5 v6 v7 P0 (nm n fa) (nm n fx) (bl n fb) (sl n Gf) (sl n Gl) (sl n Gm) P7) (hGf : ∀ i, i < n → Stb (Gf i)) (hGl : ∀ i, i < n → Stb (Gl i)) (hGm : ∀ i, i < n → Stb (Gm i)) (hF : ∀ x, F x → x < w.heap.size) (h1 : 1 ≤ n) (h4 : n ≤ 4) (p x : Int) (wr : Bool) :
    Calls Tryd.prog 8 #[.agg #[v0, v1, v2, v3, v4, v5, v6, v7], .int .i64 p, .bool wr, .int .i64 x] w fun e w' => ∃ u1 u2 u3 u4 u5 u6, e = .returned (.tuple #[.agg #[v0, u1, u2, u3, u4, u5, u6, v7], .int .i64 (bbE n fa p x)]) ∧ Below w.heap.size w w' ∧
      (bbE n fa p x ≠ 0 → RV F w' v0 u1 u2 u3 u4 u5 u6 v7 P0 (nm n fa) (nm n fx) (bl n fb) (sl n Gf) (sl n Gl) (sl n Gm) P7) ∧
      (bbE n fa p x = 0 → RV F w' v0 u1 u2 u3 u4 u5 u6 v7 P0 (nm n (rput fa p.toNat 1)) (nm n (rput fx p.toNat x)) (bl n (rput fb p.toNat wr)) (sl n (rput Gf p.toNat (SL 0 []))) (sl n (rput Gl p.toNat (SL 0 []))) (sl n (rput Gm p.toNat (nm n fun _ => 0))) P7) := by
  subst h0 h7
  obtain ⟨A1, c1, rfl⟩ := SL.form h.p1
  obtain ⟨A2, c2, rfl⟩ := SL.form h.p2
  obtain ⟨A3, c3, rfl⟩ := SL.form h.p3
  obtain ⟨A4, c4, rfl⟩ := SL.form h.p4
  obtain ⟨A5, c5, rfl⟩ := SL.form h.p5
  obtain ⟨A6, c6, rfl⟩ := SL.form h.p6
  have hst := RS.start h hF
  obtain ⟨b, hb⟩ : ∃ b, b = w.heap.size := ⟨_, rfl⟩
  obtain ⟨W0, hW0⟩ : ∃ W0, W0 = (w.alloc (.cells #[.slice A0 m0 c0, .slice A1 n c1, .slice A2 n c2, .slice A3 n c3, .slice A4 n c4, .slice A5 n c5, .slice A6 n c6, .slice A7 m7 c7] 34)).alloc (.cells #[.slice none 0 0, .slice none 0 0, .slice none 0 0, .slice none 0 0, .slice none 0 0, .slice none 0 0, .slice none 0 0, .slice none 0 0] 34) := ⟨_, rfl⟩
  rw [← hW0, ← hb] at hst
  have HS0 := Lib.hid hst
  have hwn : IntKind.i64.wrap ((n : Int) - 1) = (n : Int) - 1 := IntWalk.i64_in _ (by omega)
  have HW0 := Lib.hid hW0
  have HBW := Lib.hid hb.symm
  have hmk := make_ints n (by omega)
  have HGF := Lib.hid hGf
  have HGL := Lib.hid hGl
  have HGM := Lib.hid hGm
  have HHF := Lib.hid hF
  have HNS := Lib.hid (show Stb (SL 0 []) from SL_stb (fun _ h => by cases h))
  clear hst h hF hb hW0 hGf hGl hGm
  by_cases hp : 0 ≤ p ∧ p < n
  · have HI1 := Lib.hid (inW_any p 0 ((n : Int) - 1) true (decide_eq_true (by omega)))
    obtain ⟨q, rfl⟩ := Int.eq_ofNat_of_zero_le hp.1
    have hq : q < n := by omega
    have hqI : (q : Int) < n := by omega
    by_cases hx : 0 ≤ x ∧ x ≤ 1000
    · have HI2 := Lib.hid (inW_any x 0 1000 true (decide_eq_true hx))
      have he : bbE n fa q x = if fa q ≠ 0 then 7 else 0 := by unfold bbE; rw [if_neg (by omega)]; rfl
      obtain ⟨bt, ot, rfl, _, _, ut, hct, rfl⟩ := sl_at (h := HS0.out.v.p1) hq
      by_cases ha : fa q = 0
      · rw [if_neg (by omega)] at he
        rw [he]
        rw [ha] at hct
        clear hp hx he ha
        go_enter Tryd.func8, Tryd.ntmps8
        go_upto_region 1 with fail
        rw [← HW0.out, HBW.out]
        obtain ⟨q0, q1, q2, q3, q4, q5, q6, q7⟩ := HS0.out.q
        have fq0 := HS0.out.box.free 0
        have fq1 := HS0.out.box.free 1
        have fq2 := HS0.out.box.free 2
        have fq3 := HS0.out.box.free 3
        have fq4 := HS0.out.box.free 4
        have fq5 := HS0.out.box.free 5
        have fq6 := HS0.out.box.free 6
        have fq7 := HS0.out.box.free 7
        obtain ⟨r0, r1, r2, r3, r4, r5, r6, r7⟩ := HS0.out.r
        have fr0 := HS0.out.res.free 0
        have fr1 := HS0.out.res.free 1
        have fr2 := HS0.out.res.free 2
        have fr3 := HS0.out.res.free 3
        have fr4 := HS0.out.res.free 4
        have fr5 := HS0.out.res.free 5
        have fr6 := HS0.out.res.free 6
        have fr7 := HS0.out.res.free 7
        go_upto_region 7 with (first | (go_at_call 26; (with_reducible refine (HI1.out _).mono ?_); rintro e w' ⟨rfl, rfl⟩) | (go_at_call 26; (with_reducible refine (HI2.out _).mono ?_); rintro e w' ⟨rfl, rfl⟩) | (go_at_call 27; (with_reducible refine (set_nm 1 HS0.out.hF HS0.out.v.p1 hq (by omega)).mono ?_); rintro e w1 ⟨E1, e1, rfl, hn, hb⟩; have HN1 := Lib.hid hn; have HC1 := Lib.hid (HS0.out.call hb); have qd := HC1.out.q.2.1; have fd1 := HC1.out.box.free 1; clear hn hb))
        clear hct
        clear q0 fq0 r0 fr0 q1 fq1 r1 fr1 q2 fq2 r2 fr2 q3 fq3 r3 fr3 q4 fq4 r4 fr4 q5 fq5 r5 fr5 q6 fq6 r6 fr6 q7 fq7 r7 fr7
        clear qd fd1
        have hs1 := HC1.out.put1 (nm_stb _ _) HN1.out
        obtain ⟨V1, hV1⟩ : ∃ V, V = w1.setCell ⟨b, 1, none⟩ (.slice E1 n e1) := ⟨_, rfl⟩
        rw [← hV1] at hs1 ⊢
        have HS1 := Lib.hid hs1
        clear hs1 hV1 HC1 HN1
        obtain ⟨q0, q1, q2, q3, q4, q5, q6, q7⟩ := HS1.out.q
        have fq0 := HS1.out.box.free 0
        have fq1 := HS1.out.box.free 1
        have fq2 := HS1.out.box.free 2
        have fq3 := HS1.out.box.free 3
        have fq4 := HS1.out.box.free 4
        have fq5 := HS1.out.box.free 5
        have fq6 := HS1.out.box.free 6
        have fq7 := HS1.out.box.free 7
        obtain ⟨r0, r1, r2, r3, r4, r5, r6, r7⟩ := HS1.out.r
        have fr0 := HS1.out.res.free 0
        have fr1 := HS1.out.res.free 1
        have fr2 := HS1.out.res.free 2
        have fr3 := HS1.out.res.free 3
        have fr4 := HS1.out.res.free 4
        have fr5 := HS1.out.res.free 5
        have fr6 := HS1.out.res.free 6
        have fr7 := HS1.out.res.free 7
        go_upto_region 9 with (go_at_call 27; (with_reducible refine (set_nm x HS1.out.hF HS1.out.v.p2 hq (by omega)).mono ?_); rintro e w2 ⟨E2, e2, rfl, hn, hb⟩; have HN2 := Lib.hid hn; have HC2 := Lib.hid (HS1.out.call hb); have qd := HC2.out.q.2.2.1; have fd2 := HC2.out.box.free 2; clear hn hb)
        clear q0 fq0 r0 fr0 q1 fq1 r1 fr1 q2 fq2 r2 fr2 q3 fq3 r3 fr3 q4 fq4 r4 fr4 q5 fq5 r5 fr5 q6 fq6 r6 fr6 q7 fq7 r7 fr7
        clear qd fd2
        have hs2 := HC2.out.put2 (nm_stb _ _) HN2.out
        obtain ⟨V2, hV2⟩ : ∃ V, V = w2.setCell ⟨b, 2, none⟩ (.slice E2 n e2) := ⟨_, rfl⟩
        rw [← hV2] at hs2 ⊢
        have HS2 := Lib.hid hs2
        clear hs2 hV2 HC2 HN2
        obtain ⟨b3, o3, rfl, hb3, hnf3, us, hul, hcell, hus⟩ := SL.vals HS2.out.v.p3 (by rw [sl_len]; omega)
        rw [sl_len] at hul
        obtain ⟨i0, hi0, hz0, hz1, hz2⟩ := info_parts Tbool_info
        have huone : ∀ u ∈ us, u.oneCell' = true := fun u hu => by
          obtain ⟨j, hj⟩ := List.mem_iff_getElem?.1 hu
          have hjl : j < n := by have := (List.getElem?_eq_some_iff.1 hj).1; omega
          obtain ⟨u2, h2, h3⟩ := hus j _ (sl_get _ hjl)
          rw [hj] at h2
          rw [Option.some.inj h2]
          exact (isBool_stb _).one h3
        have hn0 : 0 < n := by omega
        have HC := Lib.hid hcell
        have HU := Lib.hid hul
        have HU1 := Lib.hid huone
        have HUS := Lib.hid hus
        clear hcell hul huone hus hb3 hnf3
        obtain ⟨q0, q1, q2, q3, q4, q5, q6, q7⟩ := HS2.out.q
        have fq0 := HS2.out.box.free 0
        have fq1 := HS2.out.box.free 1
        have fq2 := HS2.out.box.free 2
        have fq3 := HS2.out.box.free 3
        have fq4 := HS2.out.box.free 4
        have fq5 := HS2.out.box.free 5
        have fq6 := HS2.out.box.free 6
        have fq7 := HS2.out.box.free 7
        obtain ⟨r0, r1, r2, r3, r4, r5, r6, r7⟩ := HS2.out.r
        have fr0 := HS2.out.res.free 0
        have fr1 := HS2.out.res.free 1
        have fr2 := HS2.out.res.free 2
        have fr3 := HS2.out.res.free 3
        have fr4 := HS2.out.res.free 4
        have fr5 := HS2.out.res.free 5
        have fr6 := HS2.out.res.free 6
        have fr7 := HS2.out.res.free 7
        go_upto_region 10 with (at_builtin; refine wpList_append_lies _ rfl (.tmp 44) (.tmp 46) 31 rfl V2.heap.size 4 i0 (.bool false) 1 1 Tryd.underlying31 hi0 hz0 hz1 hz2 rfl (by omega) (.slice none 0 0) 0 [] rfl (World.ownsRow_nil _ _ _ _) ⟨b3, o3, none⟩ n c3 us rfl (by rw [HU.out]; omega) HC.out HU1.out hn0 (by unfold maxLen; omega) (by omega) (Nat.le_refl _) V2.heap.size rfl ?_; intro qb cap3 w3 hown hgrow hat hlt; have HO := Lib.hid hown; have HG := Lib.hid hgrow; clear hown hgrow hat hlt)
        clear q0 fq0 r0 fr0 q1 fq1 r1 fr1 q2 fq2 r2 fr2 q3 fq3 r3 fr3 q4 fq4 r4 fr4 q5 fq5 r5 fr5 q6 fq6 r6 fr6 q7 fq7 r7 fr7
        have ho : w3.ownsRow V2.heap.size 4 1 (.slice (some ⟨qb, 0, none⟩) n cap3) n us := by have := HO.out; rwa [Nat.zero_add, List.nil_append] at this
        have hb1 : Below V2.heap.size V2 w3 := (Below.refl V2.heap.size V2).grown HG.out (Nat.le_refl _) fun k hk => by cases hk
        have hq3 : V2.heap.size ≤ qb := (ho.lt qb rfl).1
        obtain ⟨y, hy⟩ : ∃ y, us[q]? = some y := ⟨us[q]'(by have := HU.out; omega), List.getElem?_eq_getElem _⟩
        have hqc : w3.cell? ⟨qb, q, none⟩ = some y := by
          rw [ho.cellAt q (by omega)]; exact hy
        have hqf : w3.frozen? ⟨qb, q, none⟩ = false := ho.frozenAt q
        have hb2 := hb1.setCell (p := ⟨qb, q, none⟩) hq3 (.bool wr)
        have hbl : bl n (rput fb q wr) (FB F b) (w3.setCell ⟨qb, q, none⟩ (.bool wr)) (.slice (some ⟨qb, 0, none⟩) n cap3) := by
          refine SL.own (ho.stored q (.bool wr)).1 HS2.out.hF (by rw [List.length_set, sl_len, HU.out]) (by rw [sl_len]; omega) fun j Q hQ => ?_
          have hj : j < n := by have := (List.getElem?_eq_some_iff.1 hQ).1; simpa using this
          rw [sl_get _ hj] at hQ
          rw [← Option.some.inj hQ]
          by_cases e : q = j
          · subst e
            rw [rput_same]
            exact ⟨_, List.getElem?_set_self (by rw [HU.out]; exact hj), rfl⟩
          · obtain ⟨u, h1, h2⟩ := HUS.out j _ (sl_get _ hj)
            rw [rput_other (fun h => e h.symm)]
            exact ⟨u, by rw [List.getElem?_set_ne e]; exact h1, h2⟩
        have HBL := Lib.hid hbl
        have HB2 := Lib.hid hb2
        clear ho hb1 hq3 hy HO HG HC HU HU1 HUS hbl hb2
        go_upto_region 11 with fail
        clear hqc hqf
        have hs3 := HS2.out.call HB2.out
        have hbl := HBL.out
        obtain ⟨W3, hW3⟩ : ∃ V, V = w3.setCell ⟨qb, q, none⟩ (.bool wr) := ⟨_, rfl⟩
        rw [← hW3] at hs3 hbl ⊢
        have HS3 := Lib.hid hs3
        have HBL3 := Lib.hid hbl
        clear hs3 hbl hW3 HBL HB2 HS2
        obtain ⟨q0, q1, q2, q3, q4, q5, q6, q7⟩ := HS3.out.q
        have fq0 := HS3.out.box.free 0
        have fq1 := HS3.out.box.free 1
        have fq2 := HS3.out.box.free 2
        have fq3 := HS3.out.box.free 3
        have fq4 := HS3.out.box.free 4
        have fq5 := HS3.out.box.free 5
        have fq6 := HS3.out.box.free 6
        have fq7 := HS3.out.box.free 7
        obtain ⟨r0, r1, r2, r3, r4, r5, r6, r7⟩ := HS3.out.r
        have fr0 := HS3.out.res.free 0
        have fr1 := HS3.out.res.free 1
        have fr2 := HS3.out.res.free 2
        have fr3 := HS3.out.res.free 3
        have fr4 := HS3.out.res.free 4
        have fr5 := HS3.out.res.free 5
        have fr6 := HS3.out.res.free 6
        have fr7 := HS3.out.res.free 7
        go_upto_region 12 with fail
        clear q0 fq0 r0 fr0 q1 fq1 r1 fr1 q2 fq2 r2 fr2 q3 fq3 r3 fr3 q4 fq4 r4 fr4 q5 fq5 r5 fr5 q6 fq6 r6 fr6 q7 fq7 r7 fr7
        have hs4 := HS3.out.put3 (bl_stb _ _) HBL3.out
        obtain ⟨V4, hV4⟩ : ∃ V, V = W3.setCell ⟨b, 3, none⟩ (.slice (some ⟨qb, 0, none⟩) n cap3) := ⟨_, rfl⟩
        rw [← hV4] at hs4 ⊢
        have HS4 := Lib.hid hs4
        clear hs4 hV4 HBL3 HS3
        obtain ⟨q0, q1, q2, q3, q4, q5, q6, q7⟩ := HS4.out.q
        have fq0 := HS4.out.box.free 0
        have fq1 := HS4.out.box.free 1
        have fq2 := HS4.out.box.free 2
        have fq3 := HS4.out.box.free 3
        have fq4 := HS4.out.box.free 4
        have fq5 := HS4.out.box.free 5
        have fq6 := HS4.out.box.free 6
        have fq7 := HS4.out.box.free 7
        obtain ⟨r0, r1, r2, r3, r4, r5, r6, r7⟩ := HS4.out.r
        have fr0 := HS4.out.res.free 0
        have fr1 := HS4.out.res.free 1
        have fr2 := HS4.out.res.free 2
        have fr3 := HS4.out.res.free 3
        have fr4 := HS4.out.res.free 4
        have fr5 := HS4.out.res.free 5
        have fr6 := HS4.out.res.free 6
        have fr7 := HS4.out.res.free 7
        go_upto_region 13 with (go_at_call 28; (with_reducible refine (reads_sl' (P := SL 0 []) (Ax := none) (mx := 0) (cx := 0) HS4.out.hF HGF.out HNS.out HS4.out.v.p4 hq (by omega) (SL.nil 0 _ _)).mono ?_); rintro e w5 ⟨E5, e5, rfl, hn, hb⟩; have HN5 := Lib.hid hn; have HC5 := Lib.hid (HS4.out.call hb); have qd := HC5.out.q.2.2.2.2.1; have fd5 := HC5.out.box.free 4; clear hn hb)
        clear q0 fq0 r0 fr0 q1 fq1 r1 fr1 q2 fq2 r2 fr2 q3 fq3 r3 fr3 q4 fq4 r4 fr4 q5 fq5 r5 fr5 q6 fq6 r6 fr6 q7 fq7 r7 fr7
        clear qd fd5
        have hs5 := HC5.out.put4 (sl_stb (rput_stb HGF.out HNS.out)) HN5.out
        obtain ⟨V5, hV5⟩ : ∃ V, V = w5.setCell ⟨b, 4, none⟩ (.slice E5 n e5) := ⟨_, rfl⟩
        rw [← hV5] at hs5 ⊢
        have HS5 := Lib.hid hs5
        clear hs5 hV5 HC5 HN5
        obtain ⟨q0, q1, q2, q3, q4, q5, q6, q7⟩ := HS5.out.q
        have fq0 := HS5.out.box.free 0
        have fq1 := HS5.out.box.free 1
        have fq2 := HS5.out.box.free 2
        have fq3 := HS5.out.box.free 3
        have fq4 := HS5.out.box.free 4
        have fq5 := HS5.out.box.free 5
        have fq6 := HS5.out.box.free 6
        have fq7 := HS5.out.box.free 7
        obtain ⟨r0, r1, r2, r3, r4, r5, r6, r7⟩ := HS5.out.r
        have fr0 := HS5.out.res.free 0
        have fr1 := HS5.out.res.free 1
        have fr2 := HS5.out.res.free 2
        have fr3 := HS5.out.res.free 3
        have fr4 := HS5.out.res.free 4
        have fr5 := HS5.out.res.free 5
        have fr6 := HS5.out.res.free 6
        have fr7 := HS5.out.res.free 7
        go_upto_region 14 with (go_at_call 28; (with_reducible refine (reads_sl' (P := SL 0 []) (Ax := none) (mx := 0) (cx := 0) HS5.out.hF HGL.out HNS.out HS5.out.v.p5 hq (by omega) (SL.nil 0 _ _)).mono ?_); rintro e w6 ⟨E6, e6, rfl, hn, hb⟩; have HN6 := Lib.hid hn; have HC6 := Lib.hid (HS5.out.call hb); have qd := HC6.out.q.2.2.2.2.2.1; have fd6 := HC6.out.box.free 5; clear hn hb)
        clear q0 fq0 r0 fr0 q1 fq1 r1 fr1 q2 fq2 r2 fr2 q3 fq3 r3 fr3 q4 fq4 r4 fr4 q5 fq5 r5 fr5 q6 fq6 r6 fr6 q7 fq7 r7 fr7
        clear qd fd6
        have hs6 := HC6.out.put5 (sl_stb (rput_stb HGL.out HNS.out)) HN6.out
        obtain ⟨V6, hV6⟩ : ∃ V, V = w6.setCell ⟨b, 5, none⟩ (.slice E6 n e6) := ⟨_, rfl⟩
        rw [← hV6] at hs6 ⊢
        have HS6 := Lib.hid hs6
        clear hs6 hV6 HC6 HN6
        obtain ⟨q0, q1, q2, q3, q4, q5, q6, q7⟩ := HS6.out.q
        have fq0 := HS6.out.box.free 0
        have fq1 := HS6.out.box.free 1
        have fq2 := HS6.out.box.free 2
        have fq3 := HS6.out.box.free 3
        have fq4 := HS6.out.box.free 4
        have fq5 := HS6.out.box.free 5
        have fq6 := HS6.out.box.free 6
        have fq7 := HS6.out.box.free 7
        obtain ⟨r0, r1, r2, r3, r4, r5, r6, r7⟩ := HS6.out.r
        have fr0 := HS6.out.res.free 0
        have fr1 := HS6.out.res.free 1
        have fr2 := HS6.out.res.free 2
        have fr3 := HS6.out.res.free 3
        have fr4 := HS6.out.res.free 4
        have fr5 := HS6.out.res.free 5
        have fr6 := HS6.out.res.free 6
        have fr7 := HS6.out.res.free 7
        have HS7 := Lib.hid (HS6.out.call (show Below V6.heap.size V6 (V6.alloc (.cells (madeCells #[.int .i64 0] n) 3)).drew from ((Below.refl _ V6).alloc (Nat.le_refl _) _).drew))
        have HZ7 := Lib.hid (show nm n (fun _ => 0) (FB F b) (V6.alloc (.cells (madeCells #[.int .i64 0] n) 3)).drew (.slice (some ⟨V6.heap.size, 0, none⟩) n n) from zeros_nm (IRow.made V6 n) (fun e => absurd (HS6.out.hF _ e) (Nat.lt_irrefl _)) h1)
        have HNM := Lib.hid (nm_stb n fun _ => 0)
        have qa6 := (HS6.out.call ((Below.refl V6.heap.size V6).alloc (Nat.le_refl _) (.cells (madeCells #[.int .i64 0] n) 3))).q.2.2.2.2.2.2.1
        go_region_with (go_at_call 29; (with_reducible refine (rows_sl' (P := nm n fun _ => 0) (Ax := some ⟨V6.heap.size, 0, none⟩) (mx := n) (cx := n) HS7.out.hF HGM.out HNM.out HS7.out.v.p6 hq (by omega) HZ7.out).mono ?_); rintro e w7 ⟨E7, e7, rfl, hn, hb⟩; have HN7 := Lib.hid hn; have HC7 := Lib.hid (HS7.out.call hb); have qd := HC7.out.q.2.2.2.2.2.2.1; have fd7 := HC7.out.box.free 6; clear hn hb)
        all_goals
          go_upto_region 15 with fail
          clear q0 fq0 r0 fr0 q1 fq1 r1 fr1 q2 fq2 r2 fr2 q3 fq3 r3 fr3 q4 fq4 r4 fr4 q5 fq5 r5 fr5 q6 fq6 r6 fr6 q7 fq7 r7 fr7
          clear qd fd7
          have hs7 := HC7.out.put6 (sl_stb (rput_stb HGM.out HNM.out)) HN7.out
          obtain ⟨V8, hV7⟩ : ∃ V, V = w7.setCell ⟨b, 6, none⟩ (.slice E7 n e7) := ⟨_, rfl⟩
          rw [← hV7] at hs7 ⊢
          have HS8 := Lib.hid hs7
          clear hs7 hV7 HC7 HN7
          obtain ⟨q0, q1, q2, q3, q4, q5, q6, q7⟩ := HS8.out.q
          have fq0 := HS8.out.box.free 0
          have fq1 := HS8.out.box.free 1
          have fq2 := HS8.out.box.free 2
          have fq3 := HS8.out.box.free 3
          have fq4 := HS8.out.box.free 4
          have fq5 := HS8.out.box.free 5
          have fq6 := HS8.out.box.free 6
          have fq7 := HS8.out.box.free 7
          obtain ⟨r0, r1, r2, r3, r4, r5, r6, r7⟩ := HS8.out.r
          have fr0 := HS8.out.res.free 0
          have fr1 := HS8.out.res.free 1
          have fr2 := HS8.out.res.free 2
          have fr3 := HS8.out.res.free 3
          have fr4 := HS8.out.res.free 4
          have fr5 := HS8.out.res.free 5
          have fr6 := HS8.out.res.free 6
          have fr7 := HS8.out.res.free 7
          go_wp2
          refine bodyPost_ret (v := .tuple _) (results_cell2 rfl _ _ (b + 1) 34 _ (0, 0) _ rfl HS8.out.told.1 Tryd.underlying34 rfl (by kernel_rfl)) rfl ⟨_, _, _, _, _, _, rfl, HS8.out.told.2.1, fun h => absurd rfl h, fun _ => HS8.out.told.2.2⟩
      · rw [if_pos ha] at he
        rw [he]
        have hI : (fa q != 0) = true := by simp; omega
        clear hp hx he ha
        go_enter Tryd.func8, Tryd.ntmps8
        go_upto_region 1 with fail
        rw [← HW0.out, HBW.out]
        obtain ⟨q0, q1, q2, q3, q4, q5, q6, q7⟩ := HS0.out.q
        have fq0 := HS0.out.box.free 0
        have fq1 := HS0.out.box.free 1
        have fq2 := HS0.out.box.free 2
        have fq3 := HS0.out.box.free 3
        have fq4 := HS0.out.box.free 4
        have fq5 := HS0.out.box.free 5
        have fq6 := HS0.out.box.free 6
        have fq7 := HS0.out.box.free 7
        obtain ⟨r0, r1, r2, r3, r4, r5, r6, r7⟩ := HS0.out.r
        have fr0 := HS0.out.res.free 0
        have fr1 := HS0.out.res.free 1
        have fr2 := HS0.out.res.free 2
        have fr3 := HS0.out.res.free 3
        have fr4 := HS0.out.res.free 4
        have fr5 := HS0.out.res.free 5
        have fr6 := HS0.out.res.free 6
        have fr7 := HS0.out.res.free 7
        go_wp2_with (first | (go_at_call 26; (with_reducible refine (HI1.out _).mono ?_); rintro e w' ⟨rfl, rfl⟩) | (go_at_call 26; (with_reducible refine (HI2.out _).mono ?_); rintro e w' ⟨rfl, rfl⟩))
        refine bodyPost_ret (v := .tuple _) (results_cell2 rfl _ _ (b + 1) 34 _ (0, 0) _ rfl HS0.out.told.1 Tryd.underlying34 rfl (by kernel_rfl)) rfl ⟨_, _, _, _, _, _, rfl, HS0.out.told.2.1, fun _ => HS0.out.told.2.2, fun h => absurd h (by omega)⟩
    · have HI2 := Lib.hid (inW_any x 0 1000 false (decide_eq_false hx))
      have he : bbE n fa q x = 1 := by unfold bbE; rw [if_pos (Or.inr hx)]
      rw [he]
      clear hp hx he
      go_enter Tryd.func8, Tryd.ntmps8
      go_upto_region 1 with fail
      rw [← HW0.out, HBW.out]
      obtain ⟨q0, q1, q2, q3, q4, q5, q6, q7⟩ := HS0.out.q
      have fq0 := HS0.out.box.free 0
      have fq1 := HS0.out.box.free 1
      have fq2 := HS0.out.box.free 2
      have fq3 := HS0.out.box.free 3
      have fq4 := HS0.out.box.free 4
      have fq5 := HS0.out.box.free 5
      have fq6 := HS0.out.box.free 6
      have fq7 := HS0.out.box.free 7
      obtain ⟨r0, r1, r2, r3, r4, r5, r6, r7⟩ := HS0.out.r
      have fr0 := HS0.out.res.free 0
      have fr1 := HS0.out.res.free 1
      have fr2 := HS0.out.res.free 2
      have fr3 := HS0.out.res.free 3
      have fr4 := HS0.out.res.free 4
      have fr5 := HS0.out.res.free 5
      have fr6 := HS0.out.res.free 6
      have fr7 := HS0.out.res.free 7
      go_wp2_with (first | (go_at_call 26; (with_reducible refine (HI1.out _).mono ?_); rintro e w' ⟨rfl, rfl⟩) | (go_at_call 26; (with_reducible refine (HI2.out _).mono ?_); rintro e w' ⟨rfl, rfl⟩))
      refine bodyPost_ret (v := .tuple _) (results_cell2 rfl _ _ (b + 1) 34 _ (0, 0) _ rfl HS0.out.told.1 Tryd.underlying34 rfl (by kernel_rfl)) rfl ⟨_, _, _, _, _, _, rfl, HS0.out.told.2.1, fun _ => HS0.out.told.2.2, fun h => absurd h (by omega)⟩
  · have HI1 := Lib.hid (inW_any p 0 ((n : Int) - 1) false (decide_eq_false (by omega)))
    have he : bbE n fa p x = 1 := by unfold bbE; rw [if_pos (Or.inl hp)]
    rw [he]
    clear hp he
    go_enter Tryd.func8, Tryd.ntmps8
    go_upto_region 1 with fail
    rw [← HW0.out, HBW.out]
    obtain ⟨q0, q1, q2, q3, q4, q5, q6, q7⟩ := HS0.out.q
    have fq0 := HS0.out.box.free 0
    have fq1 := HS0.out.box.free 1
    have fq2 := HS0.out.box.free 2
    have fq3 := HS0.out.box.free 3
    have fq4 := HS0.out.box.free 4
    have fq5 := HS0.out.box.free 5
    have fq6 := HS0.out.box.free 6
    have fq7 := HS0.out.box.free 7
    obtain ⟨r0, r1, r2, r3, r4, r5, r6, r7⟩ := HS0.out.r
    have fr0 := HS0.out.res.free 0
    have fr1 := HS0.out.res.free 1
    have fr2 := HS0.out.res.free 2
    have fr3 := HS0.out.res.free 3
    have fr4 := HS0.out.res.free 4
    have fr5 := HS0.out.res.free 5
    have fr6 := HS0.out.res.free 6
    have fr7 := HS0.out.res.free 7
    go_wp2_with (go_at_call 26; (with_reducible refine (HI1.out _).mono ?_); rintro e w' ⟨rfl, rfl⟩)
    refine bodyPost_ret (v := .tuple _) (results_cell2 rfl _ _ (b + 1) 34 _ (0, 0) _ rfl HS0.out.told.1 Tryd.underlying34 rfl (by kernel_rfl)) rfl ⟨_, _, _, _, _, _, rfl, HS0.out.told.2.1, fun _ => HS0.out.told.2.2, fun h => absurd h (by omega)⟩
end Go.Proofs.YtnplhjbbkccdnaaDoor.Snap
