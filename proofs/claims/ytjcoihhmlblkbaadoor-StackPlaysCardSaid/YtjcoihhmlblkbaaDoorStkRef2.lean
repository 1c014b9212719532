/-
  The reference of package stack: BeginStack.
-/
import Derived.Test.YtjcoihhmlblkbaaDoorStkRef
import Derived.Deep.RegionHeld3
namespace Go.Proofs.YtjcoihhmlblkbaaDoor.Stk
open Go.RowKit Rf

theorem rput_cast {f : Nat → Nat} {i z : Nat} {y : Int} (h : y = (z : Int)) : rput (fun p => ((f p : Nat) : Int)) i y = fun p => ((rput f i z p : Nat) : Int) := funext fun j => by
  by_cases e : j = i
  · rw [e, rput_same, rput_same, h]
  · rw [rput_other e, rput_other e]
/-- What BeginStack hands back. -/
def BegT (F : Nat → Prop) (w w' : World) (n : Nat) (tg : Bool) (E : Int) (s : KS) (e : Ending) : Prop := ∃ u0 u1 u2 u3 u4 u5 u6 u7 u8 u9 u10 gm gn gt gx, e = .returned (.tuple #[.agg #[u0, u1, u2, u3, u4, u5, u6, u7, u8, u9, u10], .int .i64 E]) ∧ RK F w' n tg s u0 u1 u2 u3 u4 u5 u6 u7 u8 u9 u10 gm gn gt gx ∧ Below w.heap.size w w'
theorem BegT.of {F : Nat → Prop} {w w' : World} {n : Nat} {tg : Bool} {E : Int} {s : KS} {e : Ending} (h : ∃ u0 u1 u2 u3 u4 u5 u6 u7 u8 u9 u10 gm gn gt gx, e = .returned (.tuple #[.agg #[u0, u1, u2, u3, u4, u5, u6, u7, u8, u9, u10], .int .i64 E]) ∧ RK F w' n tg s u0 u1 u2 u3 u4 u5 u6 u7 u8 u9 u10 gm gn gt gx ∧ Below w.heap.size w w') : BegT F w w' n tg E s e := h
set_option maxHeartbeats 8000000 in
set_option maxRecDepth 100000 in
theorem refbegin_any {F : Nat → Prop} {n : Nat} {tg : Bool} {v : KS} {v0 v1 v2 v3 v4 v5 v6 v7 v8 v9 v10 : Value} {fm fn ft fx : Nat → Int} (w : World) (h : RK F w n tg v v0 v1 v2 v3 v4 v5 v6 v7 v8 v9 v10 fm fn ft fx) (hF : ∀ b, F b → b < w.heap.size) (h1 : 1 ≤ n) (h4 : n ≤ 4) (p x : Int) :
    Calls Tryd.prog 19 #[.agg #[v0, v1, v2, v3, v4, v5, v6, v7, v8, v9, v10], .int .i64 p, .int .i64 x] w fun e w' => BegT F w w' n tg (begE n v p x) (begS n v p x) e := by
  have e0 : v0 = .bool tg := h.rv.p0
  have e1 : v1 = .int .i64 v.tn := h.rv.p1
  have e2 : v2 = .int .i64 v.tt := h.rv.p2
  subst e0 e1 e2
  obtain ⟨A3, c3, rfl⟩ := SL.form h.rv.p3
  obtain ⟨A4, c4, rfl⟩ := SL.form h.rv.p4
  obtain ⟨A5, c5, rfl⟩ := SL.form h.rv.p5
  obtain ⟨A6, c6, rfl⟩ := SL.form h.rv.p6
  obtain ⟨A7, c7, rfl⟩ := SL.form h.rv.p7
  obtain ⟨A8, c8, rfl⟩ := SL.form h.rv.p8
  obtain ⟨A9, c9, rfl⟩ := SL.form h.rv.p9
  obtain ⟨A10, c10, rfl⟩ := SL.form h.rv.p10
  have hst := RS.start h.rv hF
  obtain ⟨b, hb⟩ : ∃ b, b = w.heap.size := ⟨_, rfl⟩
  obtain ⟨W0, hW0⟩ : ∃ W0, W0 = (w.alloc (.cells #[.bool tg, .int .i64 v.tn, .int .i64 v.tt, .slice A3 4 c3, .slice A4 4 c4, .slice A5 4 c5, .slice A6 n c6, .slice A7 n c7, .slice A8 n c8, .slice A9 n c9, .slice A10 n c10] 54)).alloc (.cells #[.bool false, .int .i64 0, .int .i64 0, .slice none 0 0, .slice none 0 0, .slice none 0 0, .slice none 0 0, .slice none 0 0, .slice none 0 0, .slice none 0 0, .slice none 0 0] 54) := ⟨_, rfl⟩
  rw [← hW0, ← hb] at hst
  have HS0 := Lib.hid hst
  have hwn : IntKind.i64.wrap ((n : Int) - 1) = (n : Int) - 1 := IntWalk.i64_in _ (by omega)
  have HW0 := Lib.hid hW0
  have HBW := Lib.hid hb.symm
  have HF := Lib.hid h.f
  have HRV := Lib.hid h.rv
  clear hst h hF hb hW0
  by_cases hp : 0 ≤ p ∧ p < n
  · have HI1 := Lib.hid (inW_any p 0 ((n : Int) - 1) true (decide_eq_true (by omega)))
    obtain ⟨q, rfl⟩ := Int.eq_ofNat_of_zero_le hp.1
    have hq : q < n := by omega
    have hqI : (q : Int) < n := by omega
    obtain ⟨bt, ot, rfl, _, _, hct⟩ := nm_at HS0.out.v.p6 hq
    by_cases ha : v.a q = 0
    · have ha0 := ha
      rw [ha] at hct
      by_cases hx : x < 0
      · have he : begE n v q x = 0 := by rw [beg_zero hq ha, if_pos hx]
        have hs : begS n v q x = kclr v q 3 0 := by unfold begS; rw [if_pos he, if_pos hx]; rfl
        rw [he, hs]
        clear hp he hs ha ha0
        go_enter Tryd.func19, Tryd.ntmps19
        go_upto_region 1 with fail
        rw [← HW0.out, HBW.out]
        obtain ⟨q0, q1, q2, q3, q4, q5, q6, q7, q8, q9, q10⟩ := HS0.out.q
        have fq0 := HS0.out.box.free 0
        have fq1 := HS0.out.box.free 1
        have fq2 := HS0.out.box.free 2
        have fq3 := HS0.out.box.free 3
        have fq4 := HS0.out.box.free 4
        have fq5 := HS0.out.box.free 5
        have fq6 := HS0.out.box.free 6
        have fq7 := HS0.out.box.free 7
        have fq8 := HS0.out.box.free 8
        have fq9 := HS0.out.box.free 9
        have fq10 := HS0.out.box.free 10
        obtain ⟨r0, r1, r2, r3, r4, r5, r6, r7, r8, r9, r10⟩ := HS0.out.r
        have fr0 := HS0.out.res.free 0
        have fr1 := HS0.out.res.free 1
        have fr2 := HS0.out.res.free 2
        have fr3 := HS0.out.res.free 3
        have fr4 := HS0.out.res.free 4
        have fr5 := HS0.out.res.free 5
        have fr6 := HS0.out.res.free 6
        have fr7 := HS0.out.res.free 7
        have fr8 := HS0.out.res.free 8
        have fr9 := HS0.out.res.free 9
        have fr10 := HS0.out.res.free 10
        go_upto_region 7 with (first | (go_at_call 26; (with_reducible refine (HI1.out _).mono ?_); rintro e w' ⟨rfl, rfl⟩) | (go_at_call 27; (with_reducible refine (set_nm 3 HS0.out.hF HS0.out.v.p6 hq (by omega)).mono ?_); rintro e w1 ⟨E1, e1, rfl, hn, hb⟩; have HN1 := Lib.hid hn; have HC1 := Lib.hid (HS0.out.call hb); have qd := HC1.out.q.2.2.2.2.2.2.1; have fd1 := HC1.out.box.free 6; clear hn hb))
        clear hct
        clear q0 fq0 r0 fr0 q1 fq1 r1 fr1 q2 fq2 r2 fr2 q3 fq3 r3 fr3 q4 fq4 r4 fr4 q5 fq5 r5 fr5 q6 fq6 r6 fr6 q7 fq7 r7 fr7 q8 fq8 r8 fr8 q9 fq9 r9 fr9 q10 fq10 r10 fr10
        clear qd fd1
        have hs1 := HC1.out.put6 (nm_stb _ _) HN1.out
        obtain ⟨V1, hV1⟩ : ∃ V, V = w1.setCell ⟨b, 6, none⟩ (.slice E1 n e1) := ⟨_, rfl⟩
        rw [← hV1] at hs1 ⊢
        have HS1 := Lib.hid hs1
        clear hs1 hV1 HC1 HN1
        obtain ⟨q0, q1, q2, q3, q4, q5, q6, q7, q8, q9, q10⟩ := HS1.out.q
        have fq0 := HS1.out.box.free 0
        have fq1 := HS1.out.box.free 1
        have fq2 := HS1.out.box.free 2
        have fq3 := HS1.out.box.free 3
        have fq4 := HS1.out.box.free 4
        have fq5 := HS1.out.box.free 5
        have fq6 := HS1.out.box.free 6
        have fq7 := HS1.out.box.free 7
        have fq8 := HS1.out.box.free 8
        have fq9 := HS1.out.box.free 9
        have fq10 := HS1.out.box.free 10
        obtain ⟨r0, r1, r2, r3, r4, r5, r6, r7, r8, r9, r10⟩ := HS1.out.r
        have fr0 := HS1.out.res.free 0
        have fr1 := HS1.out.res.free 1
        have fr2 := HS1.out.res.free 2
        have fr3 := HS1.out.res.free 3
        have fr4 := HS1.out.res.free 4
        have fr5 := HS1.out.res.free 5
        have fr6 := HS1.out.res.free 6
        have fr7 := HS1.out.res.free 7
        have fr8 := HS1.out.res.free 8
        have fr9 := HS1.out.res.free 9
        have fr10 := HS1.out.res.free 10
        go_wp2
        have hrv := HS1.out.told.2.2
        rw [rput_cast (y := 3) (z := 3) rfl] at hrv
        refine bodyPost_ret (v := .tuple _) (results_cell2 rfl _ _ (b + 1) 54 _ (0, 0) _ rfl HS1.out.told.1 Tryd.underlying54 rfl (by kernel_rfl)) rfl (BegT.of ⟨_, _, _, _, _, _, _, _, _, _, _, _, _, _, _, rfl, ⟨hrv, fun p hp => ?_⟩, HS1.out.told.2.1⟩)
        by_cases e : p = q
        · subst e
          have ea : (kclr v p 3 0).a p = 3 := rput_same _ _ _
          rw [ea]
          exact ⟨fun h => (by omega), fun h => (by omega), fun h => (by omega)⟩
        · have f := HF.out p hp
          have o1 : (kclr v q 3 0).a p = v.a p := rput_other e
          have o2 : (kclr v q 3 0).m p = v.m p := rput_other e
          have o3 : (kclr v q 3 0).sn p = v.sn p := rput_other e
          have o4 : (kclr v q 3 0).st p = v.st p := rput_other e
          have o5 : (kclr v q 3 0).sx p = v.sx p := rput_other e
          rw [o1, o2, o3, o4, o5]
          exact f
      · obtain ⟨K, hK⟩ : ∃ K, K = kfree v.u := ⟨_, rfl⟩
        have hK4 : K ≤ 4 := hK ▸ kfree_le v.u
        have HU := Lib.hid (show ∀ k, k < K → v.u k = true from fun k h => kfree_used (hK ▸ h))
        have HUF := Lib.hid (show K < 4 → v.u K = false from fun h => by rw [hK] at h ⊢; exact kfree_not h)
        have he : begE n v q x = if K = 4 then 4 else 0 := by rw [beg_zero hq ha, if_neg hx, hK]
        have HSB := Lib.hid (show K ≠ 4 → begS n v q x = kpush v q x K from fun h => by have e : begE n v q x = 0 := by rw [he, if_neg h]
                                                                                        unfold begS; rw [if_pos e, if_neg hx, hK]; rfl)
        have HSS := Lib.hid (show K = 4 → begS n v q x = v from fun h => by unfold begS; rw [he, if_pos h, if_neg (by decide)])
        obtain ⟨EE, hEE⟩ : ∃ e, e = begE n v q x := ⟨_, rfl⟩
        obtain ⟨SS, hSS⟩ : ∃ s, s = begS n v q x := ⟨_, rfl⟩
        rw [← hSS] at HSB HSS
        rw [← hEE, ← hSS]
        have HE0 := Lib.hid (show K ≠ 4 → EE = 0 from fun h => by rw [hEE, he, if_neg h])
        have HE4 := Lib.hid (show K = 4 → EE = 4 from fun h => by rw [hEE, he, if_pos h])
        clear hEE hSS
        obtain ⟨bu, ou, rfl, _, _, _⟩ := bl_at HS0.out.v.p5 (show 0 < 4 by omega)
        have HCU := Lib.hid (show ∀ k, k < 4 → W0.cell? ⟨bu, ou + k, none⟩ = some (.bool (v.u k)) from fun k hk => by
          obtain ⟨b2, o2, e2, _, _, h2⟩ := bl_at HS0.out.v.p5 hk
          injection e2 with e2
          injection e2 with e2 e3 _
          subst e2 e3
          exact h2)
        clear hp he ha ha0 hK
        go_enter Tryd.func19, Tryd.ntmps19
        go_upto_region 1 with fail
        rw [← HW0.out, HBW.out]
        obtain ⟨q0, q1, q2, q3, q4, q5, q6, q7, q8, q9, q10⟩ := HS0.out.q
        have fq0 := HS0.out.box.free 0
        have fq1 := HS0.out.box.free 1
        have fq2 := HS0.out.box.free 2
        have fq3 := HS0.out.box.free 3
        have fq4 := HS0.out.box.free 4
        have fq5 := HS0.out.box.free 5
        have fq6 := HS0.out.box.free 6
        have fq7 := HS0.out.box.free 7
        have fq8 := HS0.out.box.free 8
        have fq9 := HS0.out.box.free 9
        have fq10 := HS0.out.box.free 10
        obtain ⟨r0, r1, r2, r3, r4, r5, r6, r7, r8, r9, r10⟩ := HS0.out.r
        have fr0 := HS0.out.res.free 0
        have fr1 := HS0.out.res.free 1
        have fr2 := HS0.out.res.free 2
        have fr3 := HS0.out.res.free 3
        have fr4 := HS0.out.res.free 4
        have fr5 := HS0.out.res.free 5
        have fr6 := HS0.out.res.free 6
        have fr7 := HS0.out.res.free 7
        have fr8 := HS0.out.res.free 8
        have fr9 := HS0.out.res.free 9
        have fr10 := HS0.out.res.free 10
        go_upto_region 8 with (go_at_call 26; (with_reducible refine (HI1.out _).mono ?_); rintro e w' ⟨rfl, rfl⟩)
        clear hct
        go_wp2_with fail
        go_loopw [8] (fun i wr => ∃ k : Nat, k ≤ K ∧ i = .int .i64 k ∧ wr = W0) (fun i _ => 4 - (intOf i).toNat)
        case atStart => exact ⟨0, by omega, rfl, by trivial⟩
        case round =>
          obtain ⟨k, hk, rfl, rfl⟩ := hrel
          by_cases hk4 : k < 4
          · have hI : (k : Int) < 4 := by omega
            have hcu := HCU.out k hk4
            by_cases hkK : k < K
            · rw [HU.out k hkK] at hcu
              go_wp2_with fail
              go_roundw
              case rel => exact ⟨k + 1, by omega, by go_num, by trivial⟩
              case measure => simp [intOf]; omega
            · obtain rfl : k = K := by omega
              have hne : k ≠ 4 := by omega
              have hne2 : ((k : Int) == 4) = false := by simp; omega
              rw [HUF.out hk4] at hcu
              obtain rfl := HSB.out hne
              obtain rfl := HE0.out hne
              go_upto_region 14 with (go_at_call 40; (with_reducible refine (used_bl true HS0.out.hF HS0.out.v.p5 hk4 (by omega)).mono ?_); rintro e w1 ⟨E1, e1, rfl, hn, hb⟩; have HN1 := Lib.hid hn; have HC1 := Lib.hid (HS0.out.call hb); have qd := HC1.out.q.2.2.2.2.2.1; have fd1 := HC1.out.box.free 5; clear hn hb)
              clear hcu
              clear q0 fq0 r0 fr0 q1 fq1 r1 fr1 q2 fq2 r2 fr2 q3 fq3 r3 fr3 q4 fq4 r4 fr4 q5 fq5 r5 fr5 q6 fq6 r6 fr6 q7 fq7 r7 fr7 q8 fq8 r8 fr8 q9 fq9 r9 fr9 q10 fq10 r10 fr10
              clear qd fd1
              have hs1 := HC1.out.put5 (bl_stb _ _) HN1.out
              obtain ⟨V1, hV1⟩ : ∃ V, V = w1.setCell ⟨b, 5, none⟩ (.slice E1 4 e1) := ⟨_, rfl⟩
              rw [← hV1] at hs1 ⊢
              have HS1 := Lib.hid hs1
              clear hs1 hV1 HC1 HN1
              obtain ⟨q0, q1, q2, q3, q4, q5, q6, q7, q8, q9, q10⟩ := HS1.out.q
              have fq0 := HS1.out.box.free 0
              have fq1 := HS1.out.box.free 1
              have fq2 := HS1.out.box.free 2
              have fq3 := HS1.out.box.free 3
              have fq4 := HS1.out.box.free 4
              have fq5 := HS1.out.box.free 5
              have fq6 := HS1.out.box.free 6
              have fq7 := HS1.out.box.free 7
              have fq8 := HS1.out.box.free 8
              have fq9 := HS1.out.box.free 9
              have fq10 := HS1.out.box.free 10
              obtain ⟨r0, r1, r2, r3, r4, r5, r6, r7, r8, r9, r10⟩ := HS1.out.r
              have fr0 := HS1.out.res.free 0
              have fr1 := HS1.out.res.free 1
              have fr2 := HS1.out.res.free 2
              have fr3 := HS1.out.res.free 3
              have fr4 := HS1.out.res.free 4
              have fr5 := HS1.out.res.free 5
              have fr6 := HS1.out.res.free 6
              have fr7 := HS1.out.res.free 7
              have fr8 := HS1.out.res.free 8
              have fr9 := HS1.out.res.free 9
              have fr10 := HS1.out.res.free 10
              go_upto_region 15 with (go_at_call 27; (with_reducible refine (set_nm x HS1.out.hF HS1.out.v.p3 hk4 (by omega)).mono ?_); rintro e w2 ⟨E2, e2, rfl, hn, hb⟩; have HN2 := Lib.hid hn; have HC2 := Lib.hid (HS1.out.call hb); have qd := HC2.out.q.2.2.2.1; have fd2 := HC2.out.box.free 3; clear hn hb)
              clear q0 fq0 r0 fr0 q1 fq1 r1 fr1 q2 fq2 r2 fr2 q3 fq3 r3 fr3 q4 fq4 r4 fr4 q5 fq5 r5 fr5 q6 fq6 r6 fr6 q7 fq7 r7 fr7 q8 fq8 r8 fr8 q9 fq9 r9 fr9 q10 fq10 r10 fr10
              clear qd fd2
              have hs2 := HC2.out.put3 (nm_stb _ _) HN2.out
              obtain ⟨V2, hV2⟩ : ∃ V, V = w2.setCell ⟨b, 3, none⟩ (.slice E2 4 e2) := ⟨_, rfl⟩
              rw [← hV2] at hs2 ⊢
              have HS2 := Lib.hid hs2
              clear hs2 hV2 HC2 HN2
              obtain ⟨q0, q1, q2, q3, q4, q5, q6, q7, q8, q9, q10⟩ := HS2.out.q
              have fq0 := HS2.out.box.free 0
              have fq1 := HS2.out.box.free 1
              have fq2 := HS2.out.box.free 2
              have fq3 := HS2.out.box.free 3
              have fq4 := HS2.out.box.free 4
              have fq5 := HS2.out.box.free 5
              have fq6 := HS2.out.box.free 6
              have fq7 := HS2.out.box.free 7
              have fq8 := HS2.out.box.free 8
              have fq9 := HS2.out.box.free 9
              have fq10 := HS2.out.box.free 10
              obtain ⟨r0, r1, r2, r3, r4, r5, r6, r7, r8, r9, r10⟩ := HS2.out.r
              have fr0 := HS2.out.res.free 0
              have fr1 := HS2.out.res.free 1
              have fr2 := HS2.out.res.free 2
              have fr3 := HS2.out.res.free 3
              have fr4 := HS2.out.res.free 4
              have fr5 := HS2.out.res.free 5
              have fr6 := HS2.out.res.free 6
              have fr7 := HS2.out.res.free 7
              have fr8 := HS2.out.res.free 8
              have fr9 := HS2.out.res.free 9
              have fr10 := HS2.out.res.free 10
              go_upto_region 16 with (go_at_call 27; (with_reducible refine (set_nm (k : Int) HS2.out.hF HS2.out.v.p7 hq (by omega)).mono ?_); rintro e w3 ⟨E3, e3, rfl, hn, hb⟩; have HN3 := Lib.hid hn; have HC3 := Lib.hid (HS2.out.call hb); have qd := HC3.out.q.2.2.2.2.2.2.2.1; have fd3 := HC3.out.box.free 7; clear hn hb)
              clear q0 fq0 r0 fr0 q1 fq1 r1 fr1 q2 fq2 r2 fr2 q3 fq3 r3 fr3 q4 fq4 r4 fr4 q5 fq5 r5 fr5 q6 fq6 r6 fr6 q7 fq7 r7 fr7 q8 fq8 r8 fr8 q9 fq9 r9 fr9 q10 fq10 r10 fr10
              clear qd fd3
              have hs3 := HC3.out.put7 (nm_stb _ _) HN3.out
              obtain ⟨V3, hV3⟩ : ∃ V, V = w3.setCell ⟨b, 7, none⟩ (.slice E3 n e3) := ⟨_, rfl⟩
              rw [← hV3] at hs3 ⊢
              have HS3 := Lib.hid hs3
              clear hs3 hV3 HC3 HN3
              obtain ⟨q0, q1, q2, q3, q4, q5, q6, q7, q8, q9, q10⟩ := HS3.out.q
              have fq0 := HS3.out.box.free 0
              have fq1 := HS3.out.box.free 1
              have fq2 := HS3.out.box.free 2
              have fq3 := HS3.out.box.free 3
              have fq4 := HS3.out.box.free 4
              have fq5 := HS3.out.box.free 5
              have fq6 := HS3.out.box.free 6
              have fq7 := HS3.out.box.free 7
              have fq8 := HS3.out.box.free 8
              have fq9 := HS3.out.box.free 9
              have fq10 := HS3.out.box.free 10
              obtain ⟨r0, r1, r2, r3, r4, r5, r6, r7, r8, r9, r10⟩ := HS3.out.r
              have fr0 := HS3.out.res.free 0
              have fr1 := HS3.out.res.free 1
              have fr2 := HS3.out.res.free 2
              have fr3 := HS3.out.res.free 3
              have fr4 := HS3.out.res.free 4
              have fr5 := HS3.out.res.free 5
              have fr6 := HS3.out.res.free 6
              have fr7 := HS3.out.res.free 7
              have fr8 := HS3.out.res.free 8
              have fr9 := HS3.out.res.free 9
              have fr10 := HS3.out.res.free 10
              go_upto_region 17 with (go_at_call 27; (with_reducible refine (set_nm 1 HS3.out.hF HS3.out.v.p6 hq (by omega)).mono ?_); rintro e w4 ⟨E4, e4, rfl, hn, hb⟩; have HN4 := Lib.hid hn; have HC4 := Lib.hid (HS3.out.call hb); have qd := HC4.out.q.2.2.2.2.2.2.1; have fd4 := HC4.out.box.free 6; clear hn hb)
              clear q0 fq0 r0 fr0 q1 fq1 r1 fr1 q2 fq2 r2 fr2 q3 fq3 r3 fr3 q4 fq4 r4 fr4 q5 fq5 r5 fr5 q6 fq6 r6 fr6 q7 fq7 r7 fr7 q8 fq8 r8 fr8 q9 fq9 r9 fr9 q10 fq10 r10 fr10
              clear qd fd4
              have hs4 := HC4.out.put6 (nm_stb _ _) HN4.out
              obtain ⟨V4, hV4⟩ : ∃ V, V = w4.setCell ⟨b, 6, none⟩ (.slice E4 n e4) := ⟨_, rfl⟩
              rw [← hV4] at hs4 ⊢
              have HS4 := Lib.hid hs4
              clear hs4 hV4 HC4 HN4
              obtain ⟨q0, q1, q2, q3, q4, q5, q6, q7, q8, q9, q10⟩ := HS4.out.q
              have fq0 := HS4.out.box.free 0
              have fq1 := HS4.out.box.free 1
              have fq2 := HS4.out.box.free 2
              have fq3 := HS4.out.box.free 3
              have fq4 := HS4.out.box.free 4
              have fq5 := HS4.out.box.free 5
              have fq6 := HS4.out.box.free 6
              have fq7 := HS4.out.box.free 7
              have fq8 := HS4.out.box.free 8
              have fq9 := HS4.out.box.free 9
              have fq10 := HS4.out.box.free 10
              obtain ⟨r0, r1, r2, r3, r4, r5, r6, r7, r8, r9, r10⟩ := HS4.out.r
              have fr0 := HS4.out.res.free 0
              have fr1 := HS4.out.res.free 1
              have fr2 := HS4.out.res.free 2
              have fr3 := HS4.out.res.free 3
              have fr4 := HS4.out.res.free 4
              have fr5 := HS4.out.res.free 5
              have fr6 := HS4.out.res.free 6
              have fr7 := HS4.out.res.free 7
              have fr8 := HS4.out.res.free 8
              have fr9 := HS4.out.res.free 9
              have fr10 := HS4.out.res.free 10
              go_wp2
              have hrv := HS4.out.told.2.2
              rw [rput_cast (y := 1) (z := 1) rfl] at hrv
              refine bodyPost_ret (v := .tuple _) (results_cell2 rfl _ _ (b + 1) 54 _ (0, 0) _ rfl HS4.out.told.1 Tryd.underlying54 rfl (by kernel_rfl)) rfl (BegT.of ⟨_, _, _, _, _, _, _, _, _, _, _, _, _, _, _, rfl, ⟨hrv, fun p hp => ?_⟩, HS4.out.told.2.1⟩)
              by_cases e : p = q
              · subst e
                have ea : (kpush v p x k).a p = 1 := rput_same _ _ _
                have em : (kpush v p x k).m p = k := rput_same _ _ _
                rw [ea, em, rput_same]
                exact ⟨fun _ => rfl, fun h => (by omega), fun h => (by omega)⟩
              · have f := HF.out p hp
                have o1 : (kpush v q x k).a p = v.a p := rput_other e
                have o2 : (kpush v q x k).m p = v.m p := rput_other e
                have o3 : (kpush v q x k).sn p = v.sn p := rput_other e
                have o4 : (kpush v q x k).st p = v.st p := rput_other e
                have o5 : (kpush v q x k).sx p = v.sx p := rput_other e
                rw [o1, o2, o3, o4, o5, rput_other e]
                exact f
          · obtain rfl : k = 4 := by omega
            obtain rfl : K = 4 := by omega
            obtain rfl := HSS.out rfl
            obtain rfl := HE4.out rfl
            rw [show ((4 : Nat) : Int) = 4 from rfl]
            have hI : decide ((4 : Int) < 4) = false := by decide
            go_wp2_with fail
            refine bodyPost_ret (v := .tuple _) (results_cell2 rfl _ _ (b + 1) 54 _ (0, 0) _ rfl HS0.out.told.1 Tryd.underlying54 rfl (by kernel_rfl)) rfl (BegT.of ⟨_, _, _, _, _, _, _, _, _, _, _, _, _, _, _, rfl, ⟨HS0.out.told.2.2, HF.out⟩, HS0.out.told.2.1⟩)
    · have he : begE n v q x = 7 := by unfold begE; rw [if_neg (by omega), if_pos (by simpa using ha)]
      have hs : begS n v q x = v := by unfold begS; rw [he, if_neg (by decide)]
      rw [he, hs]
      have hI : ((v.a q : Int) != 0) = true := by simp; omega
      clear hp he ha hs
      go_enter Tryd.func19, Tryd.ntmps19
      go_upto_region 1 with fail
      rw [← HW0.out, HBW.out]
      obtain ⟨q0, q1, q2, q3, q4, q5, q6, q7, q8, q9, q10⟩ := HS0.out.q
      have fq0 := HS0.out.box.free 0
      have fq1 := HS0.out.box.free 1
      have fq2 := HS0.out.box.free 2
      have fq3 := HS0.out.box.free 3
      have fq4 := HS0.out.box.free 4
      have fq5 := HS0.out.box.free 5
      have fq6 := HS0.out.box.free 6
      have fq7 := HS0.out.box.free 7
      have fq8 := HS0.out.box.free 8
      have fq9 := HS0.out.box.free 9
      have fq10 := HS0.out.box.free 10
      obtain ⟨r0, r1, r2, r3, r4, r5, r6, r7, r8, r9, r10⟩ := HS0.out.r
      have fr0 := HS0.out.res.free 0
      have fr1 := HS0.out.res.free 1
      have fr2 := HS0.out.res.free 2
      have fr3 := HS0.out.res.free 3
      have fr4 := HS0.out.res.free 4
      have fr5 := HS0.out.res.free 5
      have fr6 := HS0.out.res.free 6
      have fr7 := HS0.out.res.free 7
      have fr8 := HS0.out.res.free 8
      have fr9 := HS0.out.res.free 9
      have fr10 := HS0.out.res.free 10
      go_wp2_with (go_at_call 26; (with_reducible refine (HI1.out _).mono ?_); rintro e w' ⟨rfl, rfl⟩)
      refine bodyPost_ret (v := .tuple _) (results_cell2 rfl _ _ (b + 1) 54 _ (0, 0) _ rfl HS0.out.told.1 Tryd.underlying54 rfl (by kernel_rfl)) rfl (BegT.of ⟨_, _, _, _, _, _, _, _, _, _, _, _, _, _, _, rfl, ⟨HS0.out.told.2.2, HF.out⟩, HS0.out.told.2.1⟩)
  · have HI1 := Lib.hid (inW_any p 0 ((n : Int) - 1) false (decide_eq_false (by omega)))
    have he : begE n v p x = 1 := by unfold begE; rw [if_pos hp]
    have hs : begS n v p x = v := by unfold begS; rw [he, if_neg (by decide)]
    rw [he, hs]
    clear hp he hs
    go_enter Tryd.func19, Tryd.ntmps19
    go_upto_region 1 with fail
    rw [← HW0.out, HBW.out]
    obtain ⟨q0, q1, q2, q3, q4, q5, q6, q7, q8, q9, q10⟩ := HS0.out.q
    have fq0 := HS0.out.box.free 0
    have fq1 := HS0.out.box.free 1
    have fq2 := HS0.out.box.free 2
    have fq3 := HS0.out.box.free 3
    have fq4 := HS0.out.box.free 4
    have fq5 := HS0.out.box.free 5
    have fq6 := HS0.out.box.free 6
    have fq7 := HS0.out.box.free 7
    have fq8 := HS0.out.box.free 8
    have fq9 := HS0.out.box.free 9
    have fq10 := HS0.out.box.free 10
    obtain ⟨r0, r1, r2, r3, r4, r5, r6, r7, r8, r9, r10⟩ := HS0.out.r
    have fr0 := HS0.out.res.free 0
    have fr1 := HS0.out.res.free 1
    have fr2 := HS0.out.res.free 2
    have fr3 := HS0.out.res.free 3
    have fr4 := HS0.out.res.free 4
    have fr5 := HS0.out.res.free 5
    have fr6 := HS0.out.res.free 6
    have fr7 := HS0.out.res.free 7
    have fr8 := HS0.out.res.free 8
    have fr9 := HS0.out.res.free 9
    have fr10 := HS0.out.res.free 10
    go_wp2_with (go_at_call 26; (with_reducible refine (HI1.out _).mono ?_); rintro e w' ⟨rfl, rfl⟩)
    refine bodyPost_ret (v := .tuple _) (results_cell2 rfl _ _ (b + 1) 54 _ (0, 0) _ rfl HS0.out.told.1 Tryd.underlying54 rfl (by kernel_rfl)) rfl (BegT.of ⟨_, _, _, _, _, _, _, _, _, _, _, _, _, _, _, rfl, ⟨HS0.out.told.2.2, HF.out⟩, HS0.out.told.2.1⟩)
end Go.Proofs.YtjcoihhmlblkbaaDoor.Stk
