/-
  The reference of package stack: StepStack, where Top is changed.
-/
import Derived.Test.YtjcoihhmlblkbaaDoorStkRef3
import Derived.Deep.RegionHeld3
namespace Go.Proofs.YtjcoihhmlblkbaaDoor.Stk
open Go.RowKit Rf

set_option maxHeartbeats 8000000 in
set_option maxRecDepth 100000 in
theorem s2t {F : Nat → Prop} {n : Nat} {tg : Bool} {v : KS} {v0 v1 v2 v3 v4 v5 v6 v7 v8 v9 v10 : Value} {fm fn ft fx : Nat → Int} (w : World) (h : RK F w n tg v v0 v1 v2 v3 v4 v5 v6 v7 v8 v9 v10 fm fn ft fx) (hF : ∀ b, F b → b < w.heap.size) (h1 : 1 ≤ n) (h4 : n ≤ 4) {q : Nat} (hq : q < n) (ha : v.a q = 2) (hs : v.tn = v.sn q ∧ v.tt ≠ v.st q) :
    Calls Tryd.prog 21 #[.agg #[v0, v1, v2, v3, v4, v5, v6, v7, v8, v9, v10], .int .i64 (q : Int)] w fun e w' => StpT F w w' n tg false (0) (0) (kclr v q 1 (v.m q)) e := by
  have e0 : v0 = .bool tg := h.rv.p0
  have e1 : v1 = .int .i64 v.tn := h.rv.p1
  have e2 : v2 = .int .i64 v.tt := h.rv.p2
  subst e0 e1 e2
  obtain ⟨A3, c3, rfl⟩ := SL.form h.rv.p3
  obtain ⟨A4, c4, rfl⟩ := SL.form h.rv.p4
  obtain ⟨A5, c5, rfl⟩ := SL.form h.rv.p5
  obtain ⟨A6, c6, rfl⟩ := SL.form h.rv.p6
  obtain ⟨A7, c7, rfl⟩ := SL.form h.rv.p7
  obtain ⟨A8, c8, rfl⟩ := SL.form h.rv.p8
  obtain ⟨A9, c9, rfl⟩ := SL.form h.rv.p9
  obtain ⟨A10, c10, rfl⟩ := SL.form h.rv.p10
  have hst := RS.start h.rv hF
  obtain ⟨b, hb⟩ : ∃ b, b = w.heap.size := ⟨_, rfl⟩
  obtain ⟨W0, hW0⟩ : ∃ W0, W0 = (w.alloc (.cells #[.bool tg, .int .i64 v.tn, .int .i64 v.tt, .slice A3 4 c3, .slice A4 4 c4, .slice A5 4 c5, .slice A6 n c6, .slice A7 n c7, .slice A8 n c8, .slice A9 n c9, .slice A10 n c10] 54)).alloc (.cells #[.bool false, .int .i64 0, .int .i64 0, .slice none 0 0, .slice none 0 0, .slice none 0 0, .slice none 0 0, .slice none 0 0, .slice none 0 0, .slice none 0 0, .slice none 0 0] 54) := ⟨_, rfl⟩
  rw [← hW0, ← hb] at hst
  have HS0 := Lib.hid hst
  have hwn : IntKind.i64.wrap ((n : Int) - 1) = (n : Int) - 1 := IntWalk.i64_in _ (by omega)
  have HW0 := Lib.hid hW0
  have HBW := Lib.hid hb.symm
  have HF := Lib.hid h.f
  have HRV := Lib.hid h.rv
  clear hst h hF hb hW0
  have HI1 := Lib.hid (inW_any q 0 ((n : Int) - 1) true (decide_eq_true (by omega)))
  have hqI : (q : Int) < n := by omega
  obtain ⟨bt, ot, rfl, _, _, hct⟩ := nm_at HS0.out.v.p6 hq
  rw [ha] at hct
  obtain ⟨f1, f2, f3⟩ := HF.out q hq
  obtain ⟨hn8, hn9⟩ := f2 (by omega)
  obtain ⟨b8, o8, rfl, _, _, h8⟩ := nm_at HS0.out.v.p8 hq
  obtain ⟨b9, o9, rfl, _, _, h9⟩ := nm_at HS0.out.v.p9 hq
  rw [hn8] at h8
  rw [hn9] at h9
  clear hn8 hn9 f2
  have hb1 : (v.tn != v.sn q) = false := by simp [hs.1]
  have hb2 : (v.tt != v.st q) = true := by simp [hs.2]
  clear hs
  have HF1 := Lib.hid (f1 (by omega))
  clear f1 f3
  go_enter Tryd.func21, Tryd.ntmps21
  go_upto_region 1 with fail
  rw [← HW0.out, HBW.out]
  obtain ⟨q0, q1, q2, q3, q4, q5, q6, q7, q8, q9, q10⟩ := HS0.out.q
  have fq0 := HS0.out.box.free 0
  have fq1 := HS0.out.box.free 1
  have fq2 := HS0.out.box.free 2
  have fq3 := HS0.out.box.free 3
  have fq4 := HS0.out.box.free 4
  have fq5 := HS0.out.box.free 5
  have fq6 := HS0.out.box.free 6
  have fq7 := HS0.out.box.free 7
  have fq8 := HS0.out.box.free 8
  have fq9 := HS0.out.box.free 9
  have fq10 := HS0.out.box.free 10
  obtain ⟨r0, r1, r2, r3, r4, r5, r6, r7, r8, r9, r10⟩ := HS0.out.r
  have fr0 := HS0.out.res.free 0
  have fr1 := HS0.out.res.free 1
  have fr2 := HS0.out.res.free 2
  have fr3 := HS0.out.res.free 3
  have fr4 := HS0.out.res.free 4
  have fr5 := HS0.out.res.free 5
  have fr6 := HS0.out.res.free 6
  have fr7 := HS0.out.res.free 7
  have fr8 := HS0.out.res.free 8
  have fr9 := HS0.out.res.free 9
  have fr10 := HS0.out.res.free 10
  go_upto_region 20 with (go_at_call 26; (with_reducible refine (HI1.out _).mono ?_); rintro e w' ⟨rfl, rfl⟩)
  go_quiet (fail)
  go_upto_region 21 with fail
  clear hct h8 h9 hb1 hb2
  clear q0 fq0 r0 fr0 q1 fq1 r1 fr1 q2 fq2 r2 fr2 q3 fq3 r3 fr3 q4 fq4 r4 fr4 q5 fq5 r5 fr5 q6 fq6 r6 fr6 q7 fq7 r7 fr7 q8 fq8 r8 fr8 q9 fq9 r9 fr9 q10 fq10 r10 fr10
  have hdWD := HS0.out.call (below_drewN (Below.refl W0.heap.size W0) nq)
  obtain ⟨WD, hWWD⟩ : ∃ X, X = W0.drewN nq := ⟨_, rfl⟩
  rw [← hWWD] at hdWD ⊢
  have HSD := Lib.hid hdWD
  clear hdWD hWWD
  obtain ⟨q0, q1, q2, q3, q4, q5, q6, q7, q8, q9, q10⟩ := HSD.out.q
  have fq0 := HSD.out.box.free 0
  have fq1 := HSD.out.box.free 1
  have fq2 := HSD.out.box.free 2
  have fq3 := HSD.out.box.free 3
  have fq4 := HSD.out.box.free 4
  have fq5 := HSD.out.box.free 5
  have fq6 := HSD.out.box.free 6
  have fq7 := HSD.out.box.free 7
  have fq8 := HSD.out.box.free 8
  have fq9 := HSD.out.box.free 9
  have fq10 := HSD.out.box.free 10
  obtain ⟨r0, r1, r2, r3, r4, r5, r6, r7, r8, r9, r10⟩ := HSD.out.r
  have fr0 := HSD.out.res.free 0
  have fr1 := HSD.out.res.free 1
  have fr2 := HSD.out.res.free 2
  have fr3 := HSD.out.res.free 3
  have fr4 := HSD.out.res.free 4
  have fr5 := HSD.out.res.free 5
  have fr6 := HSD.out.res.free 6
  have fr7 := HSD.out.res.free 7
  have fr8 := HSD.out.res.free 8
  have fr9 := HSD.out.res.free 9
  have fr10 := HSD.out.res.free 10
  go_upto_region 25 with (go_at_call 27; (with_reducible refine (set_nm 1 HSD.out.hF HSD.out.v.p6 hq (by omega)).mono ?_); rintro e w1 ⟨E1, e1, rfl, hn, hb⟩; have HN1 := Lib.hid hn; have HC1 := Lib.hid (HSD.out.call hb); have qd := HC1.out.q.2.2.2.2.2.2.1; have fd1 := HC1.out.box.free 6; clear hn hb)
  clear q0 fq0 r0 fr0 q1 fq1 r1 fr1 q2 fq2 r2 fr2 q3 fq3 r3 fr3 q4 fq4 r4 fr4 q5 fq5 r5 fr5 q6 fq6 r6 fr6 q7 fq7 r7 fr7 q8 fq8 r8 fr8 q9 fq9 r9 fr9 q10 fq10 r10 fr10
  clear qd fd1
  have hs1 := HC1.out.put6 (nm_stb _ _) HN1.out
  obtain ⟨V1, hV1⟩ : ∃ V, V = w1.setCell ⟨b, 6, none⟩ (.slice E1 n e1) := ⟨_, rfl⟩
  rw [← hV1] at hs1 ⊢
  have HS1 := Lib.hid hs1
  clear hs1 hV1 HC1 HN1
  obtain ⟨q0, q1, q2, q3, q4, q5, q6, q7, q8, q9, q10⟩ := HS1.out.q
  have fq0 := HS1.out.box.free 0
  have fq1 := HS1.out.box.free 1
  have fq2 := HS1.out.box.free 2
  have fq3 := HS1.out.box.free 3
  have fq4 := HS1.out.box.free 4
  have fq5 := HS1.out.box.free 5
  have fq6 := HS1.out.box.free 6
  have fq7 := HS1.out.box.free 7
  have fq8 := HS1.out.box.free 8
  have fq9 := HS1.out.box.free 9
  have fq10 := HS1.out.box.free 10
  obtain ⟨r0, r1, r2, r3, r4, r5, r6, r7, r8, r9, r10⟩ := HS1.out.r
  have fr0 := HS1.out.res.free 0
  have fr1 := HS1.out.res.free 1
  have fr2 := HS1.out.res.free 2
  have fr3 := HS1.out.res.free 3
  have fr4 := HS1.out.res.free 4
  have fr5 := HS1.out.res.free 5
  have fr6 := HS1.out.res.free 6
  have fr7 := HS1.out.res.free 7
  have fr8 := HS1.out.res.free 8
  have fr9 := HS1.out.res.free 9
  have fr10 := HS1.out.res.free 10
  go_wp2
  have hrv := HS1.out.told.2.2
  rw [rput_cast (y := 1) (z := 1) rfl] at hrv
  refine bodyPost_ret (v := .tuple _) (results_cell4 rfl _ _ (b + 1) 54 _ (0, 0) _ rfl HS1.out.told.1 Tryd.underlying54 rfl (by kernel_rfl)) rfl (StpT.of ⟨_, _, _, _, _, _, _, _, _, _, _, _, _, _, _, rfl, ⟨hrv, RK.other (q := q) HF.out (fun p e => clr_other v q 1 (v.m q) e) (fun p e => ⟨rfl, rfl, rfl, rfl⟩) ?_⟩, HS1.out.told.2.1⟩)
  have ea : (kclr v q 1 (v.m q)).a q = 1 := rput_same _ _ _
  have em : (kclr v q 1 (v.m q)).m q = (v.m q) := rput_same _ _ _
  rw [ea, em]
  exact ⟨fun h => (by exact HF1.out), fun h => (by omega), fun h => (by omega)⟩
set_option maxHeartbeats 8000000 in
set_option maxRecDepth 100000 in
theorem s2n {F : Nat → Prop} {n : Nat} {tg : Bool} {v : KS} {v0 v1 v2 v3 v4 v5 v6 v7 v8 v9 v10 : Value} {fm fn ft fx : Nat → Int} (w : World) (h : RK F w n tg v v0 v1 v2 v3 v4 v5 v6 v7 v8 v9 v10 fm fn ft fx) (hF : ∀ b, F b → b < w.heap.size) (h1 : 1 ≤ n) (h4 : n ≤ 4) {q : Nat} (hq : q < n) (ha : v.a q = 2) (hs : v.tn ≠ v.sn q) :
    Calls Tryd.prog 21 #[.agg #[v0, v1, v2, v3, v4, v5, v6, v7, v8, v9, v10], .int .i64 (q : Int)] w fun e w' => StpT F w w' n tg false (0) (0) (kclr v q 1 (v.m q)) e := by
  have e0 : v0 = .bool tg := h.rv.p0
  have e1 : v1 = .int .i64 v.tn := h.rv.p1
  have e2 : v2 = .int .i64 v.tt := h.rv.p2
  subst e0 e1 e2
  obtain ⟨A3, c3, rfl⟩ := SL.form h.rv.p3
  obtain ⟨A4, c4, rfl⟩ := SL.form h.rv.p4
  obtain ⟨A5, c5, rfl⟩ := SL.form h.rv.p5
  obtain ⟨A6, c6, rfl⟩ := SL.form h.rv.p6
  obtain ⟨A7, c7, rfl⟩ := SL.form h.rv.p7
  obtain ⟨A8, c8, rfl⟩ := SL.form h.rv.p8
  obtain ⟨A9, c9, rfl⟩ := SL.form h.rv.p9
  obtain ⟨A10, c10, rfl⟩ := SL.form h.rv.p10
  have hst := RS.start h.rv hF
  obtain ⟨b, hb⟩ : ∃ b, b = w.heap.size := ⟨_, rfl⟩
  obtain ⟨W0, hW0⟩ : ∃ W0, W0 = (w.alloc (.cells #[.bool tg, .int .i64 v.tn, .int .i64 v.tt, .slice A3 4 c3, .slice A4 4 c4, .slice A5 4 c5, .slice A6 n c6, .slice A7 n c7, .slice A8 n c8, .slice A9 n c9, .slice A10 n c10] 54)).alloc (.cells #[.bool false, .int .i64 0, .int .i64 0, .slice none 0 0, .slice none 0 0, .slice none 0 0, .slice none 0 0, .slice none 0 0, .slice none 0 0, .slice none 0 0, .slice none 0 0] 54) := ⟨_, rfl⟩
  rw [← hW0, ← hb] at hst
  have HS0 := Lib.hid hst
  have hwn : IntKind.i64.wrap ((n : Int) - 1) = (n : Int) - 1 := IntWalk.i64_in _ (by omega)
  have HW0 := Lib.hid hW0
  have HBW := Lib.hid hb.symm
  have HF := Lib.hid h.f
  have HRV := Lib.hid h.rv
  clear hst h hF hb hW0
  have HI1 := Lib.hid (inW_any q 0 ((n : Int) - 1) true (decide_eq_true (by omega)))
  have hqI : (q : Int) < n := by omega
  obtain ⟨bt, ot, rfl, _, _, hct⟩ := nm_at HS0.out.v.p6 hq
  rw [ha] at hct
  obtain ⟨f1, f2, f3⟩ := HF.out q hq
  obtain ⟨hn8, hn9⟩ := f2 (by omega)
  obtain ⟨b8, o8, rfl, _, _, h8⟩ := nm_at HS0.out.v.p8 hq
  obtain ⟨b9, o9, rfl, _, _, h9⟩ := nm_at HS0.out.v.p9 hq
  rw [hn8] at h8
  rw [hn9] at h9
  clear hn8 hn9 f2
  have hb1 : (v.tn != v.sn q) = true := by simp [hs]
  clear hs
  have HF1 := Lib.hid (f1 (by omega))
  clear f1 f3
  go_enter Tryd.func21, Tryd.ntmps21
  go_upto_region 1 with fail
  rw [← HW0.out, HBW.out]
  obtain ⟨q0, q1, q2, q3, q4, q5, q6, q7, q8, q9, q10⟩ := HS0.out.q
  have fq0 := HS0.out.box.free 0
  have fq1 := HS0.out.box.free 1
  have fq2 := HS0.out.box.free 2
  have fq3 := HS0.out.box.free 3
  have fq4 := HS0.out.box.free 4
  have fq5 := HS0.out.box.free 5
  have fq6 := HS0.out.box.free 6
  have fq7 := HS0.out.box.free 7
  have fq8 := HS0.out.box.free 8
  have fq9 := HS0.out.box.free 9
  have fq10 := HS0.out.box.free 10
  obtain ⟨r0, r1, r2, r3, r4, r5, r6, r7, r8, r9, r10⟩ := HS0.out.r
  have fr0 := HS0.out.res.free 0
  have fr1 := HS0.out.res.free 1
  have fr2 := HS0.out.res.free 2
  have fr3 := HS0.out.res.free 3
  have fr4 := HS0.out.res.free 4
  have fr5 := HS0.out.res.free 5
  have fr6 := HS0.out.res.free 6
  have fr7 := HS0.out.res.free 7
  have fr8 := HS0.out.res.free 8
  have fr9 := HS0.out.res.free 9
  have fr10 := HS0.out.res.free 10
  go_upto_region 20 with (go_at_call 26; (with_reducible refine (HI1.out _).mono ?_); rintro e w' ⟨rfl, rfl⟩)
  go_quiet (fail)
  go_upto_region 21 with fail
  clear hct h8 h9 hb1
  clear q0 fq0 r0 fr0 q1 fq1 r1 fr1 q2 fq2 r2 fr2 q3 fq3 r3 fr3 q4 fq4 r4 fr4 q5 fq5 r5 fr5 q6 fq6 r6 fr6 q7 fq7 r7 fr7 q8 fq8 r8 fr8 q9 fq9 r9 fr9 q10 fq10 r10 fr10
  have hdWD := HS0.out.call (below_drewN (Below.refl W0.heap.size W0) nq)
  obtain ⟨WD, hWWD⟩ : ∃ X, X = W0.drewN nq := ⟨_, rfl⟩
  rw [← hWWD] at hdWD ⊢
  have HSD := Lib.hid hdWD
  clear hdWD hWWD
  obtain ⟨q0, q1, q2, q3, q4, q5, q6, q7, q8, q9, q10⟩ := HSD.out.q
  have fq0 := HSD.out.box.free 0
  have fq1 := HSD.out.box.free 1
  have fq2 := HSD.out.box.free 2
  have fq3 := HSD.out.box.free 3
  have fq4 := HSD.out.box.free 4
  have fq5 := HSD.out.box.free 5
  have fq6 := HSD.out.box.free 6
  have fq7 := HSD.out.box.free 7
  have fq8 := HSD.out.box.free 8
  have fq9 := HSD.out.box.free 9
  have fq10 := HSD.out.box.free 10
  obtain ⟨r0, r1, r2, r3, r4, r5, r6, r7, r8, r9, r10⟩ := HSD.out.r
  have fr0 := HSD.out.res.free 0
  have fr1 := HSD.out.res.free 1
  have fr2 := HSD.out.res.free 2
  have fr3 := HSD.out.res.free 3
  have fr4 := HSD.out.res.free 4
  have fr5 := HSD.out.res.free 5
  have fr6 := HSD.out.res.free 6
  have fr7 := HSD.out.res.free 7
  have fr8 := HSD.out.res.free 8
  have fr9 := HSD.out.res.free 9
  have fr10 := HSD.out.res.free 10
  go_upto_region 25 with (go_at_call 27; (with_reducible refine (set_nm 1 HSD.out.hF HSD.out.v.p6 hq (by omega)).mono ?_); rintro e w1 ⟨E1, e1, rfl, hn, hb⟩; have HN1 := Lib.hid hn; have HC1 := Lib.hid (HSD.out.call hb); have qd := HC1.out.q.2.2.2.2.2.2.1; have fd1 := HC1.out.box.free 6; clear hn hb)
  clear q0 fq0 r0 fr0 q1 fq1 r1 fr1 q2 fq2 r2 fr2 q3 fq3 r3 fr3 q4 fq4 r4 fr4 q5 fq5 r5 fr5 q6 fq6 r6 fr6 q7 fq7 r7 fr7 q8 fq8 r8 fr8 q9 fq9 r9 fr9 q10 fq10 r10 fr10
  clear qd fd1
  have hs1 := HC1.out.put6 (nm_stb _ _) HN1.out
  obtain ⟨V1, hV1⟩ : ∃ V, V = w1.setCell ⟨b, 6, none⟩ (.slice E1 n e1) := ⟨_, rfl⟩
  rw [← hV1] at hs1 ⊢
  have HS1 := Lib.hid hs1
  clear hs1 hV1 HC1 HN1
  obtain ⟨q0, q1, q2, q3, q4, q5, q6, q7, q8, q9, q10⟩ := HS1.out.q
  have fq0 := HS1.out.box.free 0
  have fq1 := HS1.out.box.free 1
  have fq2 := HS1.out.box.free 2
  have fq3 := HS1.out.box.free 3
  have fq4 := HS1.out.box.free 4
  have fq5 := HS1.out.box.free 5
  have fq6 := HS1.out.box.free 6
  have fq7 := HS1.out.box.free 7
  have fq8 := HS1.out.box.free 8
  have fq9 := HS1.out.box.free 9
  have fq10 := HS1.out.box.free 10
  obtain ⟨r0, r1, r2, r3, r4, r5, r6, r7, r8, r9, r10⟩ := HS1.out.r
  have fr0 := HS1.out.res.free 0
  have fr1 := HS1.out.res.free 1
  have fr2 := HS1.out.res.free 2
  have fr3 := HS1.out.res.free 3
  have fr4 := HS1.out.res.free 4
  have fr5 := HS1.out.res.free 5
  have fr6 := HS1.out.res.free 6
  have fr7 := HS1.out.res.free 7
  have fr8 := HS1.out.res.free 8
  have fr9 := HS1.out.res.free 9
  have fr10 := HS1.out.res.free 10
  go_wp2
  have hrv := HS1.out.told.2.2
  rw [rput_cast (y := 1) (z := 1) rfl] at hrv
  refine bodyPost_ret (v := .tuple _) (results_cell4 rfl _ _ (b + 1) 54 _ (0, 0) _ rfl HS1.out.told.1 Tryd.underlying54 rfl (by kernel_rfl)) rfl (StpT.of ⟨_, _, _, _, _, _, _, _, _, _, _, _, _, _, _, rfl, ⟨hrv, RK.other (q := q) HF.out (fun p e => clr_other v q 1 (v.m q) e) (fun p e => ⟨rfl, rfl, rfl, rfl⟩) ?_⟩, HS1.out.told.2.1⟩)
  have ea : (kclr v q 1 (v.m q)).a q = 1 := rput_same _ _ _
  have em : (kclr v q 1 (v.m q)).m q = (v.m q) := rput_same _ _ _
  rw [ea, em]
  exact ⟨fun h => (by exact HF1.out), fun h => (by omega), fun h => (by omega)⟩
set_option maxHeartbeats 8000000 in
set_option maxRecDepth 100000 in
theorem s2yt {F : Nat → Prop} {n : Nat} {tg : Bool} {v : KS} {v0 v1 v2 v3 v4 v5 v6 v7 v8 v9 v10 : Value} {fm fn ft fx : Nat → Int} (w : World) (h : RK F w n tg v v0 v1 v2 v3 v4 v5 v6 v7 v8 v9 v10 fm fn ft fx) (hF : ∀ b, F b → b < w.heap.size) (h1 : 1 ≤ n) (h4 : n ≤ 4) {q : Nat} (hq : q < n) (ha : v.a q = 2) (hs : v.tn = v.sn q ∧ v.tt = v.st q) (htg : tg = true) (_hT : 0 ≤ v.tt ∧ v.tt ≤ 1000) :
    Calls Tryd.prog 21 #[.agg #[v0, v1, v2, v3, v4, v5, v6, v7, v8, v9, v10], .int .i64 (q : Int)] w fun e w' => StpT F w w' n tg true (-1) (0) (kclr (kchg true v (v.m q)) q 0 0) e := by
  have e0 : v0 = .bool tg := h.rv.p0
  have e1 : v1 = .int .i64 v.tn := h.rv.p1
  have e2 : v2 = .int .i64 v.tt := h.rv.p2
  subst e0 e1 e2
  obtain ⟨A3, c3, rfl⟩ := SL.form h.rv.p3
  obtain ⟨A4, c4, rfl⟩ := SL.form h.rv.p4
  obtain ⟨A5, c5, rfl⟩ := SL.form h.rv.p5
  obtain ⟨A6, c6, rfl⟩ := SL.form h.rv.p6
  obtain ⟨A7, c7, rfl⟩ := SL.form h.rv.p7
  obtain ⟨A8, c8, rfl⟩ := SL.form h.rv.p8
  obtain ⟨A9, c9, rfl⟩ := SL.form h.rv.p9
  obtain ⟨A10, c10, rfl⟩ := SL.form h.rv.p10
  have hst := RS.start h.rv hF
  obtain ⟨b, hb⟩ : ∃ b, b = w.heap.size := ⟨_, rfl⟩
  obtain ⟨W0, hW0⟩ : ∃ W0, W0 = (w.alloc (.cells #[.bool tg, .int .i64 v.tn, .int .i64 v.tt, .slice A3 4 c3, .slice A4 4 c4, .slice A5 4 c5, .slice A6 n c6, .slice A7 n c7, .slice A8 n c8, .slice A9 n c9, .slice A10 n c10] 54)).alloc (.cells #[.bool false, .int .i64 0, .int .i64 0, .slice none 0 0, .slice none 0 0, .slice none 0 0, .slice none 0 0, .slice none 0 0, .slice none 0 0, .slice none 0 0, .slice none 0 0] 54) := ⟨_, rfl⟩
  rw [← hW0, ← hb] at hst
  have HS0 := Lib.hid hst
  have hwn : IntKind.i64.wrap ((n : Int) - 1) = (n : Int) - 1 := IntWalk.i64_in _ (by omega)
  have HW0 := Lib.hid hW0
  have HBW := Lib.hid hb.symm
  have HF := Lib.hid h.f
  have HRV := Lib.hid h.rv
  clear hst h hF hb hW0
  have HI1 := Lib.hid (inW_any q 0 ((n : Int) - 1) true (decide_eq_true (by omega)))
  have hqI : (q : Int) < n := by omega
  obtain ⟨bt, ot, rfl, _, _, hct⟩ := nm_at HS0.out.v.p6 hq
  rw [ha] at hct
  obtain ⟨f1, f2, f3⟩ := HF.out q hq
  obtain ⟨hn8, hn9⟩ := f2 (by omega)
  obtain ⟨b8, o8, rfl, _, _, h8⟩ := nm_at HS0.out.v.p8 hq
  obtain ⟨b9, o9, rfl, _, _, h9⟩ := nm_at HS0.out.v.p9 hq
  rw [hn8] at h8
  rw [hn9] at h9
  clear hn8 hn9 f2
  have hb1 : (v.tn != v.sn q) = false := by simp [hs.1]
  have hb2 : (v.tt != v.st q) = false := by simp [hs.2]
  clear hs
  subst htg
  have hwt : IntKind.i64.wrap (v.tt + 1) = v.tt + 1 := IntWalk.i64_in _ (by omega)
  have HF1 := Lib.hid (f1 (by omega))
  clear f1 f3
  go_enter Tryd.func21, Tryd.ntmps21
  go_upto_region 1 with fail
  rw [← HW0.out, HBW.out]
  obtain ⟨q0, q1, q2, q3, q4, q5, q6, q7, q8, q9, q10⟩ := HS0.out.q
  have fq0 := HS0.out.box.free 0
  have fq1 := HS0.out.box.free 1
  have fq2 := HS0.out.box.free 2
  have fq3 := HS0.out.box.free 3
  have fq4 := HS0.out.box.free 4
  have fq5 := HS0.out.box.free 5
  have fq6 := HS0.out.box.free 6
  have fq7 := HS0.out.box.free 7
  have fq8 := HS0.out.box.free 8
  have fq9 := HS0.out.box.free 9
  have fq10 := HS0.out.box.free 10
  obtain ⟨r0, r1, r2, r3, r4, r5, r6, r7, r8, r9, r10⟩ := HS0.out.r
  have fr0 := HS0.out.res.free 0
  have fr1 := HS0.out.res.free 1
  have fr2 := HS0.out.res.free 2
  have fr3 := HS0.out.res.free 3
  have fr4 := HS0.out.res.free 4
  have fr5 := HS0.out.res.free 5
  have fr6 := HS0.out.res.free 6
  have fr7 := HS0.out.res.free 7
  have fr8 := HS0.out.res.free 8
  have fr9 := HS0.out.res.free 9
  have fr10 := HS0.out.res.free 10
  go_upto_region 20 with (go_at_call 26; (with_reducible refine (HI1.out _).mono ?_); rintro e w' ⟨rfl, rfl⟩)
  go_quiet (fail)
  go_upto_region 26 with fail
  clear hct h8 h9 hb1 hb2
  clear q0 fq0 r0 fr0 q1 fq1 r1 fr1 q2 fq2 r2 fr2 q3 fq3 r3 fr3 q4 fq4 r4 fr4 q5 fq5 r5 fr5 q6 fq6 r6 fr6 q7 fq7 r7 fr7 q8 fq8 r8 fr8 q9 fq9 r9 fr9 q10 fq10 r10 fr10
  have hdWD := HS0.out.call (below_drewN (Below.refl W0.heap.size W0) nq)
  obtain ⟨WD, hWWD⟩ : ∃ X, X = W0.drewN nq := ⟨_, rfl⟩
  rw [← hWWD] at hdWD ⊢
  have HSD := Lib.hid hdWD
  clear hdWD hWWD
  obtain ⟨q0, q1, q2, q3, q4, q5, q6, q7, q8, q9, q10⟩ := HSD.out.q
  have fq0 := HSD.out.box.free 0
  have fq1 := HSD.out.box.free 1
  have fq2 := HSD.out.box.free 2
  have fq3 := HSD.out.box.free 3
  have fq4 := HSD.out.box.free 4
  have fq5 := HSD.out.box.free 5
  have fq6 := HSD.out.box.free 6
  have fq7 := HSD.out.box.free 7
  have fq8 := HSD.out.box.free 8
  have fq9 := HSD.out.box.free 9
  have fq10 := HSD.out.box.free 10
  obtain ⟨r0, r1, r2, r3, r4, r5, r6, r7, r8, r9, r10⟩ := HSD.out.r
  have fr0 := HSD.out.res.free 0
  have fr1 := HSD.out.res.free 1
  have fr2 := HSD.out.res.free 2
  have fr3 := HSD.out.res.free 3
  have fr4 := HSD.out.res.free 4
  have fr5 := HSD.out.res.free 5
  have fr6 := HSD.out.res.free 6
  have fr7 := HSD.out.res.free 7
  have fr8 := HSD.out.res.free 8
  have fr9 := HSD.out.res.free 9
  have fr10 := HSD.out.res.free 10
  go_upto_region 28 with fail
  clear q0 fq0 r0 fr0 q1 fq1 r1 fr1 q2 fq2 r2 fr2 q3 fq3 r3 fr3 q4 fq4 r4 fr4 q5 fq5 r5 fr5 q6 fq6 r6 fr6 q7 fq7 r7 fr7 q8 fq8 r8 fr8 q9 fq9 r9 fr9 q10 fq10 r10 fr10
  have hpVT := HSD.out.put2 (isInt_stb _) (u := .int .i64 (v.tt + 1)) (Q := isInt (v.tt + 1)) rfl
  obtain ⟨VT, hVVT⟩ : ∃ V, V = WD.setCell ⟨b, 2, none⟩ (.int .i64 (v.tt + 1)) := ⟨_, rfl⟩
  rw [← hVVT] at hpVT ⊢
  have HST := Lib.hid hpVT
  clear hpVT hVVT
  obtain ⟨q0, q1, q2, q3, q4, q5, q6, q7, q8, q9, q10⟩ := HST.out.q
  have fq0 := HST.out.box.free 0
  have fq1 := HST.out.box.free 1
  have fq2 := HST.out.box.free 2
  have fq3 := HST.out.box.free 3
  have fq4 := HST.out.box.free 4
  have fq5 := HST.out.box.free 5
  have fq6 := HST.out.box.free 6
  have fq7 := HST.out.box.free 7
  have fq8 := HST.out.box.free 8
  have fq9 := HST.out.box.free 9
  have fq10 := HST.out.box.free 10
  obtain ⟨r0, r1, r2, r3, r4, r5, r6, r7, r8, r9, r10⟩ := HST.out.r
  have fr0 := HST.out.res.free 0
  have fr1 := HST.out.res.free 1
  have fr2 := HST.out.res.free 2
  have fr3 := HST.out.res.free 3
  have fr4 := HST.out.res.free 4
  have fr5 := HST.out.res.free 5
  have fr6 := HST.out.res.free 6
  have fr7 := HST.out.res.free 7
  have fr8 := HST.out.res.free 8
  have fr9 := HST.out.res.free 9
  have fr10 := HST.out.res.free 10
  go_upto_region 29 with (go_at_call 27; (with_reducible refine (set_nm 0 HST.out.hF HST.out.v.p6 hq (by omega)).mono ?_); rintro e w1 ⟨E1, e1, rfl, hn, hb⟩; have HN1 := Lib.hid hn; have HC1 := Lib.hid (HST.out.call hb); have qd := HC1.out.q.2.2.2.2.2.2.1; have fd1 := HC1.out.box.free 6; clear hn hb)
  clear q0 fq0 r0 fr0 q1 fq1 r1 fr1 q2 fq2 r2 fr2 q3 fq3 r3 fr3 q4 fq4 r4 fr4 q5 fq5 r5 fr5 q6 fq6 r6 fr6 q7 fq7 r7 fr7 q8 fq8 r8 fr8 q9 fq9 r9 fr9 q10 fq10 r10 fr10
  clear qd fd1
  have hs1 := HC1.out.put6 (nm_stb _ _) HN1.out
  obtain ⟨V1, hV1⟩ : ∃ V, V = w1.setCell ⟨b, 6, none⟩ (.slice E1 n e1) := ⟨_, rfl⟩
  rw [← hV1] at hs1 ⊢
  have HS1 := Lib.hid hs1
  clear hs1 hV1 HC1 HN1
  obtain ⟨q0, q1, q2, q3, q4, q5, q6, q7, q8, q9, q10⟩ := HS1.out.q
  have fq0 := HS1.out.box.free 0
  have fq1 := HS1.out.box.free 1
  have fq2 := HS1.out.box.free 2
  have fq3 := HS1.out.box.free 3
  have fq4 := HS1.out.box.free 4
  have fq5 := HS1.out.box.free 5
  have fq6 := HS1.out.box.free 6
  have fq7 := HS1.out.box.free 7
  have fq8 := HS1.out.box.free 8
  have fq9 := HS1.out.box.free 9
  have fq10 := HS1.out.box.free 10
  obtain ⟨r0, r1, r2, r3, r4, r5, r6, r7, r8, r9, r10⟩ := HS1.out.r
  have fr0 := HS1.out.res.free 0
  have fr1 := HS1.out.res.free 1
  have fr2 := HS1.out.res.free 2
  have fr3 := HS1.out.res.free 3
  have fr4 := HS1.out.res.free 4
  have fr5 := HS1.out.res.free 5
  have fr6 := HS1.out.res.free 6
  have fr7 := HS1.out.res.free 7
  have fr8 := HS1.out.res.free 8
  have fr9 := HS1.out.res.free 9
  have fr10 := HS1.out.res.free 10
  obtain ⟨b7, o7, rfl, _, _, h7⟩ := nm_at HS1.out.v.p7 hq
  rw [HF1.out] at h7
  go_upto_region 31 with fail
  clear q0 fq0 r0 fr0 q1 fq1 r1 fr1 q2 fq2 r2 fr2 q3 fq3 r3 fr3 q4 fq4 r4 fr4 q5 fq5 r5 fr5 q6 fq6 r6 fr6 q7 fq7 r7 fr7 q8 fq8 r8 fr8 q9 fq9 r9 fr9 q10 fq10 r10 fr10
  have hpV2 := HS1.out.put1 (isInt_stb _) (u := .int .i64 ((v.m q : Nat) : Int)) (Q := isInt ((v.m q : Nat) : Int)) rfl
  obtain ⟨V2, hVV2⟩ : ∃ V, V = V1.setCell ⟨b, 1, none⟩ (.int .i64 ((v.m q : Nat) : Int)) := ⟨_, rfl⟩
  rw [← hVV2] at hpV2 ⊢
  have HS2 := Lib.hid hpV2
  clear hpV2 hVV2
  obtain ⟨q0, q1, q2, q3, q4, q5, q6, q7, q8, q9, q10⟩ := HS2.out.q
  have fq0 := HS2.out.box.free 0
  have fq1 := HS2.out.box.free 1
  have fq2 := HS2.out.box.free 2
  have fq3 := HS2.out.box.free 3
  have fq4 := HS2.out.box.free 4
  have fq5 := HS2.out.box.free 5
  have fq6 := HS2.out.box.free 6
  have fq7 := HS2.out.box.free 7
  have fq8 := HS2.out.box.free 8
  have fq9 := HS2.out.box.free 9
  have fq10 := HS2.out.box.free 10
  obtain ⟨r0, r1, r2, r3, r4, r5, r6, r7, r8, r9, r10⟩ := HS2.out.r
  have fr0 := HS2.out.res.free 0
  have fr1 := HS2.out.res.free 1
  have fr2 := HS2.out.res.free 2
  have fr3 := HS2.out.res.free 3
  have fr4 := HS2.out.res.free 4
  have fr5 := HS2.out.res.free 5
  have fr6 := HS2.out.res.free 6
  have fr7 := HS2.out.res.free 7
  have fr8 := HS2.out.res.free 8
  have fr9 := HS2.out.res.free 9
  have fr10 := HS2.out.res.free 10
  go_wp2
  have hrv := HS2.out.told.2.2
  rw [rput_cast (y := 0) (z := 0) rfl] at hrv
  refine bodyPost_ret (v := .tuple _) (results_cell4 rfl _ _ (b + 1) 54 _ (0, 0) _ rfl HS2.out.told.1 Tryd.underlying54 rfl (by kernel_rfl)) rfl (StpT.of ⟨_, _, _, _, _, _, _, _, _, _, _, _, _, _, _, rfl, ⟨hrv, RK.other (q := q) HF.out (fun p e => clr_other (kchg true v (v.m q)) q 0 0 e) (fun p e => ⟨rfl, rfl, rfl, rfl⟩) ?_⟩, HS2.out.told.2.1⟩)
  have ea : (kclr (kchg true v (v.m q)) q 0 0).a q = 0 := rput_same _ _ _
  rw [ea]
  exact ⟨fun h => (by omega), fun h => (by omega), fun h => (by omega)⟩
set_option maxHeartbeats 8000000 in
set_option maxRecDepth 100000 in
theorem s2yf {F : Nat → Prop} {n : Nat} {tg : Bool} {v : KS} {v0 v1 v2 v3 v4 v5 v6 v7 v8 v9 v10 : Value} {fm fn ft fx : Nat → Int} (w : World) (h : RK F w n tg v v0 v1 v2 v3 v4 v5 v6 v7 v8 v9 v10 fm fn ft fx) (hF : ∀ b, F b → b < w.heap.size) (h1 : 1 ≤ n) (h4 : n ≤ 4) {q : Nat} (hq : q < n) (ha : v.a q = 2) (hs : v.tn = v.sn q ∧ v.tt = v.st q) (htg : tg = false) (_hT : 0 ≤ v.tt ∧ v.tt ≤ 1000) :
    Calls Tryd.prog 21 #[.agg #[v0, v1, v2, v3, v4, v5, v6, v7, v8, v9, v10], .int .i64 (q : Int)] w fun e w' => StpT F w w' n tg true (-1) (0) (kclr (kchg false v (v.m q)) q 0 0) e := by
  have e0 : v0 = .bool tg := h.rv.p0
  have e1 : v1 = .int .i64 v.tn := h.rv.p1
  have e2 : v2 = .int .i64 v.tt := h.rv.p2
  subst e0 e1 e2
  obtain ⟨A3, c3, rfl⟩ := SL.form h.rv.p3
  obtain ⟨A4, c4, rfl⟩ := SL.form h.rv.p4
  obtain ⟨A5, c5, rfl⟩ := SL.form h.rv.p5
  obtain ⟨A6, c6, rfl⟩ := SL.form h.rv.p6
  obtain ⟨A7, c7, rfl⟩ := SL.form h.rv.p7
  obtain ⟨A8, c8, rfl⟩ := SL.form h.rv.p8
  obtain ⟨A9, c9, rfl⟩ := SL.form h.rv.p9
  obtain ⟨A10, c10, rfl⟩ := SL.form h.rv.p10
  have hst := RS.start h.rv hF
  obtain ⟨b, hb⟩ : ∃ b, b = w.heap.size := ⟨_, rfl⟩
  obtain ⟨W0, hW0⟩ : ∃ W0, W0 = (w.alloc (.cells #[.bool tg, .int .i64 v.tn, .int .i64 v.tt, .slice A3 4 c3, .slice A4 4 c4, .slice A5 4 c5, .slice A6 n c6, .slice A7 n c7, .slice A8 n c8, .slice A9 n c9, .slice A10 n c10] 54)).alloc (.cells #[.bool false, .int .i64 0, .int .i64 0, .slice none 0 0, .slice none 0 0, .slice none 0 0, .slice none 0 0, .slice none 0 0, .slice none 0 0, .slice none 0 0, .slice none 0 0] 54) := ⟨_, rfl⟩
  rw [← hW0, ← hb] at hst
  have HS0 := Lib.hid hst
  have hwn : IntKind.i64.wrap ((n : Int) - 1) = (n : Int) - 1 := IntWalk.i64_in _ (by omega)
  have HW0 := Lib.hid hW0
  have HBW := Lib.hid hb.symm
  have HF := Lib.hid h.f
  have HRV := Lib.hid h.rv
  clear hst h hF hb hW0
  have HI1 := Lib.hid (inW_any q 0 ((n : Int) - 1) true (decide_eq_true (by omega)))
  have hqI : (q : Int) < n := by omega
  obtain ⟨bt, ot, rfl, _, _, hct⟩ := nm_at HS0.out.v.p6 hq
  rw [ha] at hct
  obtain ⟨f1, f2, f3⟩ := HF.out q hq
  obtain ⟨hn8, hn9⟩ := f2 (by omega)
  obtain ⟨b8, o8, rfl, _, _, h8⟩ := nm_at HS0.out.v.p8 hq
  obtain ⟨b9, o9, rfl, _, _, h9⟩ := nm_at HS0.out.v.p9 hq
  rw [hn8] at h8
  rw [hn9] at h9
  clear hn8 hn9 f2
  have hb1 : (v.tn != v.sn q) = false := by simp [hs.1]
  have hb2 : (v.tt != v.st q) = false := by simp [hs.2]
  clear hs
  subst htg
  have HF1 := Lib.hid (f1 (by omega))
  clear f1 f3
  go_enter Tryd.func21, Tryd.ntmps21
  go_upto_region 1 with fail
  rw [← HW0.out, HBW.out]
  obtain ⟨q0, q1, q2, q3, q4, q5, q6, q7, q8, q9, q10⟩ := HS0.out.q
  have fq0 := HS0.out.box.free 0
  have fq1 := HS0.out.box.free 1
  have fq2 := HS0.out.box.free 2
  have fq3 := HS0.out.box.free 3
  have fq4 := HS0.out.box.free 4
  have fq5 := HS0.out.box.free 5
  have fq6 := HS0.out.box.free 6
  have fq7 := HS0.out.box.free 7
  have fq8 := HS0.out.box.free 8
  have fq9 := HS0.out.box.free 9
  have fq10 := HS0.out.box.free 10
  obtain ⟨r0, r1, r2, r3, r4, r5, r6, r7, r8, r9, r10⟩ := HS0.out.r
  have fr0 := HS0.out.res.free 0
  have fr1 := HS0.out.res.free 1
  have fr2 := HS0.out.res.free 2
  have fr3 := HS0.out.res.free 3
  have fr4 := HS0.out.res.free 4
  have fr5 := HS0.out.res.free 5
  have fr6 := HS0.out.res.free 6
  have fr7 := HS0.out.res.free 7
  have fr8 := HS0.out.res.free 8
  have fr9 := HS0.out.res.free 9
  have fr10 := HS0.out.res.free 10
  go_upto_region 20 with (go_at_call 26; (with_reducible refine (HI1.out _).mono ?_); rintro e w' ⟨rfl, rfl⟩)
  go_quiet (fail)
  go_upto_region 26 with fail
  clear hct h8 h9 hb1 hb2
  clear q0 fq0 r0 fr0 q1 fq1 r1 fr1 q2 fq2 r2 fr2 q3 fq3 r3 fr3 q4 fq4 r4 fr4 q5 fq5 r5 fr5 q6 fq6 r6 fr6 q7 fq7 r7 fr7 q8 fq8 r8 fr8 q9 fq9 r9 fr9 q10 fq10 r10 fr10
  have hdWD := HS0.out.call (below_drewN (Below.refl W0.heap.size W0) nq)
  obtain ⟨WD, hWWD⟩ : ∃ X, X = W0.drewN nq := ⟨_, rfl⟩
  rw [← hWWD] at hdWD ⊢
  have HSD := Lib.hid hdWD
  clear hdWD hWWD
  obtain ⟨q0, q1, q2, q3, q4, q5, q6, q7, q8, q9, q10⟩ := HSD.out.q
  have fq0 := HSD.out.box.free 0
  have fq1 := HSD.out.box.free 1
  have fq2 := HSD.out.box.free 2
  have fq3 := HSD.out.box.free 3
  have fq4 := HSD.out.box.free 4
  have fq5 := HSD.out.box.free 5
  have fq6 := HSD.out.box.free 6
  have fq7 := HSD.out.box.free 7
  have fq8 := HSD.out.box.free 8
  have fq9 := HSD.out.box.free 9
  have fq10 := HSD.out.box.free 10
  obtain ⟨r0, r1, r2, r3, r4, r5, r6, r7, r8, r9, r10⟩ := HSD.out.r
  have fr0 := HSD.out.res.free 0
  have fr1 := HSD.out.res.free 1
  have fr2 := HSD.out.res.free 2
  have fr3 := HSD.out.res.free 3
  have fr4 := HSD.out.res.free 4
  have fr5 := HSD.out.res.free 5
  have fr6 := HSD.out.res.free 6
  have fr7 := HSD.out.res.free 7
  have fr8 := HSD.out.res.free 8
  have fr9 := HSD.out.res.free 9
  have fr10 := HSD.out.res.free 10
  go_upto_region 29 with (go_at_call 27; (with_reducible refine (set_nm 0 HSD.out.hF HSD.out.v.p6 hq (by omega)).mono ?_); rintro e w1 ⟨E1, e1, rfl, hn, hb⟩; have HN1 := Lib.hid hn; have HC1 := Lib.hid (HSD.out.call hb); have qd := HC1.out.q.2.2.2.2.2.2.1; have fd1 := HC1.out.box.free 6; clear hn hb)
  clear q0 fq0 r0 fr0 q1 fq1 r1 fr1 q2 fq2 r2 fr2 q3 fq3 r3 fr3 q4 fq4 r4 fr4 q5 fq5 r5 fr5 q6 fq6 r6 fr6 q7 fq7 r7 fr7 q8 fq8 r8 fr8 q9 fq9 r9 fr9 q10 fq10 r10 fr10
  clear qd fd1
  have hs1 := HC1.out.put6 (nm_stb _ _) HN1.out
  obtain ⟨V1, hV1⟩ : ∃ V, V = w1.setCell ⟨b, 6, none⟩ (.slice E1 n e1) := ⟨_, rfl⟩
  rw [← hV1] at hs1 ⊢
  have HS1 := Lib.hid hs1
  clear hs1 hV1 HC1 HN1
  obtain ⟨q0, q1, q2, q3, q4, q5, q6, q7, q8, q9, q10⟩ := HS1.out.q
  have fq0 := HS1.out.box.free 0
  have fq1 := HS1.out.box.free 1
  have fq2 := HS1.out.box.free 2
  have fq3 := HS1.out.box.free 3
  have fq4 := HS1.out.box.free 4
  have fq5 := HS1.out.box.free 5
  have fq6 := HS1.out.box.free 6
  have fq7 := HS1.out.box.free 7
  have fq8 := HS1.out.box.free 8
  have fq9 := HS1.out.box.free 9
  have fq10 := HS1.out.box.free 10
  obtain ⟨r0, r1, r2, r3, r4, r5, r6, r7, r8, r9, r10⟩ := HS1.out.r
  have fr0 := HS1.out.res.free 0
  have fr1 := HS1.out.res.free 1
  have fr2 := HS1.out.res.free 2
  have fr3 := HS1.out.res.free 3
  have fr4 := HS1.out.res.free 4
  have fr5 := HS1.out.res.free 5
  have fr6 := HS1.out.res.free 6
  have fr7 := HS1.out.res.free 7
  have fr8 := HS1.out.res.free 8
  have fr9 := HS1.out.res.free 9
  have fr10 := HS1.out.res.free 10
  obtain ⟨b7, o7, rfl, _, _, h7⟩ := nm_at HS1.out.v.p7 hq
  rw [HF1.out] at h7
  go_upto_region 31 with fail
  clear q0 fq0 r0 fr0 q1 fq1 r1 fr1 q2 fq2 r2 fr2 q3 fq3 r3 fr3 q4 fq4 r4 fr4 q5 fq5 r5 fr5 q6 fq6 r6 fr6 q7 fq7 r7 fr7 q8 fq8 r8 fr8 q9 fq9 r9 fr9 q10 fq10 r10 fr10
  have hpV2 := HS1.out.put1 (isInt_stb _) (u := .int .i64 ((v.m q : Nat) : Int)) (Q := isInt ((v.m q : Nat) : Int)) rfl
  obtain ⟨V2, hVV2⟩ : ∃ V, V = V1.setCell ⟨b, 1, none⟩ (.int .i64 ((v.m q : Nat) : Int)) := ⟨_, rfl⟩
  rw [← hVV2] at hpV2 ⊢
  have HS2 := Lib.hid hpV2
  clear hpV2 hVV2
  obtain ⟨q0, q1, q2, q3, q4, q5, q6, q7, q8, q9, q10⟩ := HS2.out.q
  have fq0 := HS2.out.box.free 0
  have fq1 := HS2.out.box.free 1
  have fq2 := HS2.out.box.free 2
  have fq3 := HS2.out.box.free 3
  have fq4 := HS2.out.box.free 4
  have fq5 := HS2.out.box.free 5
  have fq6 := HS2.out.box.free 6
  have fq7 := HS2.out.box.free 7
  have fq8 := HS2.out.box.free 8
  have fq9 := HS2.out.box.free 9
  have fq10 := HS2.out.box.free 10
  obtain ⟨r0, r1, r2, r3, r4, r5, r6, r7, r8, r9, r10⟩ := HS2.out.r
  have fr0 := HS2.out.res.free 0
  have fr1 := HS2.out.res.free 1
  have fr2 := HS2.out.res.free 2
  have fr3 := HS2.out.res.free 3
  have fr4 := HS2.out.res.free 4
  have fr5 := HS2.out.res.free 5
  have fr6 := HS2.out.res.free 6
  have fr7 := HS2.out.res.free 7
  have fr8 := HS2.out.res.free 8
  have fr9 := HS2.out.res.free 9
  have fr10 := HS2.out.res.free 10
  go_wp2
  have hrv := HS2.out.told.2.2
  rw [rput_cast (y := 0) (z := 0) rfl] at hrv
  refine bodyPost_ret (v := .tuple _) (results_cell4 rfl _ _ (b + 1) 54 _ (0, 0) _ rfl HS2.out.told.1 Tryd.underlying54 rfl (by kernel_rfl)) rfl (StpT.of ⟨_, _, _, _, _, _, _, _, _, _, _, _, _, _, _, rfl, ⟨hrv, RK.other (q := q) HF.out (fun p e => clr_other (kchg false v (v.m q)) q 0 0 e) (fun p e => ⟨rfl, rfl, rfl, rfl⟩) ?_⟩, HS2.out.told.2.1⟩)
  have ea : (kclr (kchg false v (v.m q)) q 0 0).a q = 0 := rput_same _ _ _
  rw [ea]
  exact ⟨fun h => (by omega), fun h => (by omega), fun h => (by omega)⟩
set_option maxHeartbeats 8000000 in
set_option maxRecDepth 100000 in
theorem s5t {F : Nat → Prop} {n : Nat} {tg : Bool} {v : KS} {v0 v1 v2 v3 v4 v5 v6 v7 v8 v9 v10 : Value} {fm fn ft fx : Nat → Int} (w : World) (h : RK F w n tg v v0 v1 v2 v3 v4 v5 v6 v7 v8 v9 v10 fm fn ft fx) (hF : ∀ b, F b → b < w.heap.size) (h1 : 1 ≤ n) (h4 : n ≤ 4) {q : Nat} (hq : q < n) (ha : v.a q = 5) (hs : v.tn = v.sn q ∧ v.tt ≠ v.st q) :
    Calls Tryd.prog 21 #[.agg #[v0, v1, v2, v3, v4, v5, v6, v7, v8, v9, v10], .int .i64 (q : Int)] w fun e w' => StpT F w w' n tg false (0) (0) (kclr v q 3 0) e := by
  have e0 : v0 = .bool tg := h.rv.p0
  have e1 : v1 = .int .i64 v.tn := h.rv.p1
  have e2 : v2 = .int .i64 v.tt := h.rv.p2
  subst e0 e1 e2
  obtain ⟨A3, c3, rfl⟩ := SL.form h.rv.p3
  obtain ⟨A4, c4, rfl⟩ := SL.form h.rv.p4
  obtain ⟨A5, c5, rfl⟩ := SL.form h.rv.p5
  obtain ⟨A6, c6, rfl⟩ := SL.form h.rv.p6
  obtain ⟨A7, c7, rfl⟩ := SL.form h.rv.p7
  obtain ⟨A8, c8, rfl⟩ := SL.form h.rv.p8
  obtain ⟨A9, c9, rfl⟩ := SL.form h.rv.p9
  obtain ⟨A10, c10, rfl⟩ := SL.form h.rv.p10
  have hst := RS.start h.rv hF
  obtain ⟨b, hb⟩ : ∃ b, b = w.heap.size := ⟨_, rfl⟩
  obtain ⟨W0, hW0⟩ : ∃ W0, W0 = (w.alloc (.cells #[.bool tg, .int .i64 v.tn, .int .i64 v.tt, .slice A3 4 c3, .slice A4 4 c4, .slice A5 4 c5, .slice A6 n c6, .slice A7 n c7, .slice A8 n c8, .slice A9 n c9, .slice A10 n c10] 54)).alloc (.cells #[.bool false, .int .i64 0, .int .i64 0, .slice none 0 0, .slice none 0 0, .slice none 0 0, .slice none 0 0, .slice none 0 0, .slice none 0 0, .slice none 0 0, .slice none 0 0] 54) := ⟨_, rfl⟩
  rw [← hW0, ← hb] at hst
  have HS0 := Lib.hid hst
  have hwn : IntKind.i64.wrap ((n : Int) - 1) = (n : Int) - 1 := IntWalk.i64_in _ (by omega)
  have HW0 := Lib.hid hW0
  have HBW := Lib.hid hb.symm
  have HF := Lib.hid h.f
  have HRV := Lib.hid h.rv
  clear hst h hF hb hW0
  have HI1 := Lib.hid (inW_any q 0 ((n : Int) - 1) true (decide_eq_true (by omega)))
  have hqI : (q : Int) < n := by omega
  obtain ⟨bt, ot, rfl, _, _, hct⟩ := nm_at HS0.out.v.p6 hq
  rw [ha] at hct
  obtain ⟨f1, f2, f3⟩ := HF.out q hq
  obtain ⟨hn8, hn9⟩ := f2 (by omega)
  obtain ⟨b8, o8, rfl, _, _, h8⟩ := nm_at HS0.out.v.p8 hq
  obtain ⟨b9, o9, rfl, _, _, h9⟩ := nm_at HS0.out.v.p9 hq
  rw [hn8] at h8
  rw [hn9] at h9
  clear hn8 hn9 f2
  have hb1 : (v.tn != v.sn q) = false := by simp [hs.1]
  have hb2 : (v.tt != v.st q) = true := by simp [hs.2]
  clear hs
  clear f1 f3
  go_enter Tryd.func21, Tryd.ntmps21
  go_upto_region 1 with fail
  rw [← HW0.out, HBW.out]
  obtain ⟨q0, q1, q2, q3, q4, q5, q6, q7, q8, q9, q10⟩ := HS0.out.q
  have fq0 := HS0.out.box.free 0
  have fq1 := HS0.out.box.free 1
  have fq2 := HS0.out.box.free 2
  have fq3 := HS0.out.box.free 3
  have fq4 := HS0.out.box.free 4
  have fq5 := HS0.out.box.free 5
  have fq6 := HS0.out.box.free 6
  have fq7 := HS0.out.box.free 7
  have fq8 := HS0.out.box.free 8
  have fq9 := HS0.out.box.free 9
  have fq10 := HS0.out.box.free 10
  obtain ⟨r0, r1, r2, r3, r4, r5, r6, r7, r8, r9, r10⟩ := HS0.out.r
  have fr0 := HS0.out.res.free 0
  have fr1 := HS0.out.res.free 1
  have fr2 := HS0.out.res.free 2
  have fr3 := HS0.out.res.free 3
  have fr4 := HS0.out.res.free 4
  have fr5 := HS0.out.res.free 5
  have fr6 := HS0.out.res.free 6
  have fr7 := HS0.out.res.free 7
  have fr8 := HS0.out.res.free 8
  have fr9 := HS0.out.res.free 9
  have fr10 := HS0.out.res.free 10
  go_upto_region 20 with (go_at_call 26; (with_reducible refine (HI1.out _).mono ?_); rintro e w' ⟨rfl, rfl⟩)
  go_quiet (fail)
  go_upto_region 21 with fail
  clear hct h8 h9 hb1 hb2
  clear q0 fq0 r0 fr0 q1 fq1 r1 fr1 q2 fq2 r2 fr2 q3 fq3 r3 fr3 q4 fq4 r4 fr4 q5 fq5 r5 fr5 q6 fq6 r6 fr6 q7 fq7 r7 fr7 q8 fq8 r8 fr8 q9 fq9 r9 fr9 q10 fq10 r10 fr10
  have hdWD := HS0.out.call (below_drewN (Below.refl W0.heap.size W0) nq)
  obtain ⟨WD, hWWD⟩ : ∃ X, X = W0.drewN nq := ⟨_, rfl⟩
  rw [← hWWD] at hdWD ⊢
  have HSD := Lib.hid hdWD
  clear hdWD hWWD
  obtain ⟨q0, q1, q2, q3, q4, q5, q6, q7, q8, q9, q10⟩ := HSD.out.q
  have fq0 := HSD.out.box.free 0
  have fq1 := HSD.out.box.free 1
  have fq2 := HSD.out.box.free 2
  have fq3 := HSD.out.box.free 3
  have fq4 := HSD.out.box.free 4
  have fq5 := HSD.out.box.free 5
  have fq6 := HSD.out.box.free 6
  have fq7 := HSD.out.box.free 7
  have fq8 := HSD.out.box.free 8
  have fq9 := HSD.out.box.free 9
  have fq10 := HSD.out.box.free 10
  obtain ⟨r0, r1, r2, r3, r4, r5, r6, r7, r8, r9, r10⟩ := HSD.out.r
  have fr0 := HSD.out.res.free 0
  have fr1 := HSD.out.res.free 1
  have fr2 := HSD.out.res.free 2
  have fr3 := HSD.out.res.free 3
  have fr4 := HSD.out.res.free 4
  have fr5 := HSD.out.res.free 5
  have fr6 := HSD.out.res.free 6
  have fr7 := HSD.out.res.free 7
  have fr8 := HSD.out.res.free 8
  have fr9 := HSD.out.res.free 9
  have fr10 := HSD.out.res.free 10
  go_upto_region 25 with (go_at_call 27; (with_reducible refine (set_nm 3 HSD.out.hF HSD.out.v.p6 hq (by omega)).mono ?_); rintro e w1 ⟨E1, e1, rfl, hn, hb⟩; have HN1 := Lib.hid hn; have HC1 := Lib.hid (HSD.out.call hb); have qd := HC1.out.q.2.2.2.2.2.2.1; have fd1 := HC1.out.box.free 6; clear hn hb)
  clear q0 fq0 r0 fr0 q1 fq1 r1 fr1 q2 fq2 r2 fr2 q3 fq3 r3 fr3 q4 fq4 r4 fr4 q5 fq5 r5 fr5 q6 fq6 r6 fr6 q7 fq7 r7 fr7 q8 fq8 r8 fr8 q9 fq9 r9 fr9 q10 fq10 r10 fr10
  clear qd fd1
  have hs1 := HC1.out.put6 (nm_stb _ _) HN1.out
  obtain ⟨V1, hV1⟩ : ∃ V, V = w1.setCell ⟨b, 6, none⟩ (.slice E1 n e1) := ⟨_, rfl⟩
  rw [← hV1] at hs1 ⊢
  have HS1 := Lib.hid hs1
  clear hs1 hV1 HC1 HN1
  obtain ⟨q0, q1, q2, q3, q4, q5, q6, q7, q8, q9, q10⟩ := HS1.out.q
  have fq0 := HS1.out.box.free 0
  have fq1 := HS1.out.box.free 1
  have fq2 := HS1.out.box.free 2
  have fq3 := HS1.out.box.free 3
  have fq4 := HS1.out.box.free 4
  have fq5 := HS1.out.box.free 5
  have fq6 := HS1.out.box.free 6
  have fq7 := HS1.out.box.free 7
  have fq8 := HS1.out.box.free 8
  have fq9 := HS1.out.box.free 9
  have fq10 := HS1.out.box.free 10
  obtain ⟨r0, r1, r2, r3, r4, r5, r6, r7, r8, r9, r10⟩ := HS1.out.r
  have fr0 := HS1.out.res.free 0
  have fr1 := HS1.out.res.free 1
  have fr2 := HS1.out.res.free 2
  have fr3 := HS1.out.res.free 3
  have fr4 := HS1.out.res.free 4
  have fr5 := HS1.out.res.free 5
  have fr6 := HS1.out.res.free 6
  have fr7 := HS1.out.res.free 7
  have fr8 := HS1.out.res.free 8
  have fr9 := HS1.out.res.free 9
  have fr10 := HS1.out.res.free 10
  go_wp2
  have hrv := HS1.out.told.2.2
  rw [rput_cast (y := 3) (z := 3) rfl] at hrv
  refine bodyPost_ret (v := .tuple _) (results_cell4 rfl _ _ (b + 1) 54 _ (0, 0) _ rfl HS1.out.told.1 Tryd.underlying54 rfl (by kernel_rfl)) rfl (StpT.of ⟨_, _, _, _, _, _, _, _, _, _, _, _, _, _, _, rfl, ⟨hrv, RK.other (q := q) HF.out (fun p e => clr_other v q 3 0 e) (fun p e => ⟨rfl, rfl, rfl, rfl⟩) ?_⟩, HS1.out.told.2.1⟩)
  have ea : (kclr v q 3 0).a q = 3 := rput_same _ _ _
  have em : (kclr v q 3 0).m q = 0 := rput_same _ _ _
  rw [ea, em]
  exact ⟨fun h => (by omega), fun h => (by omega), fun h => (by omega)⟩
set_option maxHeartbeats 8000000 in
set_option maxRecDepth 100000 in
theorem s5n {F : Nat → Prop} {n : Nat} {tg : Bool} {v : KS} {v0 v1 v2 v3 v4 v5 v6 v7 v8 v9 v10 : Value} {fm fn ft fx : Nat → Int} (w : World) (h : RK F w n tg v v0 v1 v2 v3 v4 v5 v6 v7 v8 v9 v10 fm fn ft fx) (hF : ∀ b, F b → b < w.heap.size) (h1 : 1 ≤ n) (h4 : n ≤ 4) {q : Nat} (hq : q < n) (ha : v.a q = 5) (hs : v.tn ≠ v.sn q) :
    Calls Tryd.prog 21 #[.agg #[v0, v1, v2, v3, v4, v5, v6, v7, v8, v9, v10], .int .i64 (q : Int)] w fun e w' => StpT F w w' n tg false (0) (0) (kclr v q 3 0) e := by
  have e0 : v0 = .bool tg := h.rv.p0
  have e1 : v1 = .int .i64 v.tn := h.rv.p1
  have e2 : v2 = .int .i64 v.tt := h.rv.p2
  subst e0 e1 e2
  obtain ⟨A3, c3, rfl⟩ := SL.form h.rv.p3
  obtain ⟨A4, c4, rfl⟩ := SL.form h.rv.p4
  obtain ⟨A5, c5, rfl⟩ := SL.form h.rv.p5
  obtain ⟨A6, c6, rfl⟩ := SL.form h.rv.p6
  obtain ⟨A7, c7, rfl⟩ := SL.form h.rv.p7
  obtain ⟨A8, c8, rfl⟩ := SL.form h.rv.p8
  obtain ⟨A9, c9, rfl⟩ := SL.form h.rv.p9
  obtain ⟨A10, c10, rfl⟩ := SL.form h.rv.p10
  have hst := RS.start h.rv hF
  obtain ⟨b, hb⟩ : ∃ b, b = w.heap.size := ⟨_, rfl⟩
  obtain ⟨W0, hW0⟩ : ∃ W0, W0 = (w.alloc (.cells #[.bool tg, .int .i64 v.tn, .int .i64 v.tt, .slice A3 4 c3, .slice A4 4 c4, .slice A5 4 c5, .slice A6 n c6, .slice A7 n c7, .slice A8 n c8, .slice A9 n c9, .slice A10 n c10] 54)).alloc (.cells #[.bool false, .int .i64 0, .int .i64 0, .slice none 0 0, .slice none 0 0, .slice none 0 0, .slice none 0 0, .slice none 0 0, .slice none 0 0, .slice none 0 0, .slice none 0 0] 54) := ⟨_, rfl⟩
  rw [← hW0, ← hb] at hst
  have HS0 := Lib.hid hst
  have hwn : IntKind.i64.wrap ((n : Int) - 1) = (n : Int) - 1 := IntWalk.i64_in _ (by omega)
  have HW0 := Lib.hid hW0
  have HBW := Lib.hid hb.symm
  have HF := Lib.hid h.f
  have HRV := Lib.hid h.rv
  clear hst h hF hb hW0
  have HI1 := Lib.hid (inW_any q 0 ((n : Int) - 1) true (decide_eq_true (by omega)))
  have hqI : (q : Int) < n := by omega
  obtain ⟨bt, ot, rfl, _, _, hct⟩ := nm_at HS0.out.v.p6 hq
  rw [ha] at hct
  obtain ⟨f1, f2, f3⟩ := HF.out q hq
  obtain ⟨hn8, hn9⟩ := f2 (by omega)
  obtain ⟨b8, o8, rfl, _, _, h8⟩ := nm_at HS0.out.v.p8 hq
  obtain ⟨b9, o9, rfl, _, _, h9⟩ := nm_at HS0.out.v.p9 hq
  rw [hn8] at h8
  rw [hn9] at h9
  clear hn8 hn9 f2
  have hb1 : (v.tn != v.sn q) = true := by simp [hs]
  clear hs
  clear f1 f3
  go_enter Tryd.func21, Tryd.ntmps21
  go_upto_region 1 with fail
  rw [← HW0.out, HBW.out]
  obtain ⟨q0, q1, q2, q3, q4, q5, q6, q7, q8, q9, q10⟩ := HS0.out.q
  have fq0 := HS0.out.box.free 0
  have fq1 := HS0.out.box.free 1
  have fq2 := HS0.out.box.free 2
  have fq3 := HS0.out.box.free 3
  have fq4 := HS0.out.box.free 4
  have fq5 := HS0.out.box.free 5
  have fq6 := HS0.out.box.free 6
  have fq7 := HS0.out.box.free 7
  have fq8 := HS0.out.box.free 8
  have fq9 := HS0.out.box.free 9
  have fq10 := HS0.out.box.free 10
  obtain ⟨r0, r1, r2, r3, r4, r5, r6, r7, r8, r9, r10⟩ := HS0.out.r
  have fr0 := HS0.out.res.free 0
  have fr1 := HS0.out.res.free 1
  have fr2 := HS0.out.res.free 2
  have fr3 := HS0.out.res.free 3
  have fr4 := HS0.out.res.free 4
  have fr5 := HS0.out.res.free 5
  have fr6 := HS0.out.res.free 6
  have fr7 := HS0.out.res.free 7
  have fr8 := HS0.out.res.free 8
  have fr9 := HS0.out.res.free 9
  have fr10 := HS0.out.res.free 10
  go_upto_region 20 with (go_at_call 26; (with_reducible refine (HI1.out _).mono ?_); rintro e w' ⟨rfl, rfl⟩)
  go_quiet (fail)
  go_upto_region 21 with fail
  clear hct h8 h9 hb1
  clear q0 fq0 r0 fr0 q1 fq1 r1 fr1 q2 fq2 r2 fr2 q3 fq3 r3 fr3 q4 fq4 r4 fr4 q5 fq5 r5 fr5 q6 fq6 r6 fr6 q7 fq7 r7 fr7 q8 fq8 r8 fr8 q9 fq9 r9 fr9 q10 fq10 r10 fr10
  have hdWD := HS0.out.call (below_drewN (Below.refl W0.heap.size W0) nq)
  obtain ⟨WD, hWWD⟩ : ∃ X, X = W0.drewN nq := ⟨_, rfl⟩
  rw [← hWWD] at hdWD ⊢
  have HSD := Lib.hid hdWD
  clear hdWD hWWD
  obtain ⟨q0, q1, q2, q3, q4, q5, q6, q7, q8, q9, q10⟩ := HSD.out.q
  have fq0 := HSD.out.box.free 0
  have fq1 := HSD.out.box.free 1
  have fq2 := HSD.out.box.free 2
  have fq3 := HSD.out.box.free 3
  have fq4 := HSD.out.box.free 4
  have fq5 := HSD.out.box.free 5
  have fq6 := HSD.out.box.free 6
  have fq7 := HSD.out.box.free 7
  have fq8 := HSD.out.box.free 8
  have fq9 := HSD.out.box.free 9
  have fq10 := HSD.out.box.free 10
  obtain ⟨r0, r1, r2, r3, r4, r5, r6, r7, r8, r9, r10⟩ := HSD.out.r
  have fr0 := HSD.out.res.free 0
  have fr1 := HSD.out.res.free 1
  have fr2 := HSD.out.res.free 2
  have fr3 := HSD.out.res.free 3
  have fr4 := HSD.out.res.free 4
  have fr5 := HSD.out.res.free 5
  have fr6 := HSD.out.res.free 6
  have fr7 := HSD.out.res.free 7
  have fr8 := HSD.out.res.free 8
  have fr9 := HSD.out.res.free 9
  have fr10 := HSD.out.res.free 10
  go_upto_region 25 with (go_at_call 27; (with_reducible refine (set_nm 3 HSD.out.hF HSD.out.v.p6 hq (by omega)).mono ?_); rintro e w1 ⟨E1, e1, rfl, hn, hb⟩; have HN1 := Lib.hid hn; have HC1 := Lib.hid (HSD.out.call hb); have qd := HC1.out.q.2.2.2.2.2.2.1; have fd1 := HC1.out.box.free 6; clear hn hb)
  clear q0 fq0 r0 fr0 q1 fq1 r1 fr1 q2 fq2 r2 fr2 q3 fq3 r3 fr3 q4 fq4 r4 fr4 q5 fq5 r5 fr5 q6 fq6 r6 fr6 q7 fq7 r7 fr7 q8 fq8 r8 fr8 q9 fq9 r9 fr9 q10 fq10 r10 fr10
  clear qd fd1
  have hs1 := HC1.out.put6 (nm_stb _ _) HN1.out
  obtain ⟨V1, hV1⟩ : ∃ V, V = w1.setCell ⟨b, 6, none⟩ (.slice E1 n e1) := ⟨_, rfl⟩
  rw [← hV1] at hs1 ⊢
  have HS1 := Lib.hid hs1
  clear hs1 hV1 HC1 HN1
  obtain ⟨q0, q1, q2, q3, q4, q5, q6, q7, q8, q9, q10⟩ := HS1.out.q
  have fq0 := HS1.out.box.free 0
  have fq1 := HS1.out.box.free 1
  have fq2 := HS1.out.box.free 2
  have fq3 := HS1.out.box.free 3
  have fq4 := HS1.out.box.free 4
  have fq5 := HS1.out.box.free 5
  have fq6 := HS1.out.box.free 6
  have fq7 := HS1.out.box.free 7
  have fq8 := HS1.out.box.free 8
  have fq9 := HS1.out.box.free 9
  have fq10 := HS1.out.box.free 10
  obtain ⟨r0, r1, r2, r3, r4, r5, r6, r7, r8, r9, r10⟩ := HS1.out.r
  have fr0 := HS1.out.res.free 0
  have fr1 := HS1.out.res.free 1
  have fr2 := HS1.out.res.free 2
  have fr3 := HS1.out.res.free 3
  have fr4 := HS1.out.res.free 4
  have fr5 := HS1.out.res.free 5
  have fr6 := HS1.out.res.free 6
  have fr7 := HS1.out.res.free 7
  have fr8 := HS1.out.res.free 8
  have fr9 := HS1.out.res.free 9
  have fr10 := HS1.out.res.free 10
  go_wp2
  have hrv := HS1.out.told.2.2
  rw [rput_cast (y := 3) (z := 3) rfl] at hrv
  refine bodyPost_ret (v := .tuple _) (results_cell4 rfl _ _ (b + 1) 54 _ (0, 0) _ rfl HS1.out.told.1 Tryd.underlying54 rfl (by kernel_rfl)) rfl (StpT.of ⟨_, _, _, _, _, _, _, _, _, _, _, _, _, _, _, rfl, ⟨hrv, RK.other (q := q) HF.out (fun p e => clr_other v q 3 0 e) (fun p e => ⟨rfl, rfl, rfl, rfl⟩) ?_⟩, HS1.out.told.2.1⟩)
  have ea : (kclr v q 3 0).a q = 3 := rput_same _ _ _
  have em : (kclr v q 3 0).m q = 0 := rput_same _ _ _
  rw [ea, em]
  exact ⟨fun h => (by omega), fun h => (by omega), fun h => (by omega)⟩
set_option maxHeartbeats 8000000 in
set_option maxRecDepth 100000 in
theorem s5yt {F : Nat → Prop} {n : Nat} {tg : Bool} {v : KS} {v0 v1 v2 v3 v4 v5 v6 v7 v8 v9 v10 : Value} {fm fn ft fx : Nat → Int} (w : World) (h : RK F w n tg v v0 v1 v2 v3 v4 v5 v6 v7 v8 v9 v10 fm fn ft fx) (hF : ∀ b, F b → b < w.heap.size) (h1 : 1 ≤ n) (h4 : n ≤ 4) {q : Nat} (hq : q < n) (ha : v.a q = 5) (hs : v.tn = v.sn q ∧ v.tt = v.st q) (htg : tg = true) (_hT : 0 ≤ v.tt ∧ v.tt ≤ 1000) {k : Nat} (hk : v.sn q = k) (hk4 : k < 4) :
    Calls Tryd.prog 21 #[.agg #[v0, v1, v2, v3, v4, v5, v6, v7, v8, v9, v10], .int .i64 (q : Int)] w fun e w' => StpT F w w' n tg true (v.x k) (0) (kclr { kchg true v (v.sx q) with u := rput v.u k false } q 0 0) e := by
  have e0 : v0 = .bool tg := h.rv.p0
  have e1 : v1 = .int .i64 v.tn := h.rv.p1
  have e2 : v2 = .int .i64 v.tt := h.rv.p2
  subst e0 e1 e2
  obtain ⟨A3, c3, rfl⟩ := SL.form h.rv.p3
  obtain ⟨A4, c4, rfl⟩ := SL.form h.rv.p4
  obtain ⟨A5, c5, rfl⟩ := SL.form h.rv.p5
  obtain ⟨A6, c6, rfl⟩ := SL.form h.rv.p6
  obtain ⟨A7, c7, rfl⟩ := SL.form h.rv.p7
  obtain ⟨A8, c8, rfl⟩ := SL.form h.rv.p8
  obtain ⟨A9, c9, rfl⟩ := SL.form h.rv.p9
  obtain ⟨A10, c10, rfl⟩ := SL.form h.rv.p10
  have hst := RS.start h.rv hF
  obtain ⟨b, hb⟩ : ∃ b, b = w.heap.size := ⟨_, rfl⟩
  obtain ⟨W0, hW0⟩ : ∃ W0, W0 = (w.alloc (.cells #[.bool tg, .int .i64 v.tn, .int .i64 v.tt, .slice A3 4 c3, .slice A4 4 c4, .slice A5 4 c5, .slice A6 n c6, .slice A7 n c7, .slice A8 n c8, .slice A9 n c9, .slice A10 n c10] 54)).alloc (.cells #[.bool false, .int .i64 0, .int .i64 0, .slice none 0 0, .slice none 0 0, .slice none 0 0, .slice none 0 0, .slice none 0 0, .slice none 0 0, .slice none 0 0, .slice none 0 0] 54) := ⟨_, rfl⟩
  rw [← hW0, ← hb] at hst
  have HS0 := Lib.hid hst
  have hwn : IntKind.i64.wrap ((n : Int) - 1) = (n : Int) - 1 := IntWalk.i64_in _ (by omega)
  have HW0 := Lib.hid hW0
  have HBW := Lib.hid hb.symm
  have HF := Lib.hid h.f
  have HRV := Lib.hid h.rv
  clear hst h hF hb hW0
  have HI1 := Lib.hid (inW_any q 0 ((n : Int) - 1) true (decide_eq_true (by omega)))
  have hqI : (q : Int) < n := by omega
  obtain ⟨bt, ot, rfl, _, _, hct⟩ := nm_at HS0.out.v.p6 hq
  rw [ha] at hct
  obtain ⟨f1, f2, f3⟩ := HF.out q hq
  obtain ⟨hn8, hn9⟩ := f2 (by omega)
  obtain ⟨b8, o8, rfl, _, _, h8⟩ := nm_at HS0.out.v.p8 hq
  obtain ⟨b9, o9, rfl, _, _, h9⟩ := nm_at HS0.out.v.p9 hq
  rw [hn8] at h8
  rw [hn9] at h9
  clear hn8 hn9 f2
  have hb1 : (v.tn != v.sn q) = false := by simp [hs.1]
  have hb2 : (v.tt != v.st q) = false := by simp [hs.2]
  clear hs
  subst htg
  have hwt : IntKind.i64.wrap (v.tt + 1) = v.tt + 1 := IntWalk.i64_in _ (by omega)
  have HF3 := Lib.hid (f3 (by omega))
  have HSK := Lib.hid hk
  have hkI : (k : Int) < 4 := by omega
  clear f1 f3 hk
  go_enter Tryd.func21, Tryd.ntmps21
  go_upto_region 1 with fail
  rw [← HW0.out, HBW.out]
  obtain ⟨q0, q1, q2, q3, q4, q5, q6, q7, q8, q9, q10⟩ := HS0.out.q
  have fq0 := HS0.out.box.free 0
  have fq1 := HS0.out.box.free 1
  have fq2 := HS0.out.box.free 2
  have fq3 := HS0.out.box.free 3
  have fq4 := HS0.out.box.free 4
  have fq5 := HS0.out.box.free 5
  have fq6 := HS0.out.box.free 6
  have fq7 := HS0.out.box.free 7
  have fq8 := HS0.out.box.free 8
  have fq9 := HS0.out.box.free 9
  have fq10 := HS0.out.box.free 10
  obtain ⟨r0, r1, r2, r3, r4, r5, r6, r7, r8, r9, r10⟩ := HS0.out.r
  have fr0 := HS0.out.res.free 0
  have fr1 := HS0.out.res.free 1
  have fr2 := HS0.out.res.free 2
  have fr3 := HS0.out.res.free 3
  have fr4 := HS0.out.res.free 4
  have fr5 := HS0.out.res.free 5
  have fr6 := HS0.out.res.free 6
  have fr7 := HS0.out.res.free 7
  have fr8 := HS0.out.res.free 8
  have fr9 := HS0.out.res.free 9
  have fr10 := HS0.out.res.free 10
  go_upto_region 20 with (go_at_call 26; (with_reducible refine (HI1.out _).mono ?_); rintro e w' ⟨rfl, rfl⟩)
  go_quiet (fail)
  go_upto_region 26 with fail
  clear hct h8 h9 hb1 hb2
  clear q0 fq0 r0 fr0 q1 fq1 r1 fr1 q2 fq2 r2 fr2 q3 fq3 r3 fr3 q4 fq4 r4 fr4 q5 fq5 r5 fr5 q6 fq6 r6 fr6 q7 fq7 r7 fr7 q8 fq8 r8 fr8 q9 fq9 r9 fr9 q10 fq10 r10 fr10
  have hdWD := HS0.out.call (below_drewN (Below.refl W0.heap.size W0) nq)
  obtain ⟨WD, hWWD⟩ : ∃ X, X = W0.drewN nq := ⟨_, rfl⟩
  rw [← hWWD] at hdWD ⊢
  have HSD := Lib.hid hdWD
  clear hdWD hWWD
  obtain ⟨q0, q1, q2, q3, q4, q5, q6, q7, q8, q9, q10⟩ := HSD.out.q
  have fq0 := HSD.out.box.free 0
  have fq1 := HSD.out.box.free 1
  have fq2 := HSD.out.box.free 2
  have fq3 := HSD.out.box.free 3
  have fq4 := HSD.out.box.free 4
  have fq5 := HSD.out.box.free 5
  have fq6 := HSD.out.box.free 6
  have fq7 := HSD.out.box.free 7
  have fq8 := HSD.out.box.free 8
  have fq9 := HSD.out.box.free 9
  have fq10 := HSD.out.box.free 10
  obtain ⟨r0, r1, r2, r3, r4, r5, r6, r7, r8, r9, r10⟩ := HSD.out.r
  have fr0 := HSD.out.res.free 0
  have fr1 := HSD.out.res.free 1
  have fr2 := HSD.out.res.free 2
  have fr3 := HSD.out.res.free 3
  have fr4 := HSD.out.res.free 4
  have fr5 := HSD.out.res.free 5
  have fr6 := HSD.out.res.free 6
  have fr7 := HSD.out.res.free 7
  have fr8 := HSD.out.res.free 8
  have fr9 := HSD.out.res.free 9
  have fr10 := HSD.out.res.free 10
  go_upto_region 28 with fail
  clear q0 fq0 r0 fr0 q1 fq1 r1 fr1 q2 fq2 r2 fr2 q3 fq3 r3 fr3 q4 fq4 r4 fr4 q5 fq5 r5 fr5 q6 fq6 r6 fr6 q7 fq7 r7 fr7 q8 fq8 r8 fr8 q9 fq9 r9 fr9 q10 fq10 r10 fr10
  have hpVT := HSD.out.put2 (isInt_stb _) (u := .int .i64 (v.tt + 1)) (Q := isInt (v.tt + 1)) rfl
  obtain ⟨VT, hVVT⟩ : ∃ V, V = WD.setCell ⟨b, 2, none⟩ (.int .i64 (v.tt + 1)) := ⟨_, rfl⟩
  rw [← hVVT] at hpVT ⊢
  have HST := Lib.hid hpVT
  clear hpVT hVVT
  obtain ⟨q0, q1, q2, q3, q4, q5, q6, q7, q8, q9, q10⟩ := HST.out.q
  have fq0 := HST.out.box.free 0
  have fq1 := HST.out.box.free 1
  have fq2 := HST.out.box.free 2
  have fq3 := HST.out.box.free 3
  have fq4 := HST.out.box.free 4
  have fq5 := HST.out.box.free 5
  have fq6 := HST.out.box.free 6
  have fq7 := HST.out.box.free 7
  have fq8 := HST.out.box.free 8
  have fq9 := HST.out.box.free 9
  have fq10 := HST.out.box.free 10
  obtain ⟨r0, r1, r2, r3, r4, r5, r6, r7, r8, r9, r10⟩ := HST.out.r
  have fr0 := HST.out.res.free 0
  have fr1 := HST.out.res.free 1
  have fr2 := HST.out.res.free 2
  have fr3 := HST.out.res.free 3
  have fr4 := HST.out.res.free 4
  have fr5 := HST.out.res.free 5
  have fr6 := HST.out.res.free 6
  have fr7 := HST.out.res.free 7
  have fr8 := HST.out.res.free 8
  have fr9 := HST.out.res.free 9
  have fr10 := HST.out.res.free 10
  go_upto_region 29 with (go_at_call 27; (with_reducible refine (set_nm 0 HST.out.hF HST.out.v.p6 hq (by omega)).mono ?_); rintro e w1 ⟨E1, e1, rfl, hn, hb⟩; have HN1 := Lib.hid hn; have HC1 := Lib.hid (HST.out.call hb); have qd := HC1.out.q.2.2.2.2.2.2.1; have fd1 := HC1.out.box.free 6; clear hn hb)
  clear q0 fq0 r0 fr0 q1 fq1 r1 fr1 q2 fq2 r2 fr2 q3 fq3 r3 fr3 q4 fq4 r4 fr4 q5 fq5 r5 fr5 q6 fq6 r6 fr6 q7 fq7 r7 fr7 q8 fq8 r8 fr8 q9 fq9 r9 fr9 q10 fq10 r10 fr10
  clear qd fd1
  have hs1 := HC1.out.put6 (nm_stb _ _) HN1.out
  obtain ⟨V1, hV1⟩ : ∃ V, V = w1.setCell ⟨b, 6, none⟩ (.slice E1 n e1) := ⟨_, rfl⟩
  rw [← hV1] at hs1 ⊢
  have HS1 := Lib.hid hs1
  clear hs1 hV1 HC1 HN1
  obtain ⟨q0, q1, q2, q3, q4, q5, q6, q7, q8, q9, q10⟩ := HS1.out.q
  have fq0 := HS1.out.box.free 0
  have fq1 := HS1.out.box.free 1
  have fq2 := HS1.out.box.free 2
  have fq3 := HS1.out.box.free 3
  have fq4 := HS1.out.box.free 4
  have fq5 := HS1.out.box.free 5
  have fq6 := HS1.out.box.free 6
  have fq7 := HS1.out.box.free 7
  have fq8 := HS1.out.box.free 8
  have fq9 := HS1.out.box.free 9
  have fq10 := HS1.out.box.free 10
  obtain ⟨r0, r1, r2, r3, r4, r5, r6, r7, r8, r9, r10⟩ := HS1.out.r
  have fr0 := HS1.out.res.free 0
  have fr1 := HS1.out.res.free 1
  have fr2 := HS1.out.res.free 2
  have fr3 := HS1.out.res.free 3
  have fr4 := HS1.out.res.free 4
  have fr5 := HS1.out.res.free 5
  have fr6 := HS1.out.res.free 6
  have fr7 := HS1.out.res.free 7
  have fr8 := HS1.out.res.free 8
  have fr9 := HS1.out.res.free 9
  have fr10 := HS1.out.res.free 10
  obtain ⟨b10, o10, rfl, _, _, h10⟩ := nm_at HS1.out.v.p10 hq
  rw [HF3.out] at h10
  go_upto_region 33 with fail
  clear q0 fq0 r0 fr0 q1 fq1 r1 fr1 q2 fq2 r2 fr2 q3 fq3 r3 fr3 q4 fq4 r4 fr4 q5 fq5 r5 fr5 q6 fq6 r6 fr6 q7 fq7 r7 fr7 q8 fq8 r8 fr8 q9 fq9 r9 fr9 q10 fq10 r10 fr10
  have hpV2 := HS1.out.put1 (isInt_stb _) (u := .int .i64 (v.sx q)) (Q := isInt (v.sx q)) rfl
  obtain ⟨V2, hVV2⟩ : ∃ V, V = V1.setCell ⟨b, 1, none⟩ (.int .i64 (v.sx q)) := ⟨_, rfl⟩
  rw [← hVV2] at hpV2 ⊢
  have HS2 := Lib.hid hpV2
  clear hpV2 hVV2
  obtain ⟨q0, q1, q2, q3, q4, q5, q6, q7, q8, q9, q10⟩ := HS2.out.q
  have fq0 := HS2.out.box.free 0
  have fq1 := HS2.out.box.free 1
  have fq2 := HS2.out.box.free 2
  have fq3 := HS2.out.box.free 3
  have fq4 := HS2.out.box.free 4
  have fq5 := HS2.out.box.free 5
  have fq6 := HS2.out.box.free 6
  have fq7 := HS2.out.box.free 7
  have fq8 := HS2.out.box.free 8
  have fq9 := HS2.out.box.free 9
  have fq10 := HS2.out.box.free 10
  obtain ⟨r0, r1, r2, r3, r4, r5, r6, r7, r8, r9, r10⟩ := HS2.out.r
  have fr0 := HS2.out.res.free 0
  have fr1 := HS2.out.res.free 1
  have fr2 := HS2.out.res.free 2
  have fr3 := HS2.out.res.free 3
  have fr4 := HS2.out.res.free 4
  have fr5 := HS2.out.res.free 5
  have fr6 := HS2.out.res.free 6
  have fr7 := HS2.out.res.free 7
  have fr8 := HS2.out.res.free 8
  have fr9 := HS2.out.res.free 9
  have fr10 := HS2.out.res.free 10
  obtain ⟨b8, o8, e8, _, _, h8⟩ := nm_at HS2.out.v.p8 hq
  injection e8 with e8
  injection e8 with e8 e9 _
  subst e8 e9
  rw [((HF.out q hq).2.1 (by omega)).1, HSK.out] at h8
  go_upto_region 33 with fail
  go_still_tail 7, (by kernel_rfl)
  clear h8
  clear q0 fq0 r0 fr0 q1 fq1 r1 fr1 q2 fq2 r2 fr2 q3 fq3 r3 fr3 q4 fq4 r4 fr4 q5 fq5 r5 fr5 q6 fq6 r6 fr6 q7 fq7 r7 fr7 q8 fq8 r8 fr8 q9 fq9 r9 fr9 q10 fq10 r10 fr10
  have hdWE := HS2.out.call (Below.refl V2.heap.size V2).drew
  change wpList _ _ _ _ _ V2.drew
  obtain ⟨WE, hWWE⟩ : ∃ X, X = V2.drew := ⟨_, rfl⟩
  rw [← hWWE] at hdWE ⊢
  have HSE := Lib.hid hdWE
  clear hdWE hWWE
  obtain ⟨q0, q1, q2, q3, q4, q5, q6, q7, q8, q9, q10⟩ := HSE.out.q
  have fq0 := HSE.out.box.free 0
  have fq1 := HSE.out.box.free 1
  have fq2 := HSE.out.box.free 2
  have fq3 := HSE.out.box.free 3
  have fq4 := HSE.out.box.free 4
  have fq5 := HSE.out.box.free 5
  have fq6 := HSE.out.box.free 6
  have fq7 := HSE.out.box.free 7
  have fq8 := HSE.out.box.free 8
  have fq9 := HSE.out.box.free 9
  have fq10 := HSE.out.box.free 10
  obtain ⟨r0, r1, r2, r3, r4, r5, r6, r7, r8, r9, r10⟩ := HSE.out.r
  have fr0 := HSE.out.res.free 0
  have fr1 := HSE.out.res.free 1
  have fr2 := HSE.out.res.free 2
  have fr3 := HSE.out.res.free 3
  have fr4 := HSE.out.res.free 4
  have fr5 := HSE.out.res.free 5
  have fr6 := HSE.out.res.free 6
  have fr7 := HSE.out.res.free 7
  have fr8 := HSE.out.res.free 8
  have fr9 := HSE.out.res.free 9
  have fr10 := HSE.out.res.free 10
  go_upto_region 34 with (go_at_call 40; (with_reducible refine (used_bl false HSE.out.hF HSE.out.v.p5 hk4 (by omega)).mono ?_); rintro e w3 ⟨E3, e3, rfl, hn, hb⟩; have HN3 := Lib.hid hn; have HC3 := Lib.hid (HSE.out.call hb); have qd := HC3.out.q.2.2.2.2.2.1; have fd3 := HC3.out.box.free 5; clear hn hb)
  clear q0 fq0 r0 fr0 q1 fq1 r1 fr1 q2 fq2 r2 fr2 q3 fq3 r3 fr3 q4 fq4 r4 fr4 q5 fq5 r5 fr5 q6 fq6 r6 fr6 q7 fq7 r7 fr7 q8 fq8 r8 fr8 q9 fq9 r9 fr9 q10 fq10 r10 fr10
  clear qd fd3
  have hs3 := HC3.out.put5 (bl_stb _ _) HN3.out
  obtain ⟨V3, hV3⟩ : ∃ V, V = w3.setCell ⟨b, 5, none⟩ (.slice E3 4 e3) := ⟨_, rfl⟩
  rw [← hV3] at hs3 ⊢
  have HS3 := Lib.hid hs3
  clear hs3 hV3 HC3 HN3
  obtain ⟨q0, q1, q2, q3, q4, q5, q6, q7, q8, q9, q10⟩ := HS3.out.q
  have fq0 := HS3.out.box.free 0
  have fq1 := HS3.out.box.free 1
  have fq2 := HS3.out.box.free 2
  have fq3 := HS3.out.box.free 3
  have fq4 := HS3.out.box.free 4
  have fq5 := HS3.out.box.free 5
  have fq6 := HS3.out.box.free 6
  have fq7 := HS3.out.box.free 7
  have fq8 := HS3.out.box.free 8
  have fq9 := HS3.out.box.free 9
  have fq10 := HS3.out.box.free 10
  obtain ⟨r0, r1, r2, r3, r4, r5, r6, r7, r8, r9, r10⟩ := HS3.out.r
  have fr0 := HS3.out.res.free 0
  have fr1 := HS3.out.res.free 1
  have fr2 := HS3.out.res.free 2
  have fr3 := HS3.out.res.free 3
  have fr4 := HS3.out.res.free 4
  have fr5 := HS3.out.res.free 5
  have fr6 := HS3.out.res.free 6
  have fr7 := HS3.out.res.free 7
  have fr8 := HS3.out.res.free 8
  have fr9 := HS3.out.res.free 9
  have fr10 := HS3.out.res.free 10
  obtain ⟨b8, o8, e8, _, _, h8⟩ := nm_at HS3.out.v.p8 hq
  injection e8 with e8
  injection e8 with e8 e9 _
  subst e8 e9
  rw [((HF.out q hq).2.1 (by omega)).1, HSK.out] at h8
  obtain ⟨b3, o3, rfl, _, _, h3⟩ := nm_at HS3.out.v.p3 hk4
  have hbx2 := (Block.far (Block.far (Block.far (Block.far (Block.far (Block.far (Block.far (Block.far (Block.far (Block.far (Block.far HS3.out.box (p := ⟨b + 1, 0, none⟩) (by show b ≠ b + 1; omega) (.bool true)) (p := ⟨b + 1, 1, none⟩) (by show b ≠ b + 1; omega) (.int .i64 (v.sx q))) (p := ⟨b + 1, 2, none⟩) (by show b ≠ b + 1; omega) (.int .i64 (v.tt + 1))) (p := ⟨b + 1, 3, none⟩) (by show b ≠ b + 1; omega) (.slice (some ⟨b3, o3, none⟩) 4 c3)) (p := ⟨b + 1, 4, none⟩) (by show b ≠ b + 1; omega) (.slice A4 4 c4)) (p := ⟨b + 1, 5, none⟩) (by show b ≠ b + 1; omega) (.slice E3 4 e3)) (p := ⟨b + 1, 6, none⟩) (by show b ≠ b + 1; omega) (.slice E1 n e1)) (p := ⟨b + 1, 7, none⟩) (by show b ≠ b + 1; omega) (.slice A7 n c7)) (p := ⟨b + 1, 8, none⟩) (by show b ≠ b + 1; omega) (.slice (some ⟨b8, o8, none⟩) n c8)) (p := ⟨b + 1, 9, none⟩) (by show b ≠ b + 1; omega) (.slice (some ⟨b9, o9, none⟩) n c9)) (p := ⟨b + 1, 10, none⟩) (by show b ≠ b + 1; omega) (.slice (some ⟨b10, o10, none⟩) n c10))
  have htr := HS3.out.told
  obtain ⟨V4, hV4⟩ : ∃ V, V = (((((((((((V3.setCell ⟨b + 1, 0, none⟩ (.bool true)).setCell ⟨b + 1, 1, none⟩ (.int .i64 (v.sx q))).setCell ⟨b + 1, 2, none⟩ (.int .i64 (v.tt + 1))).setCell ⟨b + 1, 3, none⟩ (.slice (some ⟨b3, o3, none⟩) 4 c3)).setCell ⟨b + 1, 4, none⟩ (.slice A4 4 c4)).setCell ⟨b + 1, 5, none⟩ (.slice E3 4 e3)).setCell ⟨b + 1, 6, none⟩ (.slice E1 n e1)).setCell ⟨b + 1, 7, none⟩ (.slice A7 n c7)).setCell ⟨b + 1, 8, none⟩ (.slice (some ⟨b8, o8, none⟩) n c8)).setCell ⟨b + 1, 9, none⟩ (.slice (some ⟨b9, o9, none⟩) n c9)).setCell ⟨b + 1, 10, none⟩ (.slice (some ⟨b10, o10, none⟩) n c10)) := ⟨_, rfl⟩
  rw [← hV4] at hbx2 htr
  obtain ⟨t1, t2, t3⟩ := htr
  obtain ⟨x8, y8, e8, _, _, g8⟩ := nm_at t3.p8 hq
  injection e8 with e8
  injection e8 with e8 e9 _
  subst e8 e9
  rw [((HF.out q hq).2.1 (by omega)).1, HSK.out] at g8
  obtain ⟨x3, y3, e8, _, _, g3⟩ := nm_at t3.p3 hk4
  injection e8 with e8
  injection e8 with e8 e9 _
  subst e8 e9
  have HSA := Lib.hid (show (fun W : World => W.cell? ⟨b, 0, none⟩ = some (.bool true) ∧ W.cell? ⟨b, 1, none⟩ = some (.int .i64 (v.sx q)) ∧ W.cell? ⟨b, 2, none⟩ = some (.int .i64 (v.tt + 1)) ∧ W.cell? ⟨b, 3, none⟩ = some (.slice (some ⟨b3, o3, none⟩) 4 c3) ∧ W.cell? ⟨b, 4, none⟩ = some (.slice A4 4 c4) ∧ W.cell? ⟨b, 5, none⟩ = some (.slice E3 4 e3) ∧ W.cell? ⟨b, 6, none⟩ = some (.slice E1 n e1) ∧ W.cell? ⟨b, 7, none⟩ = some (.slice A7 n c7) ∧ W.cell? ⟨b, 8, none⟩ = some (.slice (some ⟨b8, o8, none⟩) n c8) ∧ W.cell? ⟨b, 9, none⟩ = some (.slice (some ⟨b9, o9, none⟩) n c9) ∧ W.cell? ⟨b, 10, none⟩ = some (.slice (some ⟨b10, o10, none⟩) n c10) ∧ W.cell? ⟨b8, o8 + q, none⟩ = some (.int .i64 (k : Int)) ∧ W.cell? ⟨b3, o3 + k, none⟩ = some (.int .i64 (v.x k))) V3.drew from ⟨q0, q1, q2, q3, q4, q5, q6, q7, q8, q9, q10, h8, h3⟩)
  have hSB : (fun W : World => W.cell? ⟨b, 0, none⟩ = some (.bool true) ∧ W.cell? ⟨b, 1, none⟩ = some (.int .i64 (v.sx q)) ∧ W.cell? ⟨b, 2, none⟩ = some (.int .i64 (v.tt + 1)) ∧ W.cell? ⟨b, 3, none⟩ = some (.slice (some ⟨b3, o3, none⟩) 4 c3) ∧ W.cell? ⟨b, 4, none⟩ = some (.slice A4 4 c4) ∧ W.cell? ⟨b, 5, none⟩ = some (.slice E3 4 e3) ∧ W.cell? ⟨b, 6, none⟩ = some (.slice E1 n e1) ∧ W.cell? ⟨b, 7, none⟩ = some (.slice A7 n c7) ∧ W.cell? ⟨b, 8, none⟩ = some (.slice (some ⟨b8, o8, none⟩) n c8) ∧ W.cell? ⟨b, 9, none⟩ = some (.slice (some ⟨b9, o9, none⟩) n c9) ∧ W.cell? ⟨b, 10, none⟩ = some (.slice (some ⟨b10, o10, none⟩) n c10) ∧ W.cell? ⟨b8, o8 + q, none⟩ = some (.int .i64 (k : Int)) ∧ W.cell? ⟨b3, o3 + k, none⟩ = some (.int .i64 (v.x k))) V4.drew := ⟨hbx2.cell 0, hbx2.cell 1, hbx2.cell 2, hbx2.cell 3, hbx2.cell 4, hbx2.cell 5, hbx2.cell 6, hbx2.cell 7, hbx2.cell 8, hbx2.cell 9, hbx2.cell 10, g8, g3⟩
  rw [hV4] at hSB
  have HSB := Lib.hid hSB
  have HT1 := Lib.hid (t1.drew)
  have HT2 := Lib.hid (t2.drew)
  have HT3 := Lib.hid (t3.below (Below.refl V4.heap.size V4).drew)
  clear hSB hbx2 t1 t2 t3 g8 g3 h8 h3 q0 q1 q2 q3 q4 q5 q6 q7 q8 q9 q10
  go_region_held3 (fun W : World => W.cell? ⟨b, 0, none⟩ = some (.bool true) ∧ W.cell? ⟨b, 1, none⟩ = some (.int .i64 (v.sx q)) ∧ W.cell? ⟨b, 2, none⟩ = some (.int .i64 (v.tt + 1)) ∧ W.cell? ⟨b, 3, none⟩ = some (.slice (some ⟨b3, o3, none⟩) 4 c3) ∧ W.cell? ⟨b, 4, none⟩ = some (.slice A4 4 c4) ∧ W.cell? ⟨b, 5, none⟩ = some (.slice E3 4 e3) ∧ W.cell? ⟨b, 6, none⟩ = some (.slice E1 n e1) ∧ W.cell? ⟨b, 7, none⟩ = some (.slice A7 n c7) ∧ W.cell? ⟨b, 8, none⟩ = some (.slice (some ⟨b8, o8, none⟩) n c8) ∧ W.cell? ⟨b, 9, none⟩ = some (.slice (some ⟨b9, o9, none⟩) n c9) ∧ W.cell? ⟨b, 10, none⟩ = some (.slice (some ⟨b10, o10, none⟩) n c10) ∧ W.cell? ⟨b8, o8 + q, none⟩ = some (.int .i64 (k : Int)) ∧ W.cell? ⟨b3, o3 + k, none⟩ = some (.int .i64 (v.x k))) (first | (with_reducible exact HSA.out) | (with_reducible exact HSB.out)) (fail)
  all_goals
    rename_i hh
    clear hh
    rw [← hV4]
    clear hV4
    refine (by assumption : ∀ (a : Act) (w : World), Code.wp Tryd.prog Code.ret _ a w → _) _ _ ?_
    go_step
    have hrv := HT3.out
    rw [rput_cast (y := 0) (z := 0) rfl] at hrv
    refine bodyPost_ret (v := .tuple _) (results_cell4 rfl _ _ (b + 1) 54 _ (0, 0) _ rfl HT1.out Tryd.underlying54 rfl (by kernel_rfl)) rfl (StpT.of ⟨_, _, _, _, _, _, _, _, _, _, _, _, _, _, _, rfl, ⟨hrv, RK.other (q := q) HF.out (fun p e => clr_other ({ kchg true v (v.sx q) with u := rput v.u k false }) q 0 0 e) (fun p e => ⟨rfl, rfl, rfl, rfl⟩) ?_⟩, HT2.out⟩)
    have ea : (kclr { kchg true v (v.sx q) with u := rput v.u k false } q 0 0).a q = 0 := rput_same _ _ _
    rw [ea]
    exact ⟨fun h => (by omega), fun h => (by omega), fun h => (by omega)⟩
set_option maxHeartbeats 8000000 in
set_option maxRecDepth 100000 in
theorem s5yf {F : Nat → Prop} {n : Nat} {tg : Bool} {v : KS} {v0 v1 v2 v3 v4 v5 v6 v7 v8 v9 v10 : Value} {fm fn ft fx : Nat → Int} (w : World) (h : RK F w n tg v v0 v1 v2 v3 v4 v5 v6 v7 v8 v9 v10 fm fn ft fx) (hF : ∀ b, F b → b < w.heap.size) (h1 : 1 ≤ n) (h4 : n ≤ 4) {q : Nat} (hq : q < n) (ha : v.a q = 5) (hs : v.tn = v.sn q ∧ v.tt = v.st q) (htg : tg = false) (_hT : 0 ≤ v.tt ∧ v.tt ≤ 1000) {k : Nat} (hk : v.sn q = k) (hk4 : k < 4) :
    Calls Tryd.prog 21 #[.agg #[v0, v1, v2, v3, v4, v5, v6, v7, v8, v9, v10], .int .i64 (q : Int)] w fun e w' => StpT F w w' n tg true (v.x k) (0) (kclr { kchg false v (v.sx q) with u := rput v.u k false } q 0 0) e := by
  have e0 : v0 = .bool tg := h.rv.p0
  have e1 : v1 = .int .i64 v.tn := h.rv.p1
  have e2 : v2 = .int .i64 v.tt := h.rv.p2
  subst e0 e1 e2
  obtain ⟨A3, c3, rfl⟩ := SL.form h.rv.p3
  obtain ⟨A4, c4, rfl⟩ := SL.form h.rv.p4
  obtain ⟨A5, c5, rfl⟩ := SL.form h.rv.p5
  obtain ⟨A6, c6, rfl⟩ := SL.form h.rv.p6
  obtain ⟨A7, c7, rfl⟩ := SL.form h.rv.p7
  obtain ⟨A8, c8, rfl⟩ := SL.form h.rv.p8
  obtain ⟨A9, c9, rfl⟩ := SL.form h.rv.p9
  obtain ⟨A10, c10, rfl⟩ := SL.form h.rv.p10
  have hst := RS.start h.rv hF
  obtain ⟨b, hb⟩ : ∃ b, b = w.heap.size := ⟨_, rfl⟩
  obtain ⟨W0, hW0⟩ : ∃ W0, W0 = (w.alloc (.cells #[.bool tg, .int .i64 v.tn, .int .i64 v.tt, .slice A3 4 c3, .slice A4 4 c4, .slice A5 4 c5, .slice A6 n c6, .slice A7 n c7, .slice A8 n c8, .slice A9 n c9, .slice A10 n c10] 54)).alloc (.cells #[.bool false, .int .i64 0, .int .i64 0, .slice none 0 0, .slice none 0 0, .slice none 0 0, .slice none 0 0, .slice none 0 0, .slice none 0 0, .slice none 0 0, .slice none 0 0] 54) := ⟨_, rfl⟩
  rw [← hW0, ← hb] at hst
  have HS0 := Lib.hid hst
  have hwn : IntKind.i64.wrap ((n : Int) - 1) = (n : Int) - 1 := IntWalk.i64_in _ (by omega)
  have HW0 := Lib.hid hW0
  have HBW := Lib.hid hb.symm
  have HF := Lib.hid h.f
  have HRV := Lib.hid h.rv
  clear hst h hF hb hW0
  have HI1 := Lib.hid (inW_any q 0 ((n : Int) - 1) true (decide_eq_true (by omega)))
  have hqI : (q : Int) < n := by omega
  obtain ⟨bt, ot, rfl, _, _, hct⟩ := nm_at HS0.out.v.p6 hq
  rw [ha] at hct
  obtain ⟨f1, f2, f3⟩ := HF.out q hq
  obtain ⟨hn8, hn9⟩ := f2 (by omega)
  obtain ⟨b8, o8, rfl, _, _, h8⟩ := nm_at HS0.out.v.p8 hq
  obtain ⟨b9, o9, rfl, _, _, h9⟩ := nm_at HS0.out.v.p9 hq
  rw [hn8] at h8
  rw [hn9] at h9
  clear hn8 hn9 f2
  have hb1 : (v.tn != v.sn q) = false := by simp [hs.1]
  have hb2 : (v.tt != v.st q) = false := by simp [hs.2]
  clear hs
  subst htg
  have HF3 := Lib.hid (f3 (by omega))
  have HSK := Lib.hid hk
  have hkI : (k : Int) < 4 := by omega
  clear f1 f3 hk
  go_enter Tryd.func21, Tryd.ntmps21
  go_upto_region 1 with fail
  rw [← HW0.out, HBW.out]
  obtain ⟨q0, q1, q2, q3, q4, q5, q6, q7, q8, q9, q10⟩ := HS0.out.q
  have fq0 := HS0.out.box.free 0
  have fq1 := HS0.out.box.free 1
  have fq2 := HS0.out.box.free 2
  have fq3 := HS0.out.box.free 3
  have fq4 := HS0.out.box.free 4
  have fq5 := HS0.out.box.free 5
  have fq6 := HS0.out.box.free 6
  have fq7 := HS0.out.box.free 7
  have fq8 := HS0.out.box.free 8
  have fq9 := HS0.out.box.free 9
  have fq10 := HS0.out.box.free 10
  obtain ⟨r0, r1, r2, r3, r4, r5, r6, r7, r8, r9, r10⟩ := HS0.out.r
  have fr0 := HS0.out.res.free 0
  have fr1 := HS0.out.res.free 1
  have fr2 := HS0.out.res.free 2
  have fr3 := HS0.out.res.free 3
  have fr4 := HS0.out.res.free 4
  have fr5 := HS0.out.res.free 5
  have fr6 := HS0.out.res.free 6
  have fr7 := HS0.out.res.free 7
  have fr8 := HS0.out.res.free 8
  have fr9 := HS0.out.res.free 9
  have fr10 := HS0.out.res.free 10
  go_upto_region 20 with (go_at_call 26; (with_reducible refine (HI1.out _).mono ?_); rintro e w' ⟨rfl, rfl⟩)
  go_quiet (fail)
  go_upto_region 26 with fail
  clear hct h8 h9 hb1 hb2
  clear q0 fq0 r0 fr0 q1 fq1 r1 fr1 q2 fq2 r2 fr2 q3 fq3 r3 fr3 q4 fq4 r4 fr4 q5 fq5 r5 fr5 q6 fq6 r6 fr6 q7 fq7 r7 fr7 q8 fq8 r8 fr8 q9 fq9 r9 fr9 q10 fq10 r10 fr10
  have hdWD := HS0.out.call (below_drewN (Below.refl W0.heap.size W0) nq)
  obtain ⟨WD, hWWD⟩ : ∃ X, X = W0.drewN nq := ⟨_, rfl⟩
  rw [← hWWD] at hdWD ⊢
  have HSD := Lib.hid hdWD
  clear hdWD hWWD
  obtain ⟨q0, q1, q2, q3, q4, q5, q6, q7, q8, q9, q10⟩ := HSD.out.q
  have fq0 := HSD.out.box.free 0
  have fq1 := HSD.out.box.free 1
  have fq2 := HSD.out.box.free 2
  have fq3 := HSD.out.box.free 3
  have fq4 := HSD.out.box.free 4
  have fq5 := HSD.out.box.free 5
  have fq6 := HSD.out.box.free 6
  have fq7 := HSD.out.box.free 7
  have fq8 := HSD.out.box.free 8
  have fq9 := HSD.out.box.free 9
  have fq10 := HSD.out.box.free 10
  obtain ⟨r0, r1, r2, r3, r4, r5, r6, r7, r8, r9, r10⟩ := HSD.out.r
  have fr0 := HSD.out.res.free 0
  have fr1 := HSD.out.res.free 1
  have fr2 := HSD.out.res.free 2
  have fr3 := HSD.out.res.free 3
  have fr4 := HSD.out.res.free 4
  have fr5 := HSD.out.res.free 5
  have fr6 := HSD.out.res.free 6
  have fr7 := HSD.out.res.free 7
  have fr8 := HSD.out.res.free 8
  have fr9 := HSD.out.res.free 9
  have fr10 := HSD.out.res.free 10
  go_upto_region 29 with (go_at_call 27; (with_reducible refine (set_nm 0 HSD.out.hF HSD.out.v.p6 hq (by omega)).mono ?_); rintro e w1 ⟨E1, e1, rfl, hn, hb⟩; have HN1 := Lib.hid hn; have HC1 := Lib.hid (HSD.out.call hb); have qd := HC1.out.q.2.2.2.2.2.2.1; have fd1 := HC1.out.box.free 6; clear hn hb)
  clear q0 fq0 r0 fr0 q1 fq1 r1 fr1 q2 fq2 r2 fr2 q3 fq3 r3 fr3 q4 fq4 r4 fr4 q5 fq5 r5 fr5 q6 fq6 r6 fr6 q7 fq7 r7 fr7 q8 fq8 r8 fr8 q9 fq9 r9 fr9 q10 fq10 r10 fr10
  clear qd fd1
  have hs1 := HC1.out.put6 (nm_stb _ _) HN1.out
  obtain ⟨V1, hV1⟩ : ∃ V, V = w1.setCell ⟨b, 6, none⟩ (.slice E1 n e1) := ⟨_, rfl⟩
  rw [← hV1] at hs1 ⊢
  have HS1 := Lib.hid hs1
  clear hs1 hV1 HC1 HN1
  obtain ⟨q0, q1, q2, q3, q4, q5, q6, q7, q8, q9, q10⟩ := HS1.out.q
  have fq0 := HS1.out.box.free 0
  have fq1 := HS1.out.box.free 1
  have fq2 := HS1.out.box.free 2
  have fq3 := HS1.out.box.free 3
  have fq4 := HS1.out.box.free 4
  have fq5 := HS1.out.box.free 5
  have fq6 := HS1.out.box.free 6
  have fq7 := HS1.out.box.free 7
  have fq8 := HS1.out.box.free 8
  have fq9 := HS1.out.box.free 9
  have fq10 := HS1.out.box.free 10
  obtain ⟨r0, r1, r2, r3, r4, r5, r6, r7, r8, r9, r10⟩ := HS1.out.r
  have fr0 := HS1.out.res.free 0
  have fr1 := HS1.out.res.free 1
  have fr2 := HS1.out.res.free 2
  have fr3 := HS1.out.res.free 3
  have fr4 := HS1.out.res.free 4
  have fr5 := HS1.out.res.free 5
  have fr6 := HS1.out.res.free 6
  have fr7 := HS1.out.res.free 7
  have fr8 := HS1.out.res.free 8
  have fr9 := HS1.out.res.free 9
  have fr10 := HS1.out.res.free 10
  obtain ⟨b10, o10, rfl, _, _, h10⟩ := nm_at HS1.out.v.p10 hq
  rw [HF3.out] at h10
  go_upto_region 33 with fail
  clear q0 fq0 r0 fr0 q1 fq1 r1 fr1 q2 fq2 r2 fr2 q3 fq3 r3 fr3 q4 fq4 r4 fr4 q5 fq5 r5 fr5 q6 fq6 r6 fr6 q7 fq7 r7 fr7 q8 fq8 r8 fr8 q9 fq9 r9 fr9 q10 fq10 r10 fr10
  have hpV2 := HS1.out.put1 (isInt_stb _) (u := .int .i64 (v.sx q)) (Q := isInt (v.sx q)) rfl
  obtain ⟨V2, hVV2⟩ : ∃ V, V = V1.setCell ⟨b, 1, none⟩ (.int .i64 (v.sx q)) := ⟨_, rfl⟩
  rw [← hVV2] at hpV2 ⊢
  have HS2 := Lib.hid hpV2
  clear hpV2 hVV2
  obtain ⟨q0, q1, q2, q3, q4, q5, q6, q7, q8, q9, q10⟩ := HS2.out.q
  have fq0 := HS2.out.box.free 0
  have fq1 := HS2.out.box.free 1
  have fq2 := HS2.out.box.free 2
  have fq3 := HS2.out.box.free 3
  have fq4 := HS2.out.box.free 4
  have fq5 := HS2.out.box.free 5
  have fq6 := HS2.out.box.free 6
  have fq7 := HS2.out.box.free 7
  have fq8 := HS2.out.box.free 8
  have fq9 := HS2.out.box.free 9
  have fq10 := HS2.out.box.free 10
  obtain ⟨r0, r1, r2, r3, r4, r5, r6, r7, r8, r9, r10⟩ := HS2.out.r
  have fr0 := HS2.out.res.free 0
  have fr1 := HS2.out.res.free 1
  have fr2 := HS2.out.res.free 2
  have fr3 := HS2.out.res.free 3
  have fr4 := HS2.out.res.free 4
  have fr5 := HS2.out.res.free 5
  have fr6 := HS2.out.res.free 6
  have fr7 := HS2.out.res.free 7
  have fr8 := HS2.out.res.free 8
  have fr9 := HS2.out.res.free 9
  have fr10 := HS2.out.res.free 10
  obtain ⟨b8, o8, e8, _, _, h8⟩ := nm_at HS2.out.v.p8 hq
  injection e8 with e8
  injection e8 with e8 e9 _
  subst e8 e9
  rw [((HF.out q hq).2.1 (by omega)).1, HSK.out] at h8
  go_upto_region 33 with fail
  go_still_tail 7, (by kernel_rfl)
  clear h8
  clear q0 fq0 r0 fr0 q1 fq1 r1 fr1 q2 fq2 r2 fr2 q3 fq3 r3 fr3 q4 fq4 r4 fr4 q5 fq5 r5 fr5 q6 fq6 r6 fr6 q7 fq7 r7 fr7 q8 fq8 r8 fr8 q9 fq9 r9 fr9 q10 fq10 r10 fr10
  have hdWE := HS2.out.call (Below.refl V2.heap.size V2).drew
  change wpList _ _ _ _ _ V2.drew
  obtain ⟨WE, hWWE⟩ : ∃ X, X = V2.drew := ⟨_, rfl⟩
  rw [← hWWE] at hdWE ⊢
  have HSE := Lib.hid hdWE
  clear hdWE hWWE
  obtain ⟨q0, q1, q2, q3, q4, q5, q6, q7, q8, q9, q10⟩ := HSE.out.q
  have fq0 := HSE.out.box.free 0
  have fq1 := HSE.out.box.free 1
  have fq2 := HSE.out.box.free 2
  have fq3 := HSE.out.box.free 3
  have fq4 := HSE.out.box.free 4
  have fq5 := HSE.out.box.free 5
  have fq6 := HSE.out.box.free 6
  have fq7 := HSE.out.box.free 7
  have fq8 := HSE.out.box.free 8
  have fq9 := HSE.out.box.free 9
  have fq10 := HSE.out.box.free 10
  obtain ⟨r0, r1, r2, r3, r4, r5, r6, r7, r8, r9, r10⟩ := HSE.out.r
  have fr0 := HSE.out.res.free 0
  have fr1 := HSE.out.res.free 1
  have fr2 := HSE.out.res.free 2
  have fr3 := HSE.out.res.free 3
  have fr4 := HSE.out.res.free 4
  have fr5 := HSE.out.res.free 5
  have fr6 := HSE.out.res.free 6
  have fr7 := HSE.out.res.free 7
  have fr8 := HSE.out.res.free 8
  have fr9 := HSE.out.res.free 9
  have fr10 := HSE.out.res.free 10
  go_upto_region 34 with (go_at_call 40; (with_reducible refine (used_bl false HSE.out.hF HSE.out.v.p5 hk4 (by omega)).mono ?_); rintro e w3 ⟨E3, e3, rfl, hn, hb⟩; have HN3 := Lib.hid hn; have HC3 := Lib.hid (HSE.out.call hb); have qd := HC3.out.q.2.2.2.2.2.1; have fd3 := HC3.out.box.free 5; clear hn hb)
  clear q0 fq0 r0 fr0 q1 fq1 r1 fr1 q2 fq2 r2 fr2 q3 fq3 r3 fr3 q4 fq4 r4 fr4 q5 fq5 r5 fr5 q6 fq6 r6 fr6 q7 fq7 r7 fr7 q8 fq8 r8 fr8 q9 fq9 r9 fr9 q10 fq10 r10 fr10
  clear qd fd3
  have hs3 := HC3.out.put5 (bl_stb _ _) HN3.out
  obtain ⟨V3, hV3⟩ : ∃ V, V = w3.setCell ⟨b, 5, none⟩ (.slice E3 4 e3) := ⟨_, rfl⟩
  rw [← hV3] at hs3 ⊢
  have HS3 := Lib.hid hs3
  clear hs3 hV3 HC3 HN3
  obtain ⟨q0, q1, q2, q3, q4, q5, q6, q7, q8, q9, q10⟩ := HS3.out.q
  have fq0 := HS3.out.box.free 0
  have fq1 := HS3.out.box.free 1
  have fq2 := HS3.out.box.free 2
  have fq3 := HS3.out.box.free 3
  have fq4 := HS3.out.box.free 4
  have fq5 := HS3.out.box.free 5
  have fq6 := HS3.out.box.free 6
  have fq7 := HS3.out.box.free 7
  have fq8 := HS3.out.box.free 8
  have fq9 := HS3.out.box.free 9
  have fq10 := HS3.out.box.free 10
  obtain ⟨r0, r1, r2, r3, r4, r5, r6, r7, r8, r9, r10⟩ := HS3.out.r
  have fr0 := HS3.out.res.free 0
  have fr1 := HS3.out.res.free 1
  have fr2 := HS3.out.res.free 2
  have fr3 := HS3.out.res.free 3
  have fr4 := HS3.out.res.free 4
  have fr5 := HS3.out.res.free 5
  have fr6 := HS3.out.res.free 6
  have fr7 := HS3.out.res.free 7
  have fr8 := HS3.out.res.free 8
  have fr9 := HS3.out.res.free 9
  have fr10 := HS3.out.res.free 10
  obtain ⟨b8, o8, e8, _, _, h8⟩ := nm_at HS3.out.v.p8 hq
  injection e8 with e8
  injection e8 with e8 e9 _
  subst e8 e9
  rw [((HF.out q hq).2.1 (by omega)).1, HSK.out] at h8
  obtain ⟨b3, o3, rfl, _, _, h3⟩ := nm_at HS3.out.v.p3 hk4
  have hbx2 := (Block.far (Block.far (Block.far (Block.far (Block.far (Block.far (Block.far (Block.far (Block.far (Block.far (Block.far HS3.out.box (p := ⟨b + 1, 0, none⟩) (by show b ≠ b + 1; omega) (.bool false)) (p := ⟨b + 1, 1, none⟩) (by show b ≠ b + 1; omega) (.int .i64 (v.sx q))) (p := ⟨b + 1, 2, none⟩) (by show b ≠ b + 1; omega) (.int .i64 (v.tt))) (p := ⟨b + 1, 3, none⟩) (by show b ≠ b + 1; omega) (.slice (some ⟨b3, o3, none⟩) 4 c3)) (p := ⟨b + 1, 4, none⟩) (by show b ≠ b + 1; omega) (.slice A4 4 c4)) (p := ⟨b + 1, 5, none⟩) (by show b ≠ b + 1; omega) (.slice E3 4 e3)) (p := ⟨b + 1, 6, none⟩) (by show b ≠ b + 1; omega) (.slice E1 n e1)) (p := ⟨b + 1, 7, none⟩) (by show b ≠ b + 1; omega) (.slice A7 n c7)) (p := ⟨b + 1, 8, none⟩) (by show b ≠ b + 1; omega) (.slice (some ⟨b8, o8, none⟩) n c8)) (p := ⟨b + 1, 9, none⟩) (by show b ≠ b + 1; omega) (.slice (some ⟨b9, o9, none⟩) n c9)) (p := ⟨b + 1, 10, none⟩) (by show b ≠ b + 1; omega) (.slice (some ⟨b10, o10, none⟩) n c10))
  have htr := HS3.out.told
  obtain ⟨V4, hV4⟩ : ∃ V, V = (((((((((((V3.setCell ⟨b + 1, 0, none⟩ (.bool false)).setCell ⟨b + 1, 1, none⟩ (.int .i64 (v.sx q))).setCell ⟨b + 1, 2, none⟩ (.int .i64 (v.tt))).setCell ⟨b + 1, 3, none⟩ (.slice (some ⟨b3, o3, none⟩) 4 c3)).setCell ⟨b + 1, 4, none⟩ (.slice A4 4 c4)).setCell ⟨b + 1, 5, none⟩ (.slice E3 4 e3)).setCell ⟨b + 1, 6, none⟩ (.slice E1 n e1)).setCell ⟨b + 1, 7, none⟩ (.slice A7 n c7)).setCell ⟨b + 1, 8, none⟩ (.slice (some ⟨b8, o8, none⟩) n c8)).setCell ⟨b + 1, 9, none⟩ (.slice (some ⟨b9, o9, none⟩) n c9)).setCell ⟨b + 1, 10, none⟩ (.slice (some ⟨b10, o10, none⟩) n c10)) := ⟨_, rfl⟩
  rw [← hV4] at hbx2 htr
  obtain ⟨t1, t2, t3⟩ := htr
  obtain ⟨x8, y8, e8, _, _, g8⟩ := nm_at t3.p8 hq
  injection e8 with e8
  injection e8 with e8 e9 _
  subst e8 e9
  rw [((HF.out q hq).2.1 (by omega)).1, HSK.out] at g8
  obtain ⟨x3, y3, e8, _, _, g3⟩ := nm_at t3.p3 hk4
  injection e8 with e8
  injection e8 with e8 e9 _
  subst e8 e9
  have HSA := Lib.hid (show (fun W : World => W.cell? ⟨b, 0, none⟩ = some (.bool false) ∧ W.cell? ⟨b, 1, none⟩ = some (.int .i64 (v.sx q)) ∧ W.cell? ⟨b, 2, none⟩ = some (.int .i64 (v.tt)) ∧ W.cell? ⟨b, 3, none⟩ = some (.slice (some ⟨b3, o3, none⟩) 4 c3) ∧ W.cell? ⟨b, 4, none⟩ = some (.slice A4 4 c4) ∧ W.cell? ⟨b, 5, none⟩ = some (.slice E3 4 e3) ∧ W.cell? ⟨b, 6, none⟩ = some (.slice E1 n e1) ∧ W.cell? ⟨b, 7, none⟩ = some (.slice A7 n c7) ∧ W.cell? ⟨b, 8, none⟩ = some (.slice (some ⟨b8, o8, none⟩) n c8) ∧ W.cell? ⟨b, 9, none⟩ = some (.slice (some ⟨b9, o9, none⟩) n c9) ∧ W.cell? ⟨b, 10, none⟩ = some (.slice (some ⟨b10, o10, none⟩) n c10) ∧ W.cell? ⟨b8, o8 + q, none⟩ = some (.int .i64 (k : Int)) ∧ W.cell? ⟨b3, o3 + k, none⟩ = some (.int .i64 (v.x k))) V3.drew from ⟨q0, q1, q2, q3, q4, q5, q6, q7, q8, q9, q10, h8, h3⟩)
  have hSB : (fun W : World => W.cell? ⟨b, 0, none⟩ = some (.bool false) ∧ W.cell? ⟨b, 1, none⟩ = some (.int .i64 (v.sx q)) ∧ W.cell? ⟨b, 2, none⟩ = some (.int .i64 (v.tt)) ∧ W.cell? ⟨b, 3, none⟩ = some (.slice (some ⟨b3, o3, none⟩) 4 c3) ∧ W.cell? ⟨b, 4, none⟩ = some (.slice A4 4 c4) ∧ W.cell? ⟨b, 5, none⟩ = some (.slice E3 4 e3) ∧ W.cell? ⟨b, 6, none⟩ = some (.slice E1 n e1) ∧ W.cell? ⟨b, 7, none⟩ = some (.slice A7 n c7) ∧ W.cell? ⟨b, 8, none⟩ = some (.slice (some ⟨b8, o8, none⟩) n c8) ∧ W.cell? ⟨b, 9, none⟩ = some (.slice (some ⟨b9, o9, none⟩) n c9) ∧ W.cell? ⟨b, 10, none⟩ = some (.slice (some ⟨b10, o10, none⟩) n c10) ∧ W.cell? ⟨b8, o8 + q, none⟩ = some (.int .i64 (k : Int)) ∧ W.cell? ⟨b3, o3 + k, none⟩ = some (.int .i64 (v.x k))) V4.drew := ⟨hbx2.cell 0, hbx2.cell 1, hbx2.cell 2, hbx2.cell 3, hbx2.cell 4, hbx2.cell 5, hbx2.cell 6, hbx2.cell 7, hbx2.cell 8, hbx2.cell 9, hbx2.cell 10, g8, g3⟩
  rw [hV4] at hSB
  have HSB := Lib.hid hSB
  have HT1 := Lib.hid (t1.drew)
  have HT2 := Lib.hid (t2.drew)
  have HT3 := Lib.hid (t3.below (Below.refl V4.heap.size V4).drew)
  clear hSB hbx2 t1 t2 t3 g8 g3 h8 h3 q0 q1 q2 q3 q4 q5 q6 q7 q8 q9 q10
  go_region_held3 (fun W : World => W.cell? ⟨b, 0, none⟩ = some (.bool false) ∧ W.cell? ⟨b, 1, none⟩ = some (.int .i64 (v.sx q)) ∧ W.cell? ⟨b, 2, none⟩ = some (.int .i64 (v.tt)) ∧ W.cell? ⟨b, 3, none⟩ = some (.slice (some ⟨b3, o3, none⟩) 4 c3) ∧ W.cell? ⟨b, 4, none⟩ = some (.slice A4 4 c4) ∧ W.cell? ⟨b, 5, none⟩ = some (.slice E3 4 e3) ∧ W.cell? ⟨b, 6, none⟩ = some (.slice E1 n e1) ∧ W.cell? ⟨b, 7, none⟩ = some (.slice A7 n c7) ∧ W.cell? ⟨b, 8, none⟩ = some (.slice (some ⟨b8, o8, none⟩) n c8) ∧ W.cell? ⟨b, 9, none⟩ = some (.slice (some ⟨b9, o9, none⟩) n c9) ∧ W.cell? ⟨b, 10, none⟩ = some (.slice (some ⟨b10, o10, none⟩) n c10) ∧ W.cell? ⟨b8, o8 + q, none⟩ = some (.int .i64 (k : Int)) ∧ W.cell? ⟨b3, o3 + k, none⟩ = some (.int .i64 (v.x k))) (first | (with_reducible exact HSA.out) | (with_reducible exact HSB.out)) (fail)
  all_goals
    rename_i hh
    clear hh
    rw [← hV4]
    clear hV4
    refine (by assumption : ∀ (a : Act) (w : World), Code.wp Tryd.prog Code.ret _ a w → _) _ _ ?_
    go_step
    have hrv := HT3.out
    rw [rput_cast (y := 0) (z := 0) rfl] at hrv
    refine bodyPost_ret (v := .tuple _) (results_cell4 rfl _ _ (b + 1) 54 _ (0, 0) _ rfl HT1.out Tryd.underlying54 rfl (by kernel_rfl)) rfl (StpT.of ⟨_, _, _, _, _, _, _, _, _, _, _, _, _, _, _, rfl, ⟨hrv, RK.other (q := q) HF.out (fun p e => clr_other ({ kchg false v (v.sx q) with u := rput v.u k false }) q 0 0 e) (fun p e => ⟨rfl, rfl, rfl, rfl⟩) ?_⟩, HT2.out⟩)
    have ea : (kclr { kchg false v (v.sx q) with u := rput v.u k false } q 0 0).a q = 0 := rput_same _ _ _
    rw [ea]
    exact ⟨fun h => (by omega), fun h => (by omega), fun h => (by omega)⟩
end Go.Proofs.YtjcoihhmlblkbaaDoor.Stk
