/-
  The reference of package stack: StepStack.
-/
import Derived.Test.YtjcoihhmlblkbaaDoorStkRef2
import Derived.StillTailTactics
namespace Go.Proofs.YtjcoihhmlblkbaaDoor.Stk
open Go.RowKit Rf

/-- What StepStack hands back. -/
def StpT (F : Nat → Prop) (w w' : World) (n : Nat) (tg : Bool) (D : Bool) (G E : Int) (s : KS) (e : Ending) : Prop := ∃ u0 u1 u2 u3 u4 u5 u6 u7 u8 u9 u10 gm gn gt gx, e = .returned (.tuple #[.agg #[u0, u1, u2, u3, u4, u5, u6, u7, u8, u9, u10], .bool D, .int .i64 G, .int .i64 E]) ∧ RK F w' n tg s u0 u1 u2 u3 u4 u5 u6 u7 u8 u9 u10 gm gn gt gx ∧ Below w.heap.size w w'
theorem StpT.of {F : Nat → Prop} {w w' : World} {n : Nat} {tg : Bool} {D : Bool} {G E : Int} {s : KS} {e : Ending} (h : ∃ u0 u1 u2 u3 u4 u5 u6 u7 u8 u9 u10 gm gn gt gx, e = .returned (.tuple #[.agg #[u0, u1, u2, u3, u4, u5, u6, u7, u8, u9, u10], .bool D, .int .i64 G, .int .i64 E]) ∧ RK F w' n tg s u0 u1 u2 u3 u4 u5 u6 u7 u8 u9 u10 gm gn gt gx ∧ Below w.heap.size w w') : StpT F w w' n tg D G E s e := h
theorem RK.other {n q : Nat} {v v' : KS} {fm fn ft fx gm gn gt gx : Nat → Int}
    (h : ∀ p, p < n → (v.a p = 1 ∨ v.a p = 2 → fm p = ((v.m p : Nat) : Int)) ∧ (v.a p = 2 ∨ v.a p = 4 ∨ v.a p = 5 → fn p = v.sn p ∧ ft p = v.st p) ∧ (v.a p = 5 → fx p = v.sx p))
    (ho : ∀ p, p ≠ q → v'.a p = v.a p ∧ v'.m p = v.m p ∧ v'.sn p = v.sn p ∧ v'.st p = v.st p ∧ v'.sx p = v.sx p) (hg : ∀ p, p ≠ q → gm p = fm p ∧ gn p = fn p ∧ gt p = ft p ∧ gx p = fx p)
    (hq : (v'.a q = 1 ∨ v'.a q = 2 → gm q = ((v'.m q : Nat) : Int)) ∧ (v'.a q = 2 ∨ v'.a q = 4 ∨ v'.a q = 5 → gn q = v'.sn q ∧ gt q = v'.st q) ∧ (v'.a q = 5 → gx q = v'.sx q)) :
    ∀ p, p < n → (v'.a p = 1 ∨ v'.a p = 2 → gm p = ((v'.m p : Nat) : Int)) ∧ (v'.a p = 2 ∨ v'.a p = 4 ∨ v'.a p = 5 → gn p = v'.sn p ∧ gt p = v'.st p) ∧ (v'.a p = 5 → gx p = v'.sx p) := fun p hp => by
  by_cases e : p = q
  · subst e; exact hq
  · obtain ⟨o1, o2, o3, o4, o5⟩ := ho p e
    obtain ⟨g1, g2, g3, g4⟩ := hg p e
    rw [o1, o2, o3, o4, o5, g1, g2, g3, g4]
    exact h p hp
theorem clr_other (v : KS) (q a m : Nat) {p : Nat} (e : p ≠ q) : (kclr v q a m).a p = v.a p ∧ (kclr v q a m).m p = v.m p ∧ (kclr v q a m).sn p = v.sn p ∧ (kclr v q a m).st p = v.st p ∧ (kclr v q a m).sx p = v.sx p := ⟨rput_other e, rput_other e, rput_other e, rput_other e, rput_other e⟩
set_option maxHeartbeats 8000000 in
set_option maxRecDepth 100000 in
theorem sbad {F : Nat → Prop} {n : Nat} {tg : Bool} {v : KS} {v0 v1 v2 v3 v4 v5 v6 v7 v8 v9 v10 : Value} {fm fn ft fx : Nat → Int} (w : World) (h : RK F w n tg v v0 v1 v2 v3 v4 v5 v6 v7 v8 v9 v10 fm fn ft fx) (hF : ∀ b, F b → b < w.heap.size) (h1 : 1 ≤ n) (h4 : n ≤ 4) (p : Int) (hp : ¬ (0 ≤ p ∧ p < n)) :
    Calls Tryd.prog 21 #[.agg #[v0, v1, v2, v3, v4, v5, v6, v7, v8, v9, v10], .int .i64 p] w fun e w' => StpT F w w' n tg false (0) (1) (v) e := by
  have e0 : v0 = .bool tg := h.rv.p0
  have e1 : v1 = .int .i64 v.tn := h.rv.p1
  have e2 : v2 = .int .i64 v.tt := h.rv.p2
  subst e0 e1 e2
  obtain ⟨A3, c3, rfl⟩ := SL.form h.rv.p3
  obtain ⟨A4, c4, rfl⟩ := SL.form h.rv.p4
  obtain ⟨A5, c5, rfl⟩ := SL.form h.rv.p5
  obtain ⟨A6, c6, rfl⟩ := SL.form h.rv.p6
  obtain ⟨A7, c7, rfl⟩ := SL.form h.rv.p7
  obtain ⟨A8, c8, rfl⟩ := SL.form h.rv.p8
  obtain ⟨A9, c9, rfl⟩ := SL.form h.rv.p9
  obtain ⟨A10, c10, rfl⟩ := SL.form h.rv.p10
  have hst := RS.start h.rv hF
  obtain ⟨b, hb⟩ : ∃ b, b = w.heap.size := ⟨_, rfl⟩
  obtain ⟨W0, hW0⟩ : ∃ W0, W0 = (w.alloc (.cells #[.bool tg, .int .i64 v.tn, .int .i64 v.tt, .slice A3 4 c3, .slice A4 4 c4, .slice A5 4 c5, .slice A6 n c6, .slice A7 n c7, .slice A8 n c8, .slice A9 n c9, .slice A10 n c10] 54)).alloc (.cells #[.bool false, .int .i64 0, .int .i64 0, .slice none 0 0, .slice none 0 0, .slice none 0 0, .slice none 0 0, .slice none 0 0, .slice none 0 0, .slice none 0 0, .slice none 0 0] 54) := ⟨_, rfl⟩
  rw [← hW0, ← hb] at hst
  have HS0 := Lib.hid hst
  have hwn : IntKind.i64.wrap ((n : Int) - 1) = (n : Int) - 1 := IntWalk.i64_in _ (by omega)
  have HW0 := Lib.hid hW0
  have HBW := Lib.hid hb.symm
  have HF := Lib.hid h.f
  have HRV := Lib.hid h.rv
  clear hst h hF hb hW0
  have HI1 := Lib.hid (inW_any p 0 ((n : Int) - 1) false (decide_eq_false (by omega)))
  go_enter Tryd.func21, Tryd.ntmps21
  go_upto_region 1 with fail
  rw [← HW0.out, HBW.out]
  obtain ⟨q0, q1, q2, q3, q4, q5, q6, q7, q8, q9, q10⟩ := HS0.out.q
  have fq0 := HS0.out.box.free 0
  have fq1 := HS0.out.box.free 1
  have fq2 := HS0.out.box.free 2
  have fq3 := HS0.out.box.free 3
  have fq4 := HS0.out.box.free 4
  have fq5 := HS0.out.box.free 5
  have fq6 := HS0.out.box.free 6
  have fq7 := HS0.out.box.free 7
  have fq8 := HS0.out.box.free 8
  have fq9 := HS0.out.box.free 9
  have fq10 := HS0.out.box.free 10
  obtain ⟨r0, r1, r2, r3, r4, r5, r6, r7, r8, r9, r10⟩ := HS0.out.r
  have fr0 := HS0.out.res.free 0
  have fr1 := HS0.out.res.free 1
  have fr2 := HS0.out.res.free 2
  have fr3 := HS0.out.res.free 3
  have fr4 := HS0.out.res.free 4
  have fr5 := HS0.out.res.free 5
  have fr6 := HS0.out.res.free 6
  have fr7 := HS0.out.res.free 7
  have fr8 := HS0.out.res.free 8
  have fr9 := HS0.out.res.free 9
  have fr10 := HS0.out.res.free 10
  go_wp2_with (go_at_call 26; (with_reducible refine (HI1.out _).mono ?_); rintro e w' ⟨rfl, rfl⟩)
  refine bodyPost_ret (v := .tuple _) (results_cell4 rfl _ _ (b + 1) 54 _ (0, 0) _ rfl HS0.out.told.1 Tryd.underlying54 rfl (by kernel_rfl)) rfl (StpT.of ⟨_, _, _, _, _, _, _, _, _, _, _, _, _, _, _, rfl, ⟨HS0.out.told.2.2, HF.out⟩, HS0.out.told.2.1⟩)
set_option maxHeartbeats 8000000 in
set_option maxRecDepth 100000 in
theorem sidle {F : Nat → Prop} {n : Nat} {tg : Bool} {v : KS} {v0 v1 v2 v3 v4 v5 v6 v7 v8 v9 v10 : Value} {fm fn ft fx : Nat → Int} (w : World) (h : RK F w n tg v v0 v1 v2 v3 v4 v5 v6 v7 v8 v9 v10 fm fn ft fx) (hF : ∀ b, F b → b < w.heap.size) (h1 : 1 ≤ n) (h4 : n ≤ 4) {q : Nat} (hq : q < n) (ha : v.a q = 0) :
    Calls Tryd.prog 21 #[.agg #[v0, v1, v2, v3, v4, v5, v6, v7, v8, v9, v10], .int .i64 (q : Int)] w fun e w' => StpT F w w' n tg false (0) (7) (v) e := by
  have e0 : v0 = .bool tg := h.rv.p0
  have e1 : v1 = .int .i64 v.tn := h.rv.p1
  have e2 : v2 = .int .i64 v.tt := h.rv.p2
  subst e0 e1 e2
  obtain ⟨A3, c3, rfl⟩ := SL.form h.rv.p3
  obtain ⟨A4, c4, rfl⟩ := SL.form h.rv.p4
  obtain ⟨A5, c5, rfl⟩ := SL.form h.rv.p5
  obtain ⟨A6, c6, rfl⟩ := SL.form h.rv.p6
  obtain ⟨A7, c7, rfl⟩ := SL.form h.rv.p7
  obtain ⟨A8, c8, rfl⟩ := SL.form h.rv.p8
  obtain ⟨A9, c9, rfl⟩ := SL.form h.rv.p9
  obtain ⟨A10, c10, rfl⟩ := SL.form h.rv.p10
  have hst := RS.start h.rv hF
  obtain ⟨b, hb⟩ : ∃ b, b = w.heap.size := ⟨_, rfl⟩
  obtain ⟨W0, hW0⟩ : ∃ W0, W0 = (w.alloc (.cells #[.bool tg, .int .i64 v.tn, .int .i64 v.tt, .slice A3 4 c3, .slice A4 4 c4, .slice A5 4 c5, .slice A6 n c6, .slice A7 n c7, .slice A8 n c8, .slice A9 n c9, .slice A10 n c10] 54)).alloc (.cells #[.bool false, .int .i64 0, .int .i64 0, .slice none 0 0, .slice none 0 0, .slice none 0 0, .slice none 0 0, .slice none 0 0, .slice none 0 0, .slice none 0 0, .slice none 0 0] 54) := ⟨_, rfl⟩
  rw [← hW0, ← hb] at hst
  have HS0 := Lib.hid hst
  have hwn : IntKind.i64.wrap ((n : Int) - 1) = (n : Int) - 1 := IntWalk.i64_in _ (by omega)
  have HW0 := Lib.hid hW0
  have HBW := Lib.hid hb.symm
  have HF := Lib.hid h.f
  have HRV := Lib.hid h.rv
  clear hst h hF hb hW0
  have HI1 := Lib.hid (inW_any q 0 ((n : Int) - 1) true (decide_eq_true (by omega)))
  have hqI : (q : Int) < n := by omega
  obtain ⟨bt, ot, rfl, _, _, hct⟩ := nm_at HS0.out.v.p6 hq
  rw [ha] at hct
  go_enter Tryd.func21, Tryd.ntmps21
  go_upto_region 1 with fail
  rw [← HW0.out, HBW.out]
  obtain ⟨q0, q1, q2, q3, q4, q5, q6, q7, q8, q9, q10⟩ := HS0.out.q
  have fq0 := HS0.out.box.free 0
  have fq1 := HS0.out.box.free 1
  have fq2 := HS0.out.box.free 2
  have fq3 := HS0.out.box.free 3
  have fq4 := HS0.out.box.free 4
  have fq5 := HS0.out.box.free 5
  have fq6 := HS0.out.box.free 6
  have fq7 := HS0.out.box.free 7
  have fq8 := HS0.out.box.free 8
  have fq9 := HS0.out.box.free 9
  have fq10 := HS0.out.box.free 10
  obtain ⟨r0, r1, r2, r3, r4, r5, r6, r7, r8, r9, r10⟩ := HS0.out.r
  have fr0 := HS0.out.res.free 0
  have fr1 := HS0.out.res.free 1
  have fr2 := HS0.out.res.free 2
  have fr3 := HS0.out.res.free 3
  have fr4 := HS0.out.res.free 4
  have fr5 := HS0.out.res.free 5
  have fr6 := HS0.out.res.free 6
  have fr7 := HS0.out.res.free 7
  have fr8 := HS0.out.res.free 8
  have fr9 := HS0.out.res.free 9
  have fr10 := HS0.out.res.free 10
  go_wp2_with (go_at_call 26; (with_reducible refine (HI1.out _).mono ?_); rintro e w' ⟨rfl, rfl⟩)
  refine bodyPost_ret (v := .tuple _) (results_cell4 rfl _ _ (b + 1) 54 _ (0, 0) _ rfl HS0.out.told.1 Tryd.underlying54 rfl (by kernel_rfl)) rfl (StpT.of ⟨_, _, _, _, _, _, _, _, _, _, _, _, _, _, _, rfl, ⟨HS0.out.told.2.2, HF.out⟩, HS0.out.told.2.1⟩)
set_option maxHeartbeats 8000000 in
set_option maxRecDepth 100000 in
theorem s4 {F : Nat → Prop} {n : Nat} {tg : Bool} {v : KS} {v0 v1 v2 v3 v4 v5 v6 v7 v8 v9 v10 : Value} {fm fn ft fx : Nat → Int} (w : World) (h : RK F w n tg v v0 v1 v2 v3 v4 v5 v6 v7 v8 v9 v10 fm fn ft fx) (hF : ∀ b, F b → b < w.heap.size) (h1 : 1 ≤ n) (h4 : n ≤ 4) {q : Nat} (hq : q < n) (ha : v.a q = 4) {k : Nat} (hk : v.sn q = k) (hk4 : k < 4) :
    Calls Tryd.prog 21 #[.agg #[v0, v1, v2, v3, v4, v5, v6, v7, v8, v9, v10], .int .i64 (q : Int)] w fun e w' => StpT F w w' n tg false (0) (0) (kat { v with sx := rput v.sx q (v.nx k) } q 5) e := by
  have e0 : v0 = .bool tg := h.rv.p0
  have e1 : v1 = .int .i64 v.tn := h.rv.p1
  have e2 : v2 = .int .i64 v.tt := h.rv.p2
  subst e0 e1 e2
  obtain ⟨A3, c3, rfl⟩ := SL.form h.rv.p3
  obtain ⟨A4, c4, rfl⟩ := SL.form h.rv.p4
  obtain ⟨A5, c5, rfl⟩ := SL.form h.rv.p5
  obtain ⟨A6, c6, rfl⟩ := SL.form h.rv.p6
  obtain ⟨A7, c7, rfl⟩ := SL.form h.rv.p7
  obtain ⟨A8, c8, rfl⟩ := SL.form h.rv.p8
  obtain ⟨A9, c9, rfl⟩ := SL.form h.rv.p9
  obtain ⟨A10, c10, rfl⟩ := SL.form h.rv.p10
  have hst := RS.start h.rv hF
  obtain ⟨b, hb⟩ : ∃ b, b = w.heap.size := ⟨_, rfl⟩
  obtain ⟨W0, hW0⟩ : ∃ W0, W0 = (w.alloc (.cells #[.bool tg, .int .i64 v.tn, .int .i64 v.tt, .slice A3 4 c3, .slice A4 4 c4, .slice A5 4 c5, .slice A6 n c6, .slice A7 n c7, .slice A8 n c8, .slice A9 n c9, .slice A10 n c10] 54)).alloc (.cells #[.bool false, .int .i64 0, .int .i64 0, .slice none 0 0, .slice none 0 0, .slice none 0 0, .slice none 0 0, .slice none 0 0, .slice none 0 0, .slice none 0 0, .slice none 0 0] 54) := ⟨_, rfl⟩
  rw [← hW0, ← hb] at hst
  have HS0 := Lib.hid hst
  have hwn : IntKind.i64.wrap ((n : Int) - 1) = (n : Int) - 1 := IntWalk.i64_in _ (by omega)
  have HW0 := Lib.hid hW0
  have HBW := Lib.hid hb.symm
  have HF := Lib.hid h.f
  have HRV := Lib.hid h.rv
  clear hst h hF hb hW0
  have HI1 := Lib.hid (inW_any q 0 ((n : Int) - 1) true (decide_eq_true (by omega)))
  have hqI : (q : Int) < n := by omega
  obtain ⟨bt, ot, rfl, _, _, hct⟩ := nm_at HS0.out.v.p6 hq
  rw [ha] at hct
  obtain ⟨f1, f2, f3⟩ := HF.out q hq
  have hs := (f2 (by omega)).1
  rw [hk] at hs
  obtain ⟨b8, o8, rfl, _, _, h8⟩ := nm_at HS0.out.v.p8 hq
  rw [hs] at h8
  obtain ⟨b4, o4, rfl, _, _, h44⟩ := nm_at HS0.out.v.p4 hk4
  have hkI : (k : Int) < 4 := by omega
  clear f1 f2 f3 hs
  go_enter Tryd.func21, Tryd.ntmps21
  go_upto_region 1 with fail
  rw [← HW0.out, HBW.out]
  obtain ⟨q0, q1, q2, q3, q4, q5, q6, q7, q8, q9, q10⟩ := HS0.out.q
  have fq0 := HS0.out.box.free 0
  have fq1 := HS0.out.box.free 1
  have fq2 := HS0.out.box.free 2
  have fq3 := HS0.out.box.free 3
  have fq4 := HS0.out.box.free 4
  have fq5 := HS0.out.box.free 5
  have fq6 := HS0.out.box.free 6
  have fq7 := HS0.out.box.free 7
  have fq8 := HS0.out.box.free 8
  have fq9 := HS0.out.box.free 9
  have fq10 := HS0.out.box.free 10
  obtain ⟨r0, r1, r2, r3, r4, r5, r6, r7, r8, r9, r10⟩ := HS0.out.r
  have fr0 := HS0.out.res.free 0
  have fr1 := HS0.out.res.free 1
  have fr2 := HS0.out.res.free 2
  have fr3 := HS0.out.res.free 3
  have fr4 := HS0.out.res.free 4
  have fr5 := HS0.out.res.free 5
  have fr6 := HS0.out.res.free 6
  have fr7 := HS0.out.res.free 7
  have fr8 := HS0.out.res.free 8
  have fr9 := HS0.out.res.free 9
  have fr10 := HS0.out.res.free 10
  go_upto_region 7 with (go_at_call 26; (with_reducible refine (HI1.out _).mono ?_); rintro e w' ⟨rfl, rfl⟩)
  go_still_tail 12, (by kernel_rfl)
  clear hct h8 h44
  clear q0 fq0 r0 fr0 q1 fq1 r1 fr1 q2 fq2 r2 fr2 q3 fq3 r3 fr3 q4 fq4 r4 fr4 q5 fq5 r5 fr5 q6 fq6 r6 fr6 q7 fq7 r7 fr7 q8 fq8 r8 fr8 q9 fq9 r9 fr9 q10 fq10 r10 fr10
  have hdWD := HS0.out.call (Below.refl W0.heap.size W0).drew
  change wpList _ _ _ _ _ W0.drew
  obtain ⟨WD, hWWD⟩ : ∃ X, X = W0.drew := ⟨_, rfl⟩
  rw [← hWWD] at hdWD ⊢
  have HSD := Lib.hid hdWD
  clear hdWD hWWD
  obtain ⟨q0, q1, q2, q3, q4, q5, q6, q7, q8, q9, q10⟩ := HSD.out.q
  have fq0 := HSD.out.box.free 0
  have fq1 := HSD.out.box.free 1
  have fq2 := HSD.out.box.free 2
  have fq3 := HSD.out.box.free 3
  have fq4 := HSD.out.box.free 4
  have fq5 := HSD.out.box.free 5
  have fq6 := HSD.out.box.free 6
  have fq7 := HSD.out.box.free 7
  have fq8 := HSD.out.box.free 8
  have fq9 := HSD.out.box.free 9
  have fq10 := HSD.out.box.free 10
  obtain ⟨r0, r1, r2, r3, r4, r5, r6, r7, r8, r9, r10⟩ := HSD.out.r
  have fr0 := HSD.out.res.free 0
  have fr1 := HSD.out.res.free 1
  have fr2 := HSD.out.res.free 2
  have fr3 := HSD.out.res.free 3
  have fr4 := HSD.out.res.free 4
  have fr5 := HSD.out.res.free 5
  have fr6 := HSD.out.res.free 6
  have fr7 := HSD.out.res.free 7
  have fr8 := HSD.out.res.free 8
  have fr9 := HSD.out.res.free 9
  have fr10 := HSD.out.res.free 10
  go_upto_region 8 with (go_at_call 27; (with_reducible refine (set_nm (v.nx k) HSD.out.hF HSD.out.v.p10 hq (by omega)).mono ?_); rintro e w1 ⟨E1, e1, rfl, hn, hb⟩; have HN1 := Lib.hid hn; have HC1 := Lib.hid (HSD.out.call hb); have qd := HC1.out.q.2.2.2.2.2.2.2.2.2.2; have fd1 := HC1.out.box.free 10; clear hn hb)
  clear q0 fq0 r0 fr0 q1 fq1 r1 fr1 q2 fq2 r2 fr2 q3 fq3 r3 fr3 q4 fq4 r4 fr4 q5 fq5 r5 fr5 q6 fq6 r6 fr6 q7 fq7 r7 fr7 q8 fq8 r8 fr8 q9 fq9 r9 fr9 q10 fq10 r10 fr10
  clear qd fd1
  have hs1 := HC1.out.put10 (nm_stb _ _) HN1.out
  obtain ⟨V1, hV1⟩ : ∃ V, V = w1.setCell ⟨b, 10, none⟩ (.slice E1 n e1) := ⟨_, rfl⟩
  rw [← hV1] at hs1 ⊢
  have HS1 := Lib.hid hs1
  clear hs1 hV1 HC1 HN1
  obtain ⟨q0, q1, q2, q3, q4, q5, q6, q7, q8, q9, q10⟩ := HS1.out.q
  have fq0 := HS1.out.box.free 0
  have fq1 := HS1.out.box.free 1
  have fq2 := HS1.out.box.free 2
  have fq3 := HS1.out.box.free 3
  have fq4 := HS1.out.box.free 4
  have fq5 := HS1.out.box.free 5
  have fq6 := HS1.out.box.free 6
  have fq7 := HS1.out.box.free 7
  have fq8 := HS1.out.box.free 8
  have fq9 := HS1.out.box.free 9
  have fq10 := HS1.out.box.free 10
  obtain ⟨r0, r1, r2, r3, r4, r5, r6, r7, r8, r9, r10⟩ := HS1.out.r
  have fr0 := HS1.out.res.free 0
  have fr1 := HS1.out.res.free 1
  have fr2 := HS1.out.res.free 2
  have fr3 := HS1.out.res.free 3
  have fr4 := HS1.out.res.free 4
  have fr5 := HS1.out.res.free 5
  have fr6 := HS1.out.res.free 6
  have fr7 := HS1.out.res.free 7
  have fr8 := HS1.out.res.free 8
  have fr9 := HS1.out.res.free 9
  have fr10 := HS1.out.res.free 10
  go_upto_region 9 with (go_at_call 27; (with_reducible refine (set_nm 5 HS1.out.hF HS1.out.v.p6 hq (by omega)).mono ?_); rintro e w2 ⟨E2, e2, rfl, hn, hb⟩; have HN2 := Lib.hid hn; have HC2 := Lib.hid (HS1.out.call hb); have qd := HC2.out.q.2.2.2.2.2.2.1; have fd2 := HC2.out.box.free 6; clear hn hb)
  clear q0 fq0 r0 fr0 q1 fq1 r1 fr1 q2 fq2 r2 fr2 q3 fq3 r3 fr3 q4 fq4 r4 fr4 q5 fq5 r5 fr5 q6 fq6 r6 fr6 q7 fq7 r7 fr7 q8 fq8 r8 fr8 q9 fq9 r9 fr9 q10 fq10 r10 fr10
  clear qd fd2
  have hs2 := HC2.out.put6 (nm_stb _ _) HN2.out
  obtain ⟨V2, hV2⟩ : ∃ V, V = w2.setCell ⟨b, 6, none⟩ (.slice E2 n e2) := ⟨_, rfl⟩
  rw [← hV2] at hs2 ⊢
  have HS2 := Lib.hid hs2
  clear hs2 hV2 HC2 HN2
  obtain ⟨q0, q1, q2, q3, q4, q5, q6, q7, q8, q9, q10⟩ := HS2.out.q
  have fq0 := HS2.out.box.free 0
  have fq1 := HS2.out.box.free 1
  have fq2 := HS2.out.box.free 2
  have fq3 := HS2.out.box.free 3
  have fq4 := HS2.out.box.free 4
  have fq5 := HS2.out.box.free 5
  have fq6 := HS2.out.box.free 6
  have fq7 := HS2.out.box.free 7
  have fq8 := HS2.out.box.free 8
  have fq9 := HS2.out.box.free 9
  have fq10 := HS2.out.box.free 10
  obtain ⟨r0, r1, r2, r3, r4, r5, r6, r7, r8, r9, r10⟩ := HS2.out.r
  have fr0 := HS2.out.res.free 0
  have fr1 := HS2.out.res.free 1
  have fr2 := HS2.out.res.free 2
  have fr3 := HS2.out.res.free 3
  have fr4 := HS2.out.res.free 4
  have fr5 := HS2.out.res.free 5
  have fr6 := HS2.out.res.free 6
  have fr7 := HS2.out.res.free 7
  have fr8 := HS2.out.res.free 8
  have fr9 := HS2.out.res.free 9
  have fr10 := HS2.out.res.free 10
  go_wp2
  have hrv := HS2.out.told.2.2
  rw [rput_cast (y := 5) (z := 5) rfl] at hrv
  refine bodyPost_ret (v := .tuple _) (results_cell4 rfl _ _ (b + 1) 54 _ (0, 0) _ rfl HS2.out.told.1 Tryd.underlying54 rfl (by kernel_rfl)) rfl (StpT.of ⟨_, _, _, _, _, _, _, _, _, _, _, _, _, _, _, rfl, ⟨hrv, RK.other (q := q) HF.out (fun p e => ⟨rput_other e, rfl, rfl, rfl, rput_other e⟩) (fun p e => ⟨rfl, rfl, rfl, rput_other e⟩) ?_⟩, HS2.out.told.2.1⟩)
  have ea : (kat { v with sx := rput v.sx q (v.nx k) } q 5).a q = 5 := rput_same _ _ _
  have es : (kat { v with sx := rput v.sx q (v.nx k) } q 5).sx q = v.nx k := rput_same _ _ _
  rw [ea, es, rput_same]
  exact ⟨fun h => (by omega), fun _ => (HF.out q hq).2.1 (by omega), fun _ => rfl⟩
set_option maxHeartbeats 8000000 in
set_option maxRecDepth 100000 in
theorem s1 {F : Nat → Prop} {n : Nat} {tg : Bool} {v : KS} {v0 v1 v2 v3 v4 v5 v6 v7 v8 v9 v10 : Value} {fm fn ft fx : Nat → Int} (w : World) (h : RK F w n tg v v0 v1 v2 v3 v4 v5 v6 v7 v8 v9 v10 fm fn ft fx) (hF : ∀ b, F b → b < w.heap.size) (h1 : 1 ≤ n) (h4 : n ≤ 4) {q : Nat} (hq : q < n) (ha : v.a q = 1) (hm : v.m q < 4) :
    Calls Tryd.prog 21 #[.agg #[v0, v1, v2, v3, v4, v5, v6, v7, v8, v9, v10], .int .i64 (q : Int)] w fun e w' => StpT F w w' n tg false (0) (0) (kdo1 v q) e := by
  have e0 : v0 = .bool tg := h.rv.p0
  have e1 : v1 = .int .i64 v.tn := h.rv.p1
  have e2 : v2 = .int .i64 v.tt := h.rv.p2
  subst e0 e1 e2
  obtain ⟨A3, c3, rfl⟩ := SL.form h.rv.p3
  obtain ⟨A4, c4, rfl⟩ := SL.form h.rv.p4
  obtain ⟨A5, c5, rfl⟩ := SL.form h.rv.p5
  obtain ⟨A6, c6, rfl⟩ := SL.form h.rv.p6
  obtain ⟨A7, c7, rfl⟩ := SL.form h.rv.p7
  obtain ⟨A8, c8, rfl⟩ := SL.form h.rv.p8
  obtain ⟨A9, c9, rfl⟩ := SL.form h.rv.p9
  obtain ⟨A10, c10, rfl⟩ := SL.form h.rv.p10
  have hst := RS.start h.rv hF
  obtain ⟨b, hb⟩ : ∃ b, b = w.heap.size := ⟨_, rfl⟩
  obtain ⟨W0, hW0⟩ : ∃ W0, W0 = (w.alloc (.cells #[.bool tg, .int .i64 v.tn, .int .i64 v.tt, .slice A3 4 c3, .slice A4 4 c4, .slice A5 4 c5, .slice A6 n c6, .slice A7 n c7, .slice A8 n c8, .slice A9 n c9, .slice A10 n c10] 54)).alloc (.cells #[.bool false, .int .i64 0, .int .i64 0, .slice none 0 0, .slice none 0 0, .slice none 0 0, .slice none 0 0, .slice none 0 0, .slice none 0 0, .slice none 0 0, .slice none 0 0] 54) := ⟨_, rfl⟩
  rw [← hW0, ← hb] at hst
  have HS0 := Lib.hid hst
  have hwn : IntKind.i64.wrap ((n : Int) - 1) = (n : Int) - 1 := IntWalk.i64_in _ (by omega)
  have HW0 := Lib.hid hW0
  have HBW := Lib.hid hb.symm
  have HF := Lib.hid h.f
  have HRV := Lib.hid h.rv
  clear hst h hF hb hW0
  have HI1 := Lib.hid (inW_any q 0 ((n : Int) - 1) true (decide_eq_true (by omega)))
  have hqI : (q : Int) < n := by omega
  obtain ⟨bt, ot, rfl, _, _, hct⟩ := nm_at HS0.out.v.p6 hq
  rw [ha] at hct
  obtain ⟨f1, f2, f3⟩ := HF.out q hq
  have hs := f1 (by omega)
  have hkI : (v.m q : Int) < 4 := by omega
  clear f1 f2 f3
  go_enter Tryd.func21, Tryd.ntmps21
  go_upto_region 1 with fail
  rw [← HW0.out, HBW.out]
  obtain ⟨q0, q1, q2, q3, q4, q5, q6, q7, q8, q9, q10⟩ := HS0.out.q
  have fq0 := HS0.out.box.free 0
  have fq1 := HS0.out.box.free 1
  have fq2 := HS0.out.box.free 2
  have fq3 := HS0.out.box.free 3
  have fq4 := HS0.out.box.free 4
  have fq5 := HS0.out.box.free 5
  have fq6 := HS0.out.box.free 6
  have fq7 := HS0.out.box.free 7
  have fq8 := HS0.out.box.free 8
  have fq9 := HS0.out.box.free 9
  have fq10 := HS0.out.box.free 10
  obtain ⟨r0, r1, r2, r3, r4, r5, r6, r7, r8, r9, r10⟩ := HS0.out.r
  have fr0 := HS0.out.res.free 0
  have fr1 := HS0.out.res.free 1
  have fr2 := HS0.out.res.free 2
  have fr3 := HS0.out.res.free 3
  have fr4 := HS0.out.res.free 4
  have fr5 := HS0.out.res.free 5
  have fr6 := HS0.out.res.free 6
  have fr7 := HS0.out.res.free 7
  have fr8 := HS0.out.res.free 8
  have fr9 := HS0.out.res.free 9
  have fr10 := HS0.out.res.free 10
  go_upto_region 12 with (first | (go_at_call 26; (with_reducible refine (HI1.out _).mono ?_); rintro e w' ⟨rfl, rfl⟩) | (go_at_call 27; (with_reducible refine (set_nm v.tn HS0.out.hF HS0.out.v.p8 hq (by omega)).mono ?_); rintro e w1 ⟨E1, e1, rfl, hn, hb⟩; have HN1 := Lib.hid hn; have HC1 := Lib.hid (HS0.out.call hb); have qd := HC1.out.q.2.2.2.2.2.2.2.2.1; have fd1 := HC1.out.box.free 8; clear hn hb))
  clear hct
  clear q0 fq0 r0 fr0 q1 fq1 r1 fr1 q2 fq2 r2 fr2 q3 fq3 r3 fr3 q4 fq4 r4 fr4 q5 fq5 r5 fr5 q6 fq6 r6 fr6 q7 fq7 r7 fr7 q8 fq8 r8 fr8 q9 fq9 r9 fr9 q10 fq10 r10 fr10
  clear qd fd1
  have hs1 := HC1.out.put8 (nm_stb _ _) HN1.out
  obtain ⟨V1, hV1⟩ : ∃ V, V = w1.setCell ⟨b, 8, none⟩ (.slice E1 n e1) := ⟨_, rfl⟩
  rw [← hV1] at hs1 ⊢
  have HS1 := Lib.hid hs1
  clear hs1 hV1 HC1 HN1
  obtain ⟨q0, q1, q2, q3, q4, q5, q6, q7, q8, q9, q10⟩ := HS1.out.q
  have fq0 := HS1.out.box.free 0
  have fq1 := HS1.out.box.free 1
  have fq2 := HS1.out.box.free 2
  have fq3 := HS1.out.box.free 3
  have fq4 := HS1.out.box.free 4
  have fq5 := HS1.out.box.free 5
  have fq6 := HS1.out.box.free 6
  have fq7 := HS1.out.box.free 7
  have fq8 := HS1.out.box.free 8
  have fq9 := HS1.out.box.free 9
  have fq10 := HS1.out.box.free 10
  obtain ⟨r0, r1, r2, r3, r4, r5, r6, r7, r8, r9, r10⟩ := HS1.out.r
  have fr0 := HS1.out.res.free 0
  have fr1 := HS1.out.res.free 1
  have fr2 := HS1.out.res.free 2
  have fr3 := HS1.out.res.free 3
  have fr4 := HS1.out.res.free 4
  have fr5 := HS1.out.res.free 5
  have fr6 := HS1.out.res.free 6
  have fr7 := HS1.out.res.free 7
  have fr8 := HS1.out.res.free 8
  have fr9 := HS1.out.res.free 9
  have fr10 := HS1.out.res.free 10
  go_upto_region 13 with (go_at_call 27; (with_reducible refine (set_nm v.tt HS1.out.hF HS1.out.v.p9 hq (by omega)).mono ?_); rintro e w2 ⟨E2, e2, rfl, hn, hb⟩; have HN2 := Lib.hid hn; have HC2 := Lib.hid (HS1.out.call hb); have qd := HC2.out.q.2.2.2.2.2.2.2.2.2.1; have fd2 := HC2.out.box.free 9; clear hn hb)
  clear q0 fq0 r0 fr0 q1 fq1 r1 fr1 q2 fq2 r2 fr2 q3 fq3 r3 fr3 q4 fq4 r4 fr4 q5 fq5 r5 fr5 q6 fq6 r6 fr6 q7 fq7 r7 fr7 q8 fq8 r8 fr8 q9 fq9 r9 fr9 q10 fq10 r10 fr10
  clear qd fd2
  have hs2 := HC2.out.put9 (nm_stb _ _) HN2.out
  obtain ⟨V2, hV2⟩ : ∃ V, V = w2.setCell ⟨b, 9, none⟩ (.slice E2 n e2) := ⟨_, rfl⟩
  rw [← hV2] at hs2 ⊢
  have HS2 := Lib.hid hs2
  clear hs2 hV2 HC2 HN2
  obtain ⟨q0, q1, q2, q3, q4, q5, q6, q7, q8, q9, q10⟩ := HS2.out.q
  have fq0 := HS2.out.box.free 0
  have fq1 := HS2.out.box.free 1
  have fq2 := HS2.out.box.free 2
  have fq3 := HS2.out.box.free 3
  have fq4 := HS2.out.box.free 4
  have fq5 := HS2.out.box.free 5
  have fq6 := HS2.out.box.free 6
  have fq7 := HS2.out.box.free 7
  have fq8 := HS2.out.box.free 8
  have fq9 := HS2.out.box.free 9
  have fq10 := HS2.out.box.free 10
  obtain ⟨r0, r1, r2, r3, r4, r5, r6, r7, r8, r9, r10⟩ := HS2.out.r
  have fr0 := HS2.out.res.free 0
  have fr1 := HS2.out.res.free 1
  have fr2 := HS2.out.res.free 2
  have fr3 := HS2.out.res.free 3
  have fr4 := HS2.out.res.free 4
  have fr5 := HS2.out.res.free 5
  have fr6 := HS2.out.res.free 6
  have fr7 := HS2.out.res.free 7
  have fr8 := HS2.out.res.free 8
  have fr9 := HS2.out.res.free 9
  have fr10 := HS2.out.res.free 10
  obtain ⟨b7, o7, rfl, _, _, h7⟩ := nm_at HS2.out.v.p7 hq
  rw [hs] at h7
  go_upto_region 14 with fail
  go_still_tail 9, (by kernel_rfl)
  clear h7
  clear q0 fq0 r0 fr0 q1 fq1 r1 fr1 q2 fq2 r2 fr2 q3 fq3 r3 fr3 q4 fq4 r4 fr4 q5 fq5 r5 fr5 q6 fq6 r6 fr6 q7 fq7 r7 fr7 q8 fq8 r8 fr8 q9 fq9 r9 fr9 q10 fq10 r10 fr10
  have hdWD := HS2.out.call (Below.refl V2.heap.size V2).drew
  change wpList _ _ _ _ _ V2.drew
  obtain ⟨WD, hWWD⟩ : ∃ X, X = V2.drew := ⟨_, rfl⟩
  rw [← hWWD] at hdWD ⊢
  have HSD := Lib.hid hdWD
  clear hdWD hWWD
  obtain ⟨q0, q1, q2, q3, q4, q5, q6, q7, q8, q9, q10⟩ := HSD.out.q
  have fq0 := HSD.out.box.free 0
  have fq1 := HSD.out.box.free 1
  have fq2 := HSD.out.box.free 2
  have fq3 := HSD.out.box.free 3
  have fq4 := HSD.out.box.free 4
  have fq5 := HSD.out.box.free 5
  have fq6 := HSD.out.box.free 6
  have fq7 := HSD.out.box.free 7
  have fq8 := HSD.out.box.free 8
  have fq9 := HSD.out.box.free 9
  have fq10 := HSD.out.box.free 10
  obtain ⟨r0, r1, r2, r3, r4, r5, r6, r7, r8, r9, r10⟩ := HSD.out.r
  have fr0 := HSD.out.res.free 0
  have fr1 := HSD.out.res.free 1
  have fr2 := HSD.out.res.free 2
  have fr3 := HSD.out.res.free 3
  have fr4 := HSD.out.res.free 4
  have fr5 := HSD.out.res.free 5
  have fr6 := HSD.out.res.free 6
  have fr7 := HSD.out.res.free 7
  have fr8 := HSD.out.res.free 8
  have fr9 := HSD.out.res.free 9
  have fr10 := HSD.out.res.free 10
  go_upto_region 18 with (go_at_call 27; (with_reducible refine (set_nm v.tn HSD.out.hF HSD.out.v.p4 hm (by omega)).mono ?_); rintro e w3 ⟨E3, e3, rfl, hn, hb⟩; have HN3 := Lib.hid hn; have HC3 := Lib.hid (HSD.out.call hb); have qd := HC3.out.q.2.2.2.2.1; have fd3 := HC3.out.box.free 4; clear hn hb)
  clear q0 fq0 r0 fr0 q1 fq1 r1 fr1 q2 fq2 r2 fr2 q3 fq3 r3 fr3 q4 fq4 r4 fr4 q5 fq5 r5 fr5 q6 fq6 r6 fr6 q7 fq7 r7 fr7 q8 fq8 r8 fr8 q9 fq9 r9 fr9 q10 fq10 r10 fr10
  clear qd fd3
  have hs3 := HC3.out.put4 (nm_stb _ _) HN3.out
  obtain ⟨V3, hV3⟩ : ∃ V, V = w3.setCell ⟨b, 4, none⟩ (.slice E3 4 e3) := ⟨_, rfl⟩
  rw [← hV3] at hs3 ⊢
  have HS3 := Lib.hid hs3
  clear hs3 hV3 HC3 HN3
  obtain ⟨q0, q1, q2, q3, q4, q5, q6, q7, q8, q9, q10⟩ := HS3.out.q
  have fq0 := HS3.out.box.free 0
  have fq1 := HS3.out.box.free 1
  have fq2 := HS3.out.box.free 2
  have fq3 := HS3.out.box.free 3
  have fq4 := HS3.out.box.free 4
  have fq5 := HS3.out.box.free 5
  have fq6 := HS3.out.box.free 6
  have fq7 := HS3.out.box.free 7
  have fq8 := HS3.out.box.free 8
  have fq9 := HS3.out.box.free 9
  have fq10 := HS3.out.box.free 10
  obtain ⟨r0, r1, r2, r3, r4, r5, r6, r7, r8, r9, r10⟩ := HS3.out.r
  have fr0 := HS3.out.res.free 0
  have fr1 := HS3.out.res.free 1
  have fr2 := HS3.out.res.free 2
  have fr3 := HS3.out.res.free 3
  have fr4 := HS3.out.res.free 4
  have fr5 := HS3.out.res.free 5
  have fr6 := HS3.out.res.free 6
  have fr7 := HS3.out.res.free 7
  have fr8 := HS3.out.res.free 8
  have fr9 := HS3.out.res.free 9
  have fr10 := HS3.out.res.free 10
  go_upto_region 19 with (go_at_call 27; (with_reducible refine (set_nm 2 HS3.out.hF HS3.out.v.p6 hq (by omega)).mono ?_); rintro e w4 ⟨E4, e4, rfl, hn, hb⟩; have HN4 := Lib.hid hn; have HC4 := Lib.hid (HS3.out.call hb); have qd := HC4.out.q.2.2.2.2.2.2.1; have fd4 := HC4.out.box.free 6; clear hn hb)
  clear q0 fq0 r0 fr0 q1 fq1 r1 fr1 q2 fq2 r2 fr2 q3 fq3 r3 fr3 q4 fq4 r4 fr4 q5 fq5 r5 fr5 q6 fq6 r6 fr6 q7 fq7 r7 fr7 q8 fq8 r8 fr8 q9 fq9 r9 fr9 q10 fq10 r10 fr10
  clear qd fd4
  have hs4 := HC4.out.put6 (nm_stb _ _) HN4.out
  obtain ⟨V4, hV4⟩ : ∃ V, V = w4.setCell ⟨b, 6, none⟩ (.slice E4 n e4) := ⟨_, rfl⟩
  rw [← hV4] at hs4 ⊢
  have HS4 := Lib.hid hs4
  clear hs4 hV4 HC4 HN4
  obtain ⟨q0, q1, q2, q3, q4, q5, q6, q7, q8, q9, q10⟩ := HS4.out.q
  have fq0 := HS4.out.box.free 0
  have fq1 := HS4.out.box.free 1
  have fq2 := HS4.out.box.free 2
  have fq3 := HS4.out.box.free 3
  have fq4 := HS4.out.box.free 4
  have fq5 := HS4.out.box.free 5
  have fq6 := HS4.out.box.free 6
  have fq7 := HS4.out.box.free 7
  have fq8 := HS4.out.box.free 8
  have fq9 := HS4.out.box.free 9
  have fq10 := HS4.out.box.free 10
  obtain ⟨r0, r1, r2, r3, r4, r5, r6, r7, r8, r9, r10⟩ := HS4.out.r
  have fr0 := HS4.out.res.free 0
  have fr1 := HS4.out.res.free 1
  have fr2 := HS4.out.res.free 2
  have fr3 := HS4.out.res.free 3
  have fr4 := HS4.out.res.free 4
  have fr5 := HS4.out.res.free 5
  have fr6 := HS4.out.res.free 6
  have fr7 := HS4.out.res.free 7
  have fr8 := HS4.out.res.free 8
  have fr9 := HS4.out.res.free 9
  have fr10 := HS4.out.res.free 10
  go_wp2
  have hrv := HS4.out.told.2.2
  rw [rput_cast (y := 2) (z := 2) rfl] at hrv
  refine bodyPost_ret (v := .tuple _) (results_cell4 rfl _ _ (b + 1) 54 _ (0, 0) _ rfl HS4.out.told.1 Tryd.underlying54 rfl (by kernel_rfl)) rfl (StpT.of ⟨_, _, _, _, _, _, _, _, _, _, _, _, _, _, _, rfl, ⟨hrv, RK.other (q := q) HF.out (fun p e => ⟨rput_other e, rfl, rput_other e, rput_other e, rfl⟩) (fun p e => ⟨rfl, rput_other e, rput_other e, rfl⟩) ?_⟩, HS4.out.told.2.1⟩)
  have ea : (kdo1 v q).a q = 2 := rput_same _ _ _
  have es : (kdo1 v q).sn q = v.tn := rput_same _ _ _
  have et : (kdo1 v q).st q = v.tt := rput_same _ _ _
  rw [ea, es, et, rput_same, rput_same]
  exact ⟨fun _ => hs, fun _ => ⟨rfl, rfl⟩, fun h => (by omega)⟩
set_option maxHeartbeats 8000000 in
set_option maxRecDepth 100000 in
theorem s3y {F : Nat → Prop} {n : Nat} {tg : Bool} {v : KS} {v0 v1 v2 v3 v4 v5 v6 v7 v8 v9 v10 : Value} {fm fn ft fx : Nat → Int} (w : World) (h : RK F w n tg v v0 v1 v2 v3 v4 v5 v6 v7 v8 v9 v10 fm fn ft fx) (hF : ∀ b, F b → b < w.heap.size) (h1 : 1 ≤ n) (h4 : n ≤ 4) {q : Nat} (hq : q < n) (ha : v.a q = 3) (ht : v.tn = -1) :
    Calls Tryd.prog 21 #[.agg #[v0, v1, v2, v3, v4, v5, v6, v7, v8, v9, v10], .int .i64 (q : Int)] w fun e w' => StpT F w w' n tg true (-1) (0) (kclr (ksee v q) q 0 0) e := by
  have e0 : v0 = .bool tg := h.rv.p0
  have e1 : v1 = .int .i64 v.tn := h.rv.p1
  have e2 : v2 = .int .i64 v.tt := h.rv.p2
  subst e0 e1 e2
  obtain ⟨A3, c3, rfl⟩ := SL.form h.rv.p3
  obtain ⟨A4, c4, rfl⟩ := SL.form h.rv.p4
  obtain ⟨A5, c5, rfl⟩ := SL.form h.rv.p5
  obtain ⟨A6, c6, rfl⟩ := SL.form h.rv.p6
  obtain ⟨A7, c7, rfl⟩ := SL.form h.rv.p7
  obtain ⟨A8, c8, rfl⟩ := SL.form h.rv.p8
  obtain ⟨A9, c9, rfl⟩ := SL.form h.rv.p9
  obtain ⟨A10, c10, rfl⟩ := SL.form h.rv.p10
  have hst := RS.start h.rv hF
  obtain ⟨b, hb⟩ : ∃ b, b = w.heap.size := ⟨_, rfl⟩
  obtain ⟨W0, hW0⟩ : ∃ W0, W0 = (w.alloc (.cells #[.bool tg, .int .i64 v.tn, .int .i64 v.tt, .slice A3 4 c3, .slice A4 4 c4, .slice A5 4 c5, .slice A6 n c6, .slice A7 n c7, .slice A8 n c8, .slice A9 n c9, .slice A10 n c10] 54)).alloc (.cells #[.bool false, .int .i64 0, .int .i64 0, .slice none 0 0, .slice none 0 0, .slice none 0 0, .slice none 0 0, .slice none 0 0, .slice none 0 0, .slice none 0 0, .slice none 0 0] 54) := ⟨_, rfl⟩
  rw [← hW0, ← hb] at hst
  have HS0 := Lib.hid hst
  have hwn : IntKind.i64.wrap ((n : Int) - 1) = (n : Int) - 1 := IntWalk.i64_in _ (by omega)
  have HW0 := Lib.hid hW0
  have HBW := Lib.hid hb.symm
  have HF := Lib.hid h.f
  have HRV := Lib.hid h.rv
  clear hst h hF hb hW0
  have HI1 := Lib.hid (inW_any q 0 ((n : Int) - 1) true (decide_eq_true (by omega)))
  have hqI : (q : Int) < n := by omega
  obtain ⟨bt, ot, rfl, _, _, hct⟩ := nm_at HS0.out.v.p6 hq
  rw [ha] at hct
  have hI : decide (v.tn < 0) = true := decide_eq_true (by omega)
  have hJ : v.tn < 0 := by omega
  clear ht
  go_enter Tryd.func21, Tryd.ntmps21
  go_upto_region 1 with fail
  rw [← HW0.out, HBW.out]
  obtain ⟨q0, q1, q2, q3, q4, q5, q6, q7, q8, q9, q10⟩ := HS0.out.q
  have fq0 := HS0.out.box.free 0
  have fq1 := HS0.out.box.free 1
  have fq2 := HS0.out.box.free 2
  have fq3 := HS0.out.box.free 3
  have fq4 := HS0.out.box.free 4
  have fq5 := HS0.out.box.free 5
  have fq6 := HS0.out.box.free 6
  have fq7 := HS0.out.box.free 7
  have fq8 := HS0.out.box.free 8
  have fq9 := HS0.out.box.free 9
  have fq10 := HS0.out.box.free 10
  obtain ⟨r0, r1, r2, r3, r4, r5, r6, r7, r8, r9, r10⟩ := HS0.out.r
  have fr0 := HS0.out.res.free 0
  have fr1 := HS0.out.res.free 1
  have fr2 := HS0.out.res.free 2
  have fr3 := HS0.out.res.free 3
  have fr4 := HS0.out.res.free 4
  have fr5 := HS0.out.res.free 5
  have fr6 := HS0.out.res.free 6
  have fr7 := HS0.out.res.free 7
  have fr8 := HS0.out.res.free 8
  have fr9 := HS0.out.res.free 9
  have fr10 := HS0.out.res.free 10
  go_upto_region 12 with (first | (go_at_call 26; (with_reducible refine (HI1.out _).mono ?_); rintro e w' ⟨rfl, rfl⟩) | (go_at_call 27; (with_reducible refine (set_nm v.tn HS0.out.hF HS0.out.v.p8 hq (by omega)).mono ?_); rintro e w1 ⟨E1, e1, rfl, hn, hb⟩; have HN1 := Lib.hid hn; have HC1 := Lib.hid (HS0.out.call hb); have qd := HC1.out.q.2.2.2.2.2.2.2.2.1; have fd1 := HC1.out.box.free 8; clear hn hb))
  clear hct
  clear q0 fq0 r0 fr0 q1 fq1 r1 fr1 q2 fq2 r2 fr2 q3 fq3 r3 fr3 q4 fq4 r4 fr4 q5 fq5 r5 fr5 q6 fq6 r6 fr6 q7 fq7 r7 fr7 q8 fq8 r8 fr8 q9 fq9 r9 fr9 q10 fq10 r10 fr10
  clear qd fd1
  have hs1 := HC1.out.put8 (nm_stb _ _) HN1.out
  obtain ⟨V1, hV1⟩ : ∃ V, V = w1.setCell ⟨b, 8, none⟩ (.slice E1 n e1) := ⟨_, rfl⟩
  rw [← hV1] at hs1 ⊢
  have HS1 := Lib.hid hs1
  clear hs1 hV1 HC1 HN1
  obtain ⟨q0, q1, q2, q3, q4, q5, q6, q7, q8, q9, q10⟩ := HS1.out.q
  have fq0 := HS1.out.box.free 0
  have fq1 := HS1.out.box.free 1
  have fq2 := HS1.out.box.free 2
  have fq3 := HS1.out.box.free 3
  have fq4 := HS1.out.box.free 4
  have fq5 := HS1.out.box.free 5
  have fq6 := HS1.out.box.free 6
  have fq7 := HS1.out.box.free 7
  have fq8 := HS1.out.box.free 8
  have fq9 := HS1.out.box.free 9
  have fq10 := HS1.out.box.free 10
  obtain ⟨r0, r1, r2, r3, r4, r5, r6, r7, r8, r9, r10⟩ := HS1.out.r
  have fr0 := HS1.out.res.free 0
  have fr1 := HS1.out.res.free 1
  have fr2 := HS1.out.res.free 2
  have fr3 := HS1.out.res.free 3
  have fr4 := HS1.out.res.free 4
  have fr5 := HS1.out.res.free 5
  have fr6 := HS1.out.res.free 6
  have fr7 := HS1.out.res.free 7
  have fr8 := HS1.out.res.free 8
  have fr9 := HS1.out.res.free 9
  have fr10 := HS1.out.res.free 10
  go_upto_region 13 with (go_at_call 27; (with_reducible refine (set_nm v.tt HS1.out.hF HS1.out.v.p9 hq (by omega)).mono ?_); rintro e w2 ⟨E2, e2, rfl, hn, hb⟩; have HN2 := Lib.hid hn; have HC2 := Lib.hid (HS1.out.call hb); have qd := HC2.out.q.2.2.2.2.2.2.2.2.2.1; have fd2 := HC2.out.box.free 9; clear hn hb)
  clear q0 fq0 r0 fr0 q1 fq1 r1 fr1 q2 fq2 r2 fr2 q3 fq3 r3 fr3 q4 fq4 r4 fr4 q5 fq5 r5 fr5 q6 fq6 r6 fr6 q7 fq7 r7 fr7 q8 fq8 r8 fr8 q9 fq9 r9 fr9 q10 fq10 r10 fr10
  clear qd fd2
  have hs2 := HC2.out.put9 (nm_stb _ _) HN2.out
  obtain ⟨V2, hV2⟩ : ∃ V, V = w2.setCell ⟨b, 9, none⟩ (.slice E2 n e2) := ⟨_, rfl⟩
  rw [← hV2] at hs2 ⊢
  have HS2 := Lib.hid hs2
  clear hs2 hV2 HC2 HN2
  obtain ⟨q0, q1, q2, q3, q4, q5, q6, q7, q8, q9, q10⟩ := HS2.out.q
  have fq0 := HS2.out.box.free 0
  have fq1 := HS2.out.box.free 1
  have fq2 := HS2.out.box.free 2
  have fq3 := HS2.out.box.free 3
  have fq4 := HS2.out.box.free 4
  have fq5 := HS2.out.box.free 5
  have fq6 := HS2.out.box.free 6
  have fq7 := HS2.out.box.free 7
  have fq8 := HS2.out.box.free 8
  have fq9 := HS2.out.box.free 9
  have fq10 := HS2.out.box.free 10
  obtain ⟨r0, r1, r2, r3, r4, r5, r6, r7, r8, r9, r10⟩ := HS2.out.r
  have fr0 := HS2.out.res.free 0
  have fr1 := HS2.out.res.free 1
  have fr2 := HS2.out.res.free 2
  have fr3 := HS2.out.res.free 3
  have fr4 := HS2.out.res.free 4
  have fr5 := HS2.out.res.free 5
  have fr6 := HS2.out.res.free 6
  have fr7 := HS2.out.res.free 7
  have fr8 := HS2.out.res.free 8
  have fr9 := HS2.out.res.free 9
  have fr10 := HS2.out.res.free 10
  go_upto_region 17 with (go_at_call 27; (with_reducible refine (set_nm 0 HS2.out.hF HS2.out.v.p6 hq (by omega)).mono ?_); rintro e w3 ⟨E3, e3, rfl, hn, hb⟩; have HN3 := Lib.hid hn; have HC3 := Lib.hid (HS2.out.call hb); have qd := HC3.out.q.2.2.2.2.2.2.1; have fd3 := HC3.out.box.free 6; clear hn hb)
  clear q0 fq0 r0 fr0 q1 fq1 r1 fr1 q2 fq2 r2 fr2 q3 fq3 r3 fr3 q4 fq4 r4 fr4 q5 fq5 r5 fr5 q6 fq6 r6 fr6 q7 fq7 r7 fr7 q8 fq8 r8 fr8 q9 fq9 r9 fr9 q10 fq10 r10 fr10
  clear qd fd3
  have hs3 := HC3.out.put6 (nm_stb _ _) HN3.out
  obtain ⟨V3, hV3⟩ : ∃ V, V = w3.setCell ⟨b, 6, none⟩ (.slice E3 n e3) := ⟨_, rfl⟩
  rw [← hV3] at hs3 ⊢
  have HS3 := Lib.hid hs3
  clear hs3 hV3 HC3 HN3
  obtain ⟨q0, q1, q2, q3, q4, q5, q6, q7, q8, q9, q10⟩ := HS3.out.q
  have fq0 := HS3.out.box.free 0
  have fq1 := HS3.out.box.free 1
  have fq2 := HS3.out.box.free 2
  have fq3 := HS3.out.box.free 3
  have fq4 := HS3.out.box.free 4
  have fq5 := HS3.out.box.free 5
  have fq6 := HS3.out.box.free 6
  have fq7 := HS3.out.box.free 7
  have fq8 := HS3.out.box.free 8
  have fq9 := HS3.out.box.free 9
  have fq10 := HS3.out.box.free 10
  obtain ⟨r0, r1, r2, r3, r4, r5, r6, r7, r8, r9, r10⟩ := HS3.out.r
  have fr0 := HS3.out.res.free 0
  have fr1 := HS3.out.res.free 1
  have fr2 := HS3.out.res.free 2
  have fr3 := HS3.out.res.free 3
  have fr4 := HS3.out.res.free 4
  have fr5 := HS3.out.res.free 5
  have fr6 := HS3.out.res.free 6
  have fr7 := HS3.out.res.free 7
  have fr8 := HS3.out.res.free 8
  have fr9 := HS3.out.res.free 9
  have fr10 := HS3.out.res.free 10
  go_wp2
  have hrv := HS3.out.told.2.2
  rw [rput_cast (y := 0) (z := 0) rfl] at hrv
  refine bodyPost_ret (v := .tuple _) (results_cell4 rfl _ _ (b + 1) 54 _ (0, 0) _ rfl HS3.out.told.1 Tryd.underlying54 rfl (by kernel_rfl)) rfl (StpT.of ⟨_, _, _, _, _, _, _, _, _, _, _, _, _, _, _, rfl, ⟨hrv, RK.other (q := q) HF.out (fun p e => by have h := clr_other (ksee v q) q 0 0 e; rw [h.1, h.2.1, h.2.2.1, h.2.2.2.1, h.2.2.2.2]; exact ⟨rfl, rfl, rput_other e, rput_other e, rfl⟩) (fun p e => ⟨rfl, rput_other e, rput_other e, rfl⟩) ?_⟩, HS3.out.told.2.1⟩)
  have ea : (kclr (ksee v q) q 0 0).a q = 0 := rput_same _ _ _
  rw [ea]
  exact ⟨fun h => (by omega), fun h => (by omega), fun h => (by omega)⟩
set_option maxHeartbeats 8000000 in
set_option maxRecDepth 100000 in
theorem s3n {F : Nat → Prop} {n : Nat} {tg : Bool} {v : KS} {v0 v1 v2 v3 v4 v5 v6 v7 v8 v9 v10 : Value} {fm fn ft fx : Nat → Int} (w : World) (h : RK F w n tg v v0 v1 v2 v3 v4 v5 v6 v7 v8 v9 v10 fm fn ft fx) (hF : ∀ b, F b → b < w.heap.size) (h1 : 1 ≤ n) (h4 : n ≤ 4) {q : Nat} (hq : q < n) (ha : v.a q = 3) (ht : 0 ≤ v.tn) :
    Calls Tryd.prog 21 #[.agg #[v0, v1, v2, v3, v4, v5, v6, v7, v8, v9, v10], .int .i64 (q : Int)] w fun e w' => StpT F w w' n tg false (0) (0) (kat (ksee v q) q 4) e := by
  have e0 : v0 = .bool tg := h.rv.p0
  have e1 : v1 = .int .i64 v.tn := h.rv.p1
  have e2 : v2 = .int .i64 v.tt := h.rv.p2
  subst e0 e1 e2
  obtain ⟨A3, c3, rfl⟩ := SL.form h.rv.p3
  obtain ⟨A4, c4, rfl⟩ := SL.form h.rv.p4
  obtain ⟨A5, c5, rfl⟩ := SL.form h.rv.p5
  obtain ⟨A6, c6, rfl⟩ := SL.form h.rv.p6
  obtain ⟨A7, c7, rfl⟩ := SL.form h.rv.p7
  obtain ⟨A8, c8, rfl⟩ := SL.form h.rv.p8
  obtain ⟨A9, c9, rfl⟩ := SL.form h.rv.p9
  obtain ⟨A10, c10, rfl⟩ := SL.form h.rv.p10
  have hst := RS.start h.rv hF
  obtain ⟨b, hb⟩ : ∃ b, b = w.heap.size := ⟨_, rfl⟩
  obtain ⟨W0, hW0⟩ : ∃ W0, W0 = (w.alloc (.cells #[.bool tg, .int .i64 v.tn, .int .i64 v.tt, .slice A3 4 c3, .slice A4 4 c4, .slice A5 4 c5, .slice A6 n c6, .slice A7 n c7, .slice A8 n c8, .slice A9 n c9, .slice A10 n c10] 54)).alloc (.cells #[.bool false, .int .i64 0, .int .i64 0, .slice none 0 0, .slice none 0 0, .slice none 0 0, .slice none 0 0, .slice none 0 0, .slice none 0 0, .slice none 0 0, .slice none 0 0] 54) := ⟨_, rfl⟩
  rw [← hW0, ← hb] at hst
  have HS0 := Lib.hid hst
  have hwn : IntKind.i64.wrap ((n : Int) - 1) = (n : Int) - 1 := IntWalk.i64_in _ (by omega)
  have HW0 := Lib.hid hW0
  have HBW := Lib.hid hb.symm
  have HF := Lib.hid h.f
  have HRV := Lib.hid h.rv
  clear hst h hF hb hW0
  have HI1 := Lib.hid (inW_any q 0 ((n : Int) - 1) true (decide_eq_true (by omega)))
  have hqI : (q : Int) < n := by omega
  obtain ⟨bt, ot, rfl, _, _, hct⟩ := nm_at HS0.out.v.p6 hq
  rw [ha] at hct
  have hI : decide (v.tn < 0) = false := decide_eq_false (by omega)
  have hJ : ¬ v.tn < 0 := by omega
  clear ht
  go_enter Tryd.func21, Tryd.ntmps21
  go_upto_region 1 with fail
  rw [← HW0.out, HBW.out]
  obtain ⟨q0, q1, q2, q3, q4, q5, q6, q7, q8, q9, q10⟩ := HS0.out.q
  have fq0 := HS0.out.box.free 0
  have fq1 := HS0.out.box.free 1
  have fq2 := HS0.out.box.free 2
  have fq3 := HS0.out.box.free 3
  have fq4 := HS0.out.box.free 4
  have fq5 := HS0.out.box.free 5
  have fq6 := HS0.out.box.free 6
  have fq7 := HS0.out.box.free 7
  have fq8 := HS0.out.box.free 8
  have fq9 := HS0.out.box.free 9
  have fq10 := HS0.out.box.free 10
  obtain ⟨r0, r1, r2, r3, r4, r5, r6, r7, r8, r9, r10⟩ := HS0.out.r
  have fr0 := HS0.out.res.free 0
  have fr1 := HS0.out.res.free 1
  have fr2 := HS0.out.res.free 2
  have fr3 := HS0.out.res.free 3
  have fr4 := HS0.out.res.free 4
  have fr5 := HS0.out.res.free 5
  have fr6 := HS0.out.res.free 6
  have fr7 := HS0.out.res.free 7
  have fr8 := HS0.out.res.free 8
  have fr9 := HS0.out.res.free 9
  have fr10 := HS0.out.res.free 10
  go_upto_region 12 with (first | (go_at_call 26; (with_reducible refine (HI1.out _).mono ?_); rintro e w' ⟨rfl, rfl⟩) | (go_at_call 27; (with_reducible refine (set_nm v.tn HS0.out.hF HS0.out.v.p8 hq (by omega)).mono ?_); rintro e w1 ⟨E1, e1, rfl, hn, hb⟩; have HN1 := Lib.hid hn; have HC1 := Lib.hid (HS0.out.call hb); have qd := HC1.out.q.2.2.2.2.2.2.2.2.1; have fd1 := HC1.out.box.free 8; clear hn hb))
  clear hct
  clear q0 fq0 r0 fr0 q1 fq1 r1 fr1 q2 fq2 r2 fr2 q3 fq3 r3 fr3 q4 fq4 r4 fr4 q5 fq5 r5 fr5 q6 fq6 r6 fr6 q7 fq7 r7 fr7 q8 fq8 r8 fr8 q9 fq9 r9 fr9 q10 fq10 r10 fr10
  clear qd fd1
  have hs1 := HC1.out.put8 (nm_stb _ _) HN1.out
  obtain ⟨V1, hV1⟩ : ∃ V, V = w1.setCell ⟨b, 8, none⟩ (.slice E1 n e1) := ⟨_, rfl⟩
  rw [← hV1] at hs1 ⊢
  have HS1 := Lib.hid hs1
  clear hs1 hV1 HC1 HN1
  obtain ⟨q0, q1, q2, q3, q4, q5, q6, q7, q8, q9, q10⟩ := HS1.out.q
  have fq0 := HS1.out.box.free 0
  have fq1 := HS1.out.box.free 1
  have fq2 := HS1.out.box.free 2
  have fq3 := HS1.out.box.free 3
  have fq4 := HS1.out.box.free 4
  have fq5 := HS1.out.box.free 5
  have fq6 := HS1.out.box.free 6
  have fq7 := HS1.out.box.free 7
  have fq8 := HS1.out.box.free 8
  have fq9 := HS1.out.box.free 9
  have fq10 := HS1.out.box.free 10
  obtain ⟨r0, r1, r2, r3, r4, r5, r6, r7, r8, r9, r10⟩ := HS1.out.r
  have fr0 := HS1.out.res.free 0
  have fr1 := HS1.out.res.free 1
  have fr2 := HS1.out.res.free 2
  have fr3 := HS1.out.res.free 3
  have fr4 := HS1.out.res.free 4
  have fr5 := HS1.out.res.free 5
  have fr6 := HS1.out.res.free 6
  have fr7 := HS1.out.res.free 7
  have fr8 := HS1.out.res.free 8
  have fr9 := HS1.out.res.free 9
  have fr10 := HS1.out.res.free 10
  go_upto_region 13 with (go_at_call 27; (with_reducible refine (set_nm v.tt HS1.out.hF HS1.out.v.p9 hq (by omega)).mono ?_); rintro e w2 ⟨E2, e2, rfl, hn, hb⟩; have HN2 := Lib.hid hn; have HC2 := Lib.hid (HS1.out.call hb); have qd := HC2.out.q.2.2.2.2.2.2.2.2.2.1; have fd2 := HC2.out.box.free 9; clear hn hb)
  clear q0 fq0 r0 fr0 q1 fq1 r1 fr1 q2 fq2 r2 fr2 q3 fq3 r3 fr3 q4 fq4 r4 fr4 q5 fq5 r5 fr5 q6 fq6 r6 fr6 q7 fq7 r7 fr7 q8 fq8 r8 fr8 q9 fq9 r9 fr9 q10 fq10 r10 fr10
  clear qd fd2
  have hs2 := HC2.out.put9 (nm_stb _ _) HN2.out
  obtain ⟨V2, hV2⟩ : ∃ V, V = w2.setCell ⟨b, 9, none⟩ (.slice E2 n e2) := ⟨_, rfl⟩
  rw [← hV2] at hs2 ⊢
  have HS2 := Lib.hid hs2
  clear hs2 hV2 HC2 HN2
  obtain ⟨q0, q1, q2, q3, q4, q5, q6, q7, q8, q9, q10⟩ := HS2.out.q
  have fq0 := HS2.out.box.free 0
  have fq1 := HS2.out.box.free 1
  have fq2 := HS2.out.box.free 2
  have fq3 := HS2.out.box.free 3
  have fq4 := HS2.out.box.free 4
  have fq5 := HS2.out.box.free 5
  have fq6 := HS2.out.box.free 6
  have fq7 := HS2.out.box.free 7
  have fq8 := HS2.out.box.free 8
  have fq9 := HS2.out.box.free 9
  have fq10 := HS2.out.box.free 10
  obtain ⟨r0, r1, r2, r3, r4, r5, r6, r7, r8, r9, r10⟩ := HS2.out.r
  have fr0 := HS2.out.res.free 0
  have fr1 := HS2.out.res.free 1
  have fr2 := HS2.out.res.free 2
  have fr3 := HS2.out.res.free 3
  have fr4 := HS2.out.res.free 4
  have fr5 := HS2.out.res.free 5
  have fr6 := HS2.out.res.free 6
  have fr7 := HS2.out.res.free 7
  have fr8 := HS2.out.res.free 8
  have fr9 := HS2.out.res.free 9
  have fr10 := HS2.out.res.free 10
  go_upto_region 19 with (go_at_call 27; (with_reducible refine (set_nm 4 HS2.out.hF HS2.out.v.p6 hq (by omega)).mono ?_); rintro e w3 ⟨E3, e3, rfl, hn, hb⟩; have HN3 := Lib.hid hn; have HC3 := Lib.hid (HS2.out.call hb); have qd := HC3.out.q.2.2.2.2.2.2.1; have fd3 := HC3.out.box.free 6; clear hn hb)
  clear q0 fq0 r0 fr0 q1 fq1 r1 fr1 q2 fq2 r2 fr2 q3 fq3 r3 fr3 q4 fq4 r4 fr4 q5 fq5 r5 fr5 q6 fq6 r6 fr6 q7 fq7 r7 fr7 q8 fq8 r8 fr8 q9 fq9 r9 fr9 q10 fq10 r10 fr10
  clear qd fd3
  have hs3 := HC3.out.put6 (nm_stb _ _) HN3.out
  obtain ⟨V3, hV3⟩ : ∃ V, V = w3.setCell ⟨b, 6, none⟩ (.slice E3 n e3) := ⟨_, rfl⟩
  rw [← hV3] at hs3 ⊢
  have HS3 := Lib.hid hs3
  clear hs3 hV3 HC3 HN3
  obtain ⟨q0, q1, q2, q3, q4, q5, q6, q7, q8, q9, q10⟩ := HS3.out.q
  have fq0 := HS3.out.box.free 0
  have fq1 := HS3.out.box.free 1
  have fq2 := HS3.out.box.free 2
  have fq3 := HS3.out.box.free 3
  have fq4 := HS3.out.box.free 4
  have fq5 := HS3.out.box.free 5
  have fq6 := HS3.out.box.free 6
  have fq7 := HS3.out.box.free 7
  have fq8 := HS3.out.box.free 8
  have fq9 := HS3.out.box.free 9
  have fq10 := HS3.out.box.free 10
  obtain ⟨r0, r1, r2, r3, r4, r5, r6, r7, r8, r9, r10⟩ := HS3.out.r
  have fr0 := HS3.out.res.free 0
  have fr1 := HS3.out.res.free 1
  have fr2 := HS3.out.res.free 2
  have fr3 := HS3.out.res.free 3
  have fr4 := HS3.out.res.free 4
  have fr5 := HS3.out.res.free 5
  have fr6 := HS3.out.res.free 6
  have fr7 := HS3.out.res.free 7
  have fr8 := HS3.out.res.free 8
  have fr9 := HS3.out.res.free 9
  have fr10 := HS3.out.res.free 10
  go_wp2
  have hrv := HS3.out.told.2.2
  rw [rput_cast (y := 4) (z := 4) rfl] at hrv
  refine bodyPost_ret (v := .tuple _) (results_cell4 rfl _ _ (b + 1) 54 _ (0, 0) _ rfl HS3.out.told.1 Tryd.underlying54 rfl (by kernel_rfl)) rfl (StpT.of ⟨_, _, _, _, _, _, _, _, _, _, _, _, _, _, _, rfl, ⟨hrv, RK.other (q := q) HF.out (fun p e => ⟨rput_other e, rfl, rput_other e, rput_other e, rfl⟩) (fun p e => ⟨rfl, rput_other e, rput_other e, rfl⟩) ?_⟩, HS3.out.told.2.1⟩)
  have ea : (kat (ksee v q) q 4).a q = 4 := rput_same _ _ _
  have es : (kat (ksee v q) q 4).sn q = v.tn := rput_same _ _ _
  have et : (kat (ksee v q) q 4).st q = v.tt := rput_same _ _ _
  rw [ea, es, et, rput_same, rput_same]
  exact ⟨fun h => (by omega), fun _ => ⟨rfl, rfl⟩, fun h => (by omega)⟩
end Go.Proofs.YtjcoihhmlblkbaaDoor.Stk
