/-
  The reference of package fifo: StepFifo, line 10.
-/
import Derived.Test.YtnplhjbbkccdnaaDoorFifRef3
import Derived.StillTailTactics
import Derived.Deep.RegionHeld3
namespace Go.Proofs.YtnplhjbbkccdnaaDoor.Fif
open Go.RowKit Rf

set_option maxHeartbeats 8000000 in
set_option maxRecDepth 100000 in
theorem s10y {F : Nat → Prop} {n : Nat} {s : FG} {vl : Nat → Int} {v0 v1 v2 v3 v4 v5 v6 v7 v8 : Value} {fx : Nat → Int} (w : World) (h : RK F w n s.v vl v0 v1 v2 v3 v4 v5 v6 v7 v8 fx) (hF : ∀ b, F b → b < w.heap.size) (ok : FOk n s) (_hk40 : s.v.k ≤ 40) (h1 : 1 ≤ n) (h4 : n ≤ 4) {q : Nat} (hq : q < n) (ha : (s.v.h q).a = 10) (hh : s.v.hd = (s.v.h q).h) :
    Calls Tryd.prog 21 #[.agg #[v0, v1, v2, v3, v4, v5, v6, v7, v8], .int .i64 (q : Int)] w fun e w' => StpT F w w' n true (vl ((s.v.h q).x - 1)) (0) (⟨fput s.v.h q ⟨0, (s.v.h q).e, (s.v.h q).t, (s.v.h q).h, (s.v.h q).x⟩, s.v.nx, s.v.k, (s.v.h q).x - 1, s.v.tl⟩ : FS) vl e := by
  have e0 : v0 = .int .i64 s.v.hd := h.rv.p0
  have e1 : v1 = .int .i64 s.v.tl := h.rv.p1
  subst e0 e1
  obtain ⟨A2, c2, rfl⟩ := SL.form h.rv.p2
  obtain ⟨A3, c3, rfl⟩ := SL.form h.rv.p3
  obtain ⟨A4, c4, rfl⟩ := SL.form h.rv.p4
  obtain ⟨A5, c5, rfl⟩ := SL.form h.rv.p5
  obtain ⟨A6, c6, rfl⟩ := SL.form h.rv.p6
  obtain ⟨A7, c7, rfl⟩ := SL.form h.rv.p7
  obtain ⟨A8, c8, rfl⟩ := SL.form h.rv.p8
  have hst := RS.start h.rv hF
  obtain ⟨b, hb⟩ : ∃ b, b = w.heap.size := ⟨_, rfl⟩
  obtain ⟨W0, hW0⟩ : ∃ W0, W0 = (w.alloc (.cells #[.int .i64 s.v.hd, .int .i64 s.v.tl, .slice A2 s.v.k c2, .slice A3 s.v.k c3, .slice A4 n c4, .slice A5 n c5, .slice A6 n c6, .slice A7 n c7, .slice A8 n c8] 54)).alloc (.cells #[.int .i64 0, .int .i64 0, .slice none 0 0, .slice none 0 0, .slice none 0 0, .slice none 0 0, .slice none 0 0, .slice none 0 0, .slice none 0 0] 54) := ⟨_, rfl⟩
  rw [← hW0, ← hb] at hst
  have HS0 := Lib.hid hst
  have hwn : IntKind.i64.wrap ((n : Int) - 1) = (n : Int) - 1 := IntWalk.i64_in _ (by omega)
  have HW0 := Lib.hid hW0
  have HBW := Lib.hid hb.symm
  have HF := Lib.hid h.f
  have HOK := Lib.hid ok
  clear hst h hF hb hW0
  have HI1 := Lib.hid (inW_any q 0 ((n : Int) - 1) true (decide_eq_true (by omega)))
  have hqI : (q : Int) < n := by omega
  obtain ⟨bt, ot, rfl, _, _, hct⟩ := nm_at HS0.out.v.p4 hq
  rw [ha] at hct
  obtain ⟨b7, o7, rfl, _, _, h7⟩ := nm_at HS0.out.v.p7 hq
  have hb1 : (((s.v.hd : Nat) : Int) != (((s.v.h q).h : Nat) : Int)) = false := by simp; omega
  have hb2 : (s.v.hd != (s.v.h q).h) = false := by simp [hh]
  have hxk := (fok_xk ok hq (by omega))
  obtain ⟨X, hXe⟩ : ∃ X, X = (s.v.h q).x - 1 := ⟨_, rfl⟩
  have hXk : X < s.v.k := by omega
  have hX : fx q = ((X : Nat) : Int) := by have h1 := HF.out q hq (by omega); unfold fi at h1; omega
  obtain ⟨b8, o8, rfl, _, _, h8⟩ := nm_at HS0.out.v.p8 hq
  obtain ⟨b2, o2, rfl, _, _, h2⟩ := nm_at HS0.out.v.p2 hXk
  have hXI : ((X : Nat) : Int) < ((s.v.k : Nat) : Int) := by omega
  rw [hX] at h8
  rw [← hXe]
  have HX := Lib.hid hX
  clear hX hXe hxk
  clear hh
  go_enter Tryd.func21, Tryd.ntmps21
  go_upto_region 1 with fail
  rw [← HW0.out, HBW.out]
  obtain ⟨q0, q1, q2, q3, q4, q5, q6, q7, q8⟩ := HS0.out.q
  have fq0 := HS0.out.box.free 0
  have fq1 := HS0.out.box.free 1
  have fq2 := HS0.out.box.free 2
  have fq3 := HS0.out.box.free 3
  have fq4 := HS0.out.box.free 4
  have fq5 := HS0.out.box.free 5
  have fq6 := HS0.out.box.free 6
  have fq7 := HS0.out.box.free 7
  have fq8 := HS0.out.box.free 8
  obtain ⟨r0, r1, r2, r3, r4, r5, r6, r7, r8⟩ := HS0.out.r
  have fr0 := HS0.out.res.free 0
  have fr1 := HS0.out.res.free 1
  have fr2 := HS0.out.res.free 2
  have fr3 := HS0.out.res.free 3
  have fr4 := HS0.out.res.free 4
  have fr5 := HS0.out.res.free 5
  have fr6 := HS0.out.res.free 6
  have fr7 := HS0.out.res.free 7
  have fr8 := HS0.out.res.free 8
  go_upto_region 44 with (go_at_call 26; (with_reducible refine (HI1.out _).mono ?_); rintro e w' ⟨rfl, rfl⟩)
  go_quiet (fail)
  go_upto_region 46 with fail
  replace h8 : (W0.drewN nq).cell? ⟨b8, o8 + q, none⟩ = some (.int .i64 ((X : Nat) : Int)) := h8
  replace h2 : (W0.drewN nq).cell? ⟨b2, o2 + X, none⟩ = some (.int .i64 (vl X)) := h2
  clear hct h7 hb1 hb2
  clear q0 fq0 r0 fr0 q1 fq1 r1 fr1 q2 fq2 r2 fr2 q3 fq3 r3 fr3 q4 fq4 r4 fr4 q5 fq5 r5 fr5 q6 fq6 r6 fr6 q7 fq7 r7 fr7 q8 fq8 r8 fr8
  have hdWD := HS0.out.call (below_drewN (Below.refl W0.heap.size W0) nq)
  obtain ⟨WD, hWWD⟩ : ∃ X, X = W0.drewN nq := ⟨_, rfl⟩
  rw [← hWWD] at hdWD h8 h2 ⊢
  have HSD := Lib.hid hdWD
  clear hdWD hWWD
  obtain ⟨q0, q1, q2, q3, q4, q5, q6, q7, q8⟩ := HSD.out.q
  have fq0 := HSD.out.box.free 0
  have fq1 := HSD.out.box.free 1
  have fq2 := HSD.out.box.free 2
  have fq3 := HSD.out.box.free 3
  have fq4 := HSD.out.box.free 4
  have fq5 := HSD.out.box.free 5
  have fq6 := HSD.out.box.free 6
  have fq7 := HSD.out.box.free 7
  have fq8 := HSD.out.box.free 8
  obtain ⟨r0, r1, r2, r3, r4, r5, r6, r7, r8⟩ := HSD.out.r
  have fr0 := HSD.out.res.free 0
  have fr1 := HSD.out.res.free 1
  have fr2 := HSD.out.res.free 2
  have fr3 := HSD.out.res.free 3
  have fr4 := HSD.out.res.free 4
  have fr5 := HSD.out.res.free 5
  have fr6 := HSD.out.res.free 6
  have fr7 := HSD.out.res.free 7
  have fr8 := HSD.out.res.free 8
  go_upto_region 47 with fail
  clear h8 h2
  clear q0 fq0 r0 fr0 q1 fq1 r1 fr1 q2 fq2 r2 fr2 q3 fq3 r3 fr3 q4 fq4 r4 fr4 q5 fq5 r5 fr5 q6 fq6 r6 fr6 q7 fq7 r7 fr7 q8 fq8 r8 fr8
  have hpVT := HSD.out.put0 (isInt_stb _) (u := .int .i64 ((X : Nat) : Int)) (Q := isInt ((X : Nat) : Int)) rfl
  obtain ⟨VT, hVVT⟩ : ∃ V, V = WD.setCell ⟨b, 0, none⟩ (.int .i64 ((X : Nat) : Int)) := ⟨_, rfl⟩
  rw [← hVVT] at hpVT ⊢
  have HST := Lib.hid hpVT
  clear hpVT hVVT
  obtain ⟨q0, q1, q2, q3, q4, q5, q6, q7, q8⟩ := HST.out.q
  have fq0 := HST.out.box.free 0
  have fq1 := HST.out.box.free 1
  have fq2 := HST.out.box.free 2
  have fq3 := HST.out.box.free 3
  have fq4 := HST.out.box.free 4
  have fq5 := HST.out.box.free 5
  have fq6 := HST.out.box.free 6
  have fq7 := HST.out.box.free 7
  have fq8 := HST.out.box.free 8
  obtain ⟨r0, r1, r2, r3, r4, r5, r6, r7, r8⟩ := HST.out.r
  have fr0 := HST.out.res.free 0
  have fr1 := HST.out.res.free 1
  have fr2 := HST.out.res.free 2
  have fr3 := HST.out.res.free 3
  have fr4 := HST.out.res.free 4
  have fr5 := HST.out.res.free 5
  have fr6 := HST.out.res.free 6
  have fr7 := HST.out.res.free 7
  have fr8 := HST.out.res.free 8
  obtain ⟨x80, y80, e8, _, _, g80⟩ := nm_at HST.out.v.p8 hq
  injection e8 with e8
  injection e8 with e8 e9 _
  subst e8 e9
  rw [HX.out] at g80
  obtain ⟨x20, y20, e8, _, _, g20⟩ := nm_at HST.out.v.p2 hXk
  injection e8 with e8
  injection e8 with e8 e9 _
  subst e8 e9
  have HSE := Lib.hid (HST.out.call (Below.refl VT.heap.size VT).drew)
  have HSA := Lib.hid (show (fun W : World => W.cell? ⟨b, 0, none⟩ = some (.int .i64 ((X : Nat) : Int)) ∧ W.cell? ⟨b, 1, none⟩ = some (.int .i64 ((s.v.tl : Nat) : Int)) ∧ W.cell? ⟨b, 2, none⟩ = some (.slice (some ⟨b2, o2, none⟩) s.v.k c2) ∧ W.cell? ⟨b, 3, none⟩ = some (.slice A3 s.v.k c3) ∧ W.cell? ⟨b, 4, none⟩ = some (.slice (some ⟨bt, ot, none⟩) n c4) ∧ W.cell? ⟨b, 5, none⟩ = some (.slice A5 n c5) ∧ W.cell? ⟨b, 6, none⟩ = some (.slice A6 n c6) ∧ W.cell? ⟨b, 7, none⟩ = some (.slice (some ⟨b7, o7, none⟩) n c7) ∧ W.cell? ⟨b, 8, none⟩ = some (.slice (some ⟨b8, o8, none⟩) n c8) ∧ W.cell? ⟨b8, o8 + q, none⟩ = some (.int .i64 ((X : Nat) : Int)) ∧ W.cell? ⟨b2, o2 + X, none⟩ = some (.int .i64 (vl X))) VT.drew from ⟨q0, q1, q2, q3, q4, q5, q6, q7, q8, g80, g20⟩)
  have HAT := Lib.hid (at_ref (F := FB F b) VT.drew HSE.out.v HSE.out.hF h4 hq 0)
  clear g80 g20
  clear q0 fq0 r0 fr0 q1 fq1 r1 fr1 q2 fq2 r2 fr2 q3 fq3 r3 fr3 q4 fq4 r4 fr4 q5 fq5 r5 fr5 q6 fq6 r6 fr6 q7 fq7 r7 fr7 q8 fq8 r8 fr8
  go_region_held3 (fun W : World => W.cell? ⟨b, 0, none⟩ = some (.int .i64 ((X : Nat) : Int)) ∧ W.cell? ⟨b, 1, none⟩ = some (.int .i64 ((s.v.tl : Nat) : Int)) ∧ W.cell? ⟨b, 2, none⟩ = some (.slice (some ⟨b2, o2, none⟩) s.v.k c2) ∧ W.cell? ⟨b, 3, none⟩ = some (.slice A3 s.v.k c3) ∧ W.cell? ⟨b, 4, none⟩ = some (.slice (some ⟨bt, ot, none⟩) n c4) ∧ W.cell? ⟨b, 5, none⟩ = some (.slice A5 n c5) ∧ W.cell? ⟨b, 6, none⟩ = some (.slice A6 n c6) ∧ W.cell? ⟨b, 7, none⟩ = some (.slice (some ⟨b7, o7, none⟩) n c7) ∧ W.cell? ⟨b, 8, none⟩ = some (.slice (some ⟨b8, o8, none⟩) n c8) ∧ W.cell? ⟨b8, o8 + q, none⟩ = some (.int .i64 ((X : Nat) : Int)) ∧ W.cell? ⟨b2, o2 + X, none⟩ = some (.int .i64 (vl X))) (first | (with_reducible exact HSA.out) | (with_reducible exact HSB.out) | (with_reducible exact HSC.out)) ((go_at_call 40; (with_reducible refine HAT.out.mono ?_); rintro e wa ⟨Ea, ea, rfl, hn, hb⟩; have HNa := Lib.hid hn; have HCa := Lib.hid (HSE.out.call hb); clear hn hb; obtain ⟨x8a, y8a, e8, _, _, g8a⟩ := nm_at HCa.out.v.p8 hq; injection e8 with e8; injection e8 with e8 e9 _; subst e8 e9; rw [HX.out] at g8a; obtain ⟨x2a, y2a, e8, _, _, g2a⟩ := nm_at HCa.out.v.p2 hXk; injection e8 with e8; injection e8 with e8 e9 _; subst e8 e9; have HSB := Lib.hid (show (fun W : World => W.cell? ⟨b, 0, none⟩ = some (.int .i64 ((X : Nat) : Int)) ∧ W.cell? ⟨b, 1, none⟩ = some (.int .i64 ((s.v.tl : Nat) : Int)) ∧ W.cell? ⟨b, 2, none⟩ = some (.slice (some ⟨b2, o2, none⟩) s.v.k c2) ∧ W.cell? ⟨b, 3, none⟩ = some (.slice A3 s.v.k c3) ∧ W.cell? ⟨b, 4, none⟩ = some (.slice (some ⟨bt, ot, none⟩) n c4) ∧ W.cell? ⟨b, 5, none⟩ = some (.slice A5 n c5) ∧ W.cell? ⟨b, 6, none⟩ = some (.slice A6 n c6) ∧ W.cell? ⟨b, 7, none⟩ = some (.slice (some ⟨b7, o7, none⟩) n c7) ∧ W.cell? ⟨b, 8, none⟩ = some (.slice (some ⟨b8, o8, none⟩) n c8) ∧ W.cell? ⟨b8, o8 + q, none⟩ = some (.int .i64 ((X : Nat) : Int)) ∧ W.cell? ⟨b2, o2 + X, none⟩ = some (.int .i64 (vl X))) wa from ⟨HCa.out.box.cell 0, HCa.out.box.cell 1, HCa.out.box.cell 2, HCa.out.box.cell 3, HCa.out.box.cell 4, HCa.out.box.cell 5, HCa.out.box.cell 6, HCa.out.box.cell 7, HCa.out.box.cell 8, g8a, g2a⟩); have hva := (⟨HCa.out.v.p0, HCa.out.v.p1, HCa.out.v.p2, HCa.out.v.p3, HNa.out, HCa.out.v.p5, HCa.out.v.p6, HCa.out.v.p7, HCa.out.v.p8, HCa.out.v.s0, HCa.out.v.s1, HCa.out.v.s2, HCa.out.v.s3, nm_stb _ _, HCa.out.v.s5, HCa.out.v.s6, HCa.out.v.s7, HCa.out.v.s8⟩ : RV (FB F b) wa _ _ _ _ (.slice Ea n ea) _ _ _ _ _ _ _ _ _ _ _ _ _); have hta := HCa.out.told2 hva; have HTa := Lib.hid hta; have hbx := (Block.far (Block.far (Block.far (Block.far (Block.far (Block.far (Block.far (Block.far (Block.far HCa.out.box (p := ⟨b + 1, 0, none⟩) (by show b ≠ b + 1; omega) (.int .i64 ((X : Nat) : Int))) (p := ⟨b + 1, 1, none⟩) (by show b ≠ b + 1; omega) (.int .i64 ((s.v.tl : Nat) : Int))) (p := ⟨b + 1, 2, none⟩) (by show b ≠ b + 1; omega) (.slice (some ⟨b2, o2, none⟩) s.v.k c2)) (p := ⟨b + 1, 3, none⟩) (by show b ≠ b + 1; omega) (.slice A3 s.v.k c3)) (p := ⟨b + 1, 4, none⟩) (by show b ≠ b + 1; omega) (.slice Ea n ea)) (p := ⟨b + 1, 5, none⟩) (by show b ≠ b + 1; omega) (.slice A5 n c5)) (p := ⟨b + 1, 6, none⟩) (by show b ≠ b + 1; omega) (.slice A6 n c6)) (p := ⟨b + 1, 7, none⟩) (by show b ≠ b + 1; omega) (.slice (some ⟨b7, o7, none⟩) n c7)) (p := ⟨b + 1, 8, none⟩) (by show b ≠ b + 1; omega) (.slice (some ⟨b8, o8, none⟩) n c8)); obtain ⟨x8b, y8b, e8, _, _, g8b⟩ := nm_at hta.2.2.p8 hq; injection e8 with e8; injection e8 with e8 e9 _; subst e8 e9; rw [HX.out] at g8b; obtain ⟨x2b, y2b, e8, _, _, g2b⟩ := nm_at hta.2.2.p2 hXk; injection e8 with e8; injection e8 with e8 e9 _; subst e8 e9; have HSC := Lib.hid (show (fun W : World => W.cell? ⟨b, 0, none⟩ = some (.int .i64 ((X : Nat) : Int)) ∧ W.cell? ⟨b, 1, none⟩ = some (.int .i64 ((s.v.tl : Nat) : Int)) ∧ W.cell? ⟨b, 2, none⟩ = some (.slice (some ⟨b2, o2, none⟩) s.v.k c2) ∧ W.cell? ⟨b, 3, none⟩ = some (.slice A3 s.v.k c3) ∧ W.cell? ⟨b, 4, none⟩ = some (.slice (some ⟨bt, ot, none⟩) n c4) ∧ W.cell? ⟨b, 5, none⟩ = some (.slice A5 n c5) ∧ W.cell? ⟨b, 6, none⟩ = some (.slice A6 n c6) ∧ W.cell? ⟨b, 7, none⟩ = some (.slice (some ⟨b7, o7, none⟩) n c7) ∧ W.cell? ⟨b, 8, none⟩ = some (.slice (some ⟨b8, o8, none⟩) n c8) ∧ W.cell? ⟨b8, o8 + q, none⟩ = some (.int .i64 ((X : Nat) : Int)) ∧ W.cell? ⟨b2, o2 + X, none⟩ = some (.int .i64 (vl X))) (((((((((wa.setCell ⟨b + 1, 0, none⟩ (.int .i64 ((X : Nat) : Int))).setCell ⟨b + 1, 1, none⟩ (.int .i64 ((s.v.tl : Nat) : Int))).setCell ⟨b + 1, 2, none⟩ (.slice (some ⟨b2, o2, none⟩) s.v.k c2)).setCell ⟨b + 1, 3, none⟩ (.slice A3 s.v.k c3)).setCell ⟨b + 1, 4, none⟩ (.slice Ea n ea)).setCell ⟨b + 1, 5, none⟩ (.slice A5 n c5)).setCell ⟨b + 1, 6, none⟩ (.slice A6 n c6)).setCell ⟨b + 1, 7, none⟩ (.slice (some ⟨b7, o7, none⟩) n c7)).setCell ⟨b + 1, 8, none⟩ (.slice (some ⟨b8, o8, none⟩) n c8)) from ⟨hbx.cell 0, hbx.cell 1, hbx.cell 2, hbx.cell 3, hbx.cell 4, hbx.cell 5, hbx.cell 6, hbx.cell 7, hbx.cell 8, g8b, g2b⟩); clear g8a g2a g8b g2b hta hbx hva; obtain ⟨r0, r1, r2, r3, r4, r5, r6, r7, r8⟩ := HCa.out.r; have fr0 := HCa.out.res.free 0; have fr1 := HCa.out.res.free 1; have fr2 := HCa.out.res.free 2; have fr3 := HCa.out.res.free 3; have fr4 := HCa.out.res.free 4; have fr5 := HCa.out.res.free 5; have fr6 := HCa.out.res.free 6; have fr7 := HCa.out.res.free 7; have fr8 := HCa.out.res.free 8))
  all_goals
    rename_i hh
    clear hh
    refine (by assumption : ∀ (a : Act) (w : World), Code.wp Tryd.prog Code.ret _ a w → _) _ _ ?_
    go_step
    refine bodyPost_ret (v := .tuple _) (results_cell4 rfl _ _ (b + 1) 54 _ (0, 0) _ rfl HTa.out.1 Tryd.underlying54 rfl (by kernel_rfl)) rfl (StpT.of ⟨_, _, _, _, _, _, _, _, _, _, rfl, RK.mk' HTa.out.2.2 rfl rfl rfl rfl (fun _ _ => rfl) (fun _ _ => rfl) ?_ ?_ ?_ ?_ ?_, HTa.out.2.1⟩)
    · intro p _
      show _ = (((fput s.v.h q _ p).a : Nat) : Int)
      by_cases e : p = q
      · subst e; first | (rw [rput_same, fput_same]; done) | (rw [rput_same, fput_same]; rfl) | (rw [fput_same])
      · first | rw [rput_other e, fput_other e] | rw [fput_other e]
    · intro p _
      show _ = (((fput s.v.h q _ p).e : Nat) : Int)
      by_cases e : p = q
      · subst e; first | (rw [rput_same, fput_same]; done) | (rw [rput_same, fput_same]; rfl) | (rw [fput_same])
      · first | rw [rput_other e, fput_other e] | rw [fput_other e]
    · intro p _
      show _ = (((fput s.v.h q _ p).t : Nat) : Int)
      by_cases e : p = q
      · subst e; first | (rw [rput_same, fput_same]; done) | (rw [rput_same, fput_same]; rfl) | (rw [fput_same])
      · first | rw [rput_other e, fput_other e] | rw [fput_other e]
    · intro p _
      show _ = (((fput s.v.h q _ p).h : Nat) : Int)
      by_cases e : p = q
      · subst e; first | (rw [rput_same, fput_same]; done) | (rw [rput_same, fput_same]; rfl) | (rw [fput_same])
      · first | rw [rput_other e, fput_other e] | rw [fput_other e]
    · intro p hp h
      replace h : (fput s.v.h q _ p).a = 4 ∨ (fput s.v.h q _ p).a = 9 ∨ (fput s.v.h q _ p).a = 10 := h
      show _ = fi (fput s.v.h q _ p).x
      by_cases e : p = q
      · subst e; rw [fput_same] at h ⊢; (have h : 0 = 4 ∨ 0 = 9 ∨ 0 = 10 := h); omega
      · rw [fput_other e] at h ⊢; first | (rw [rput_other e]; exact HF.out p hp h) | exact HF.out p hp h
set_option maxHeartbeats 8000000 in
set_option maxRecDepth 100000 in
theorem s10n {F : Nat → Prop} {n : Nat} {s : FG} {vl : Nat → Int} {v0 v1 v2 v3 v4 v5 v6 v7 v8 : Value} {fx : Nat → Int} (w : World) (h : RK F w n s.v vl v0 v1 v2 v3 v4 v5 v6 v7 v8 fx) (hF : ∀ b, F b → b < w.heap.size) (ok : FOk n s) (_hk40 : s.v.k ≤ 40) (h1 : 1 ≤ n) (h4 : n ≤ 4) {q : Nat} (hq : q < n) (ha : (s.v.h q).a = 10) (hh : s.v.hd ≠ (s.v.h q).h) :
    Calls Tryd.prog 21 #[.agg #[v0, v1, v2, v3, v4, v5, v6, v7, v8], .int .i64 (q : Int)] w fun e w' => StpT F w w' n false (0) (0) (⟨fput s.v.h q ⟨6, (s.v.h q).e, (s.v.h q).t, (s.v.h q).h, (s.v.h q).x⟩, s.v.nx, s.v.k, s.v.hd, s.v.tl⟩ : FS) vl e := by
  have e0 : v0 = .int .i64 s.v.hd := h.rv.p0
  have e1 : v1 = .int .i64 s.v.tl := h.rv.p1
  subst e0 e1
  obtain ⟨A2, c2, rfl⟩ := SL.form h.rv.p2
  obtain ⟨A3, c3, rfl⟩ := SL.form h.rv.p3
  obtain ⟨A4, c4, rfl⟩ := SL.form h.rv.p4
  obtain ⟨A5, c5, rfl⟩ := SL.form h.rv.p5
  obtain ⟨A6, c6, rfl⟩ := SL.form h.rv.p6
  obtain ⟨A7, c7, rfl⟩ := SL.form h.rv.p7
  obtain ⟨A8, c8, rfl⟩ := SL.form h.rv.p8
  have hst := RS.start h.rv hF
  obtain ⟨b, hb⟩ : ∃ b, b = w.heap.size := ⟨_, rfl⟩
  obtain ⟨W0, hW0⟩ : ∃ W0, W0 = (w.alloc (.cells #[.int .i64 s.v.hd, .int .i64 s.v.tl, .slice A2 s.v.k c2, .slice A3 s.v.k c3, .slice A4 n c4, .slice A5 n c5, .slice A6 n c6, .slice A7 n c7, .slice A8 n c8] 54)).alloc (.cells #[.int .i64 0, .int .i64 0, .slice none 0 0, .slice none 0 0, .slice none 0 0, .slice none 0 0, .slice none 0 0, .slice none 0 0, .slice none 0 0] 54) := ⟨_, rfl⟩
  rw [← hW0, ← hb] at hst
  have HS0 := Lib.hid hst
  have hwn : IntKind.i64.wrap ((n : Int) - 1) = (n : Int) - 1 := IntWalk.i64_in _ (by omega)
  have HW0 := Lib.hid hW0
  have HBW := Lib.hid hb.symm
  have HF := Lib.hid h.f
  have HOK := Lib.hid ok
  clear hst h hF hb hW0
  have HI1 := Lib.hid (inW_any q 0 ((n : Int) - 1) true (decide_eq_true (by omega)))
  have hqI : (q : Int) < n := by omega
  obtain ⟨bt, ot, rfl, _, _, hct⟩ := nm_at HS0.out.v.p4 hq
  rw [ha] at hct
  obtain ⟨b7, o7, rfl, _, _, h7⟩ := nm_at HS0.out.v.p7 hq
  have hb1 : (((s.v.hd : Nat) : Int) != (((s.v.h q).h : Nat) : Int)) = true := by simp; omega
  have hb2 : (s.v.hd != (s.v.h q).h) = true := by simp [hh]
  clear hh
  go_enter Tryd.func21, Tryd.ntmps21
  go_upto_region 1 with fail
  rw [← HW0.out, HBW.out]
  obtain ⟨q0, q1, q2, q3, q4, q5, q6, q7, q8⟩ := HS0.out.q
  have fq0 := HS0.out.box.free 0
  have fq1 := HS0.out.box.free 1
  have fq2 := HS0.out.box.free 2
  have fq3 := HS0.out.box.free 3
  have fq4 := HS0.out.box.free 4
  have fq5 := HS0.out.box.free 5
  have fq6 := HS0.out.box.free 6
  have fq7 := HS0.out.box.free 7
  have fq8 := HS0.out.box.free 8
  obtain ⟨r0, r1, r2, r3, r4, r5, r6, r7, r8⟩ := HS0.out.r
  have fr0 := HS0.out.res.free 0
  have fr1 := HS0.out.res.free 1
  have fr2 := HS0.out.res.free 2
  have fr3 := HS0.out.res.free 3
  have fr4 := HS0.out.res.free 4
  have fr5 := HS0.out.res.free 5
  have fr6 := HS0.out.res.free 6
  have fr7 := HS0.out.res.free 7
  have fr8 := HS0.out.res.free 8
  go_upto_region 44 with (go_at_call 26; (with_reducible refine (HI1.out _).mono ?_); rintro e w' ⟨rfl, rfl⟩)
  go_quiet (fail)
  go_upto_region 45 with fail
  clear hct h7 hb1 hb2
  clear q0 fq0 r0 fr0 q1 fq1 r1 fr1 q2 fq2 r2 fr2 q3 fq3 r3 fr3 q4 fq4 r4 fr4 q5 fq5 r5 fr5 q6 fq6 r6 fr6 q7 fq7 r7 fr7 q8 fq8 r8 fr8
  have hdWD := HS0.out.call (below_drewN (Below.refl W0.heap.size W0) nq)
  obtain ⟨WD, hWWD⟩ : ∃ X, X = W0.drewN nq := ⟨_, rfl⟩
  rw [← hWWD] at hdWD ⊢
  have HSD := Lib.hid hdWD
  clear hdWD hWWD
  obtain ⟨q0, q1, q2, q3, q4, q5, q6, q7, q8⟩ := HSD.out.q
  have fq0 := HSD.out.box.free 0
  have fq1 := HSD.out.box.free 1
  have fq2 := HSD.out.box.free 2
  have fq3 := HSD.out.box.free 3
  have fq4 := HSD.out.box.free 4
  have fq5 := HSD.out.box.free 5
  have fq6 := HSD.out.box.free 6
  have fq7 := HSD.out.box.free 7
  have fq8 := HSD.out.box.free 8
  obtain ⟨r0, r1, r2, r3, r4, r5, r6, r7, r8⟩ := HSD.out.r
  have fr0 := HSD.out.res.free 0
  have fr1 := HSD.out.res.free 1
  have fr2 := HSD.out.res.free 2
  have fr3 := HSD.out.res.free 3
  have fr4 := HSD.out.res.free 4
  have fr5 := HSD.out.res.free 5
  have fr6 := HSD.out.res.free 6
  have fr7 := HSD.out.res.free 7
  have fr8 := HSD.out.res.free 8
  have HAT := Lib.hid (at_ref (F := FB F b) WD HSD.out.v HSD.out.hF h4 hq 6)
  go_wp2_with (go_at_call 40; (with_reducible refine HAT.out.mono ?_); rintro e wa ⟨Ea, ea, rfl, hn, hb⟩; have HNa := Lib.hid hn; have HCa := Lib.hid (HSD.out.call hb); clear q0 fq0 r0 fr0 q1 fq1 r1 fr1 q2 fq2 r2 fr2 q3 fq3 r3 fr3 q4 fq4 r4 fr4 q5 fq5 r5 fr5 q6 fq6 r6 fr6 q7 fq7 r7 fr7 q8 fq8 r8 fr8; obtain ⟨r0, r1, r2, r3, r4, r5, r6, r7, r8⟩ := HCa.out.r; have fr0 := HCa.out.res.free 0; have fr1 := HCa.out.res.free 1; have fr2 := HCa.out.res.free 2; have fr3 := HCa.out.res.free 3; have fr4 := HCa.out.res.free 4; have fr5 := HCa.out.res.free 5; have fr6 := HCa.out.res.free 6; have fr7 := HCa.out.res.free 7; have fr8 := HCa.out.res.free 8; clear hn hb)
  have hva := (⟨HCa.out.v.p0, HCa.out.v.p1, HCa.out.v.p2, HCa.out.v.p3, HNa.out, HCa.out.v.p5, HCa.out.v.p6, HCa.out.v.p7, HCa.out.v.p8, HCa.out.v.s0, HCa.out.v.s1, HCa.out.v.s2, HCa.out.v.s3, nm_stb _ _, HCa.out.v.s5, HCa.out.v.s6, HCa.out.v.s7, HCa.out.v.s8⟩ : RV (FB F b) wa _ _ _ _ (.slice Ea n ea) _ _ _ _ _ _ _ _ _ _ _ _ _)
  have HTa := Lib.hid (HCa.out.told2 hva)
  refine bodyPost_ret (v := .tuple _) (results_cell4 rfl _ _ (b + 1) 54 _ (0, 0) _ rfl HTa.out.1 Tryd.underlying54 rfl (by kernel_rfl)) rfl (StpT.of ⟨_, _, _, _, _, _, _, _, _, _, rfl, RK.mk' HTa.out.2.2 rfl rfl rfl rfl (fun _ _ => rfl) (fun _ _ => rfl) ?_ ?_ ?_ ?_ ?_, HTa.out.2.1⟩)
  · intro p _
    show _ = (((fput s.v.h q _ p).a : Nat) : Int)
    by_cases e : p = q
    · subst e; first | (rw [rput_same, fput_same]; done) | (rw [rput_same, fput_same]; rfl) | (rw [fput_same])
    · first | rw [rput_other e, fput_other e] | rw [fput_other e]
  · intro p _
    show _ = (((fput s.v.h q _ p).e : Nat) : Int)
    by_cases e : p = q
    · subst e; first | (rw [rput_same, fput_same]; done) | (rw [rput_same, fput_same]; rfl) | (rw [fput_same])
    · first | rw [rput_other e, fput_other e] | rw [fput_other e]
  · intro p _
    show _ = (((fput s.v.h q _ p).t : Nat) : Int)
    by_cases e : p = q
    · subst e; first | (rw [rput_same, fput_same]; done) | (rw [rput_same, fput_same]; rfl) | (rw [fput_same])
    · first | rw [rput_other e, fput_other e] | rw [fput_other e]
  · intro p _
    show _ = (((fput s.v.h q _ p).h : Nat) : Int)
    by_cases e : p = q
    · subst e; first | (rw [rput_same, fput_same]; done) | (rw [rput_same, fput_same]; rfl) | (rw [fput_same])
    · first | rw [rput_other e, fput_other e] | rw [fput_other e]
  · intro p hp h
    replace h : (fput s.v.h q _ p).a = 4 ∨ (fput s.v.h q _ p).a = 9 ∨ (fput s.v.h q _ p).a = 10 := h
    show _ = fi (fput s.v.h q _ p).x
    by_cases e : p = q
    · subst e; rw [fput_same] at h ⊢; (have h : 6 = 4 ∨ 6 = 9 ∨ 6 = 10 := h); omega
    · rw [fput_other e] at h ⊢; first | (rw [rput_other e]; exact HF.out p hp h) | exact HF.out p hp h
end Go.Proofs.YtnplhjbbkccdnaaDoor.Fif
