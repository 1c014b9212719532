/-
  The reference of package fifo: StepFifo.
-/
import Derived.Test.YtnplhjbbkccdnaaDoorFifRef2
import Derived.StillTailTactics
import Derived.Deep.RegionHeld3
namespace Go.Proofs.YtnplhjbbkccdnaaDoor.Fif
open Go.RowKit Rf

set_option maxHeartbeats 8000000 in
set_option maxRecDepth 100000 in
theorem sbad {F : Nat → Prop} {n : Nat} {s : FG} {vl : Nat → Int} {v0 v1 v2 v3 v4 v5 v6 v7 v8 : Value} {fx : Nat → Int} (w : World) (h : RK F w n s.v vl v0 v1 v2 v3 v4 v5 v6 v7 v8 fx) (hF : ∀ b, F b → b < w.heap.size) (ok : FOk n s) (_hk40 : s.v.k ≤ 40) (h1 : 1 ≤ n) (h4 : n ≤ 4) (p : Int) (hp : ¬ (0 ≤ p ∧ p < n)) :
    Calls Tryd.prog 21 #[.agg #[v0, v1, v2, v3, v4, v5, v6, v7, v8], .int .i64 p] w fun e w' => StpT F w w' n false (0) (1) s.v vl e := by
  have e0 : v0 = .int .i64 s.v.hd := h.rv.p0
  have e1 : v1 = .int .i64 s.v.tl := h.rv.p1
  subst e0 e1
  obtain ⟨A2, c2, rfl⟩ := SL.form h.rv.p2
  obtain ⟨A3, c3, rfl⟩ := SL.form h.rv.p3
  obtain ⟨A4, c4, rfl⟩ := SL.form h.rv.p4
  obtain ⟨A5, c5, rfl⟩ := SL.form h.rv.p5
  obtain ⟨A6, c6, rfl⟩ := SL.form h.rv.p6
  obtain ⟨A7, c7, rfl⟩ := SL.form h.rv.p7
  obtain ⟨A8, c8, rfl⟩ := SL.form h.rv.p8
  have hst := RS.start h.rv hF
  obtain ⟨b, hb⟩ : ∃ b, b = w.heap.size := ⟨_, rfl⟩
  obtain ⟨W0, hW0⟩ : ∃ W0, W0 = (w.alloc (.cells #[.int .i64 s.v.hd, .int .i64 s.v.tl, .slice A2 s.v.k c2, .slice A3 s.v.k c3, .slice A4 n c4, .slice A5 n c5, .slice A6 n c6, .slice A7 n c7, .slice A8 n c8] 54)).alloc (.cells #[.int .i64 0, .int .i64 0, .slice none 0 0, .slice none 0 0, .slice none 0 0, .slice none 0 0, .slice none 0 0, .slice none 0 0, .slice none 0 0] 54) := ⟨_, rfl⟩
  rw [← hW0, ← hb] at hst
  have HS0 := Lib.hid hst
  have hwn : IntKind.i64.wrap ((n : Int) - 1) = (n : Int) - 1 := IntWalk.i64_in _ (by omega)
  have HW0 := Lib.hid hW0
  have HBW := Lib.hid hb.symm
  have HF := Lib.hid h.f
  have HOK := Lib.hid ok
  clear hst h hF hb hW0
  have HI1 := Lib.hid (inW_any p 0 ((n : Int) - 1) false (decide_eq_false (by omega)))
  go_enter Tryd.func21, Tryd.ntmps21
  go_upto_region 1 with fail
  rw [← HW0.out, HBW.out]
  obtain ⟨q0, q1, q2, q3, q4, q5, q6, q7, q8⟩ := HS0.out.q
  have fq0 := HS0.out.box.free 0
  have fq1 := HS0.out.box.free 1
  have fq2 := HS0.out.box.free 2
  have fq3 := HS0.out.box.free 3
  have fq4 := HS0.out.box.free 4
  have fq5 := HS0.out.box.free 5
  have fq6 := HS0.out.box.free 6
  have fq7 := HS0.out.box.free 7
  have fq8 := HS0.out.box.free 8
  obtain ⟨r0, r1, r2, r3, r4, r5, r6, r7, r8⟩ := HS0.out.r
  have fr0 := HS0.out.res.free 0
  have fr1 := HS0.out.res.free 1
  have fr2 := HS0.out.res.free 2
  have fr3 := HS0.out.res.free 3
  have fr4 := HS0.out.res.free 4
  have fr5 := HS0.out.res.free 5
  have fr6 := HS0.out.res.free 6
  have fr7 := HS0.out.res.free 7
  have fr8 := HS0.out.res.free 8
  go_wp2_with (go_at_call 26; (with_reducible refine (HI1.out _).mono ?_); rintro e w' ⟨rfl, rfl⟩)
  refine bodyPost_ret (v := .tuple _) (results_cell4 rfl _ _ (b + 1) 54 _ (0, 0) _ rfl HS0.out.told.1 Tryd.underlying54 rfl (by kernel_rfl)) rfl (StpT.of ⟨_, _, _, _, _, _, _, _, _, _, rfl, ⟨HS0.out.told.2.2, HF.out⟩, HS0.out.told.2.1⟩)
set_option maxHeartbeats 8000000 in
set_option maxRecDepth 100000 in
theorem sidle {F : Nat → Prop} {n : Nat} {s : FG} {vl : Nat → Int} {v0 v1 v2 v3 v4 v5 v6 v7 v8 : Value} {fx : Nat → Int} (w : World) (h : RK F w n s.v vl v0 v1 v2 v3 v4 v5 v6 v7 v8 fx) (hF : ∀ b, F b → b < w.heap.size) (ok : FOk n s) (_hk40 : s.v.k ≤ 40) (h1 : 1 ≤ n) (h4 : n ≤ 4) {q : Nat} (hq : q < n) (ha : (s.v.h q).a = 0) :
    Calls Tryd.prog 21 #[.agg #[v0, v1, v2, v3, v4, v5, v6, v7, v8], .int .i64 (q : Int)] w fun e w' => StpT F w w' n false (0) (7) s.v vl e := by
  have e0 : v0 = .int .i64 s.v.hd := h.rv.p0
  have e1 : v1 = .int .i64 s.v.tl := h.rv.p1
  subst e0 e1
  obtain ⟨A2, c2, rfl⟩ := SL.form h.rv.p2
  obtain ⟨A3, c3, rfl⟩ := SL.form h.rv.p3
  obtain ⟨A4, c4, rfl⟩ := SL.form h.rv.p4
  obtain ⟨A5, c5, rfl⟩ := SL.form h.rv.p5
  obtain ⟨A6, c6, rfl⟩ := SL.form h.rv.p6
  obtain ⟨A7, c7, rfl⟩ := SL.form h.rv.p7
  obtain ⟨A8, c8, rfl⟩ := SL.form h.rv.p8
  have hst := RS.start h.rv hF
  obtain ⟨b, hb⟩ : ∃ b, b = w.heap.size := ⟨_, rfl⟩
  obtain ⟨W0, hW0⟩ : ∃ W0, W0 = (w.alloc (.cells #[.int .i64 s.v.hd, .int .i64 s.v.tl, .slice A2 s.v.k c2, .slice A3 s.v.k c3, .slice A4 n c4, .slice A5 n c5, .slice A6 n c6, .slice A7 n c7, .slice A8 n c8] 54)).alloc (.cells #[.int .i64 0, .int .i64 0, .slice none 0 0, .slice none 0 0, .slice none 0 0, .slice none 0 0, .slice none 0 0, .slice none 0 0, .slice none 0 0] 54) := ⟨_, rfl⟩
  rw [← hW0, ← hb] at hst
  have HS0 := Lib.hid hst
  have hwn : IntKind.i64.wrap ((n : Int) - 1) = (n : Int) - 1 := IntWalk.i64_in _ (by omega)
  have HW0 := Lib.hid hW0
  have HBW := Lib.hid hb.symm
  have HF := Lib.hid h.f
  have HOK := Lib.hid ok
  clear hst h hF hb hW0
  have HI1 := Lib.hid (inW_any q 0 ((n : Int) - 1) true (decide_eq_true (by omega)))
  have hqI : (q : Int) < n := by omega
  obtain ⟨bt, ot, rfl, _, _, hct⟩ := nm_at HS0.out.v.p4 hq
  rw [ha] at hct
  go_enter Tryd.func21, Tryd.ntmps21
  go_upto_region 1 with fail
  rw [← HW0.out, HBW.out]
  obtain ⟨q0, q1, q2, q3, q4, q5, q6, q7, q8⟩ := HS0.out.q
  have fq0 := HS0.out.box.free 0
  have fq1 := HS0.out.box.free 1
  have fq2 := HS0.out.box.free 2
  have fq3 := HS0.out.box.free 3
  have fq4 := HS0.out.box.free 4
  have fq5 := HS0.out.box.free 5
  have fq6 := HS0.out.box.free 6
  have fq7 := HS0.out.box.free 7
  have fq8 := HS0.out.box.free 8
  obtain ⟨r0, r1, r2, r3, r4, r5, r6, r7, r8⟩ := HS0.out.r
  have fr0 := HS0.out.res.free 0
  have fr1 := HS0.out.res.free 1
  have fr2 := HS0.out.res.free 2
  have fr3 := HS0.out.res.free 3
  have fr4 := HS0.out.res.free 4
  have fr5 := HS0.out.res.free 5
  have fr6 := HS0.out.res.free 6
  have fr7 := HS0.out.res.free 7
  have fr8 := HS0.out.res.free 8
  go_wp2_with (go_at_call 26; (with_reducible refine (HI1.out _).mono ?_); rintro e w' ⟨rfl, rfl⟩)
  refine bodyPost_ret (v := .tuple _) (results_cell4 rfl _ _ (b + 1) 54 _ (0, 0) _ rfl HS0.out.told.1 Tryd.underlying54 rfl (by kernel_rfl)) rfl (StpT.of ⟨_, _, _, _, _, _, _, _, _, _, rfl, ⟨HS0.out.told.2.2, HF.out⟩, HS0.out.told.2.1⟩)
set_option maxHeartbeats 8000000 in
set_option maxRecDepth 100000 in
theorem s1 {F : Nat → Prop} {n : Nat} {s : FG} {vl : Nat → Int} {v0 v1 v2 v3 v4 v5 v6 v7 v8 : Value} {fx : Nat → Int} (w : World) (h : RK F w n s.v vl v0 v1 v2 v3 v4 v5 v6 v7 v8 fx) (hF : ∀ b, F b → b < w.heap.size) (ok : FOk n s) (_hk40 : s.v.k ≤ 40) (h1 : 1 ≤ n) (h4 : n ≤ 4) {q : Nat} (hq : q < n) (ha : (s.v.h q).a = 1) :
    Calls Tryd.prog 21 #[.agg #[v0, v1, v2, v3, v4, v5, v6, v7, v8], .int .i64 (q : Int)] w fun e w' => StpT F w w' n false (0) (0) (⟨fput s.v.h q ⟨2, (s.v.h q).e, s.v.tl, (s.v.h q).h, (s.v.h q).x⟩, s.v.nx, s.v.k, s.v.hd, s.v.tl⟩ : FS) vl e := by
  have e0 : v0 = .int .i64 s.v.hd := h.rv.p0
  have e1 : v1 = .int .i64 s.v.tl := h.rv.p1
  subst e0 e1
  obtain ⟨A2, c2, rfl⟩ := SL.form h.rv.p2
  obtain ⟨A3, c3, rfl⟩ := SL.form h.rv.p3
  obtain ⟨A4, c4, rfl⟩ := SL.form h.rv.p4
  obtain ⟨A5, c5, rfl⟩ := SL.form h.rv.p5
  obtain ⟨A6, c6, rfl⟩ := SL.form h.rv.p6
  obtain ⟨A7, c7, rfl⟩ := SL.form h.rv.p7
  obtain ⟨A8, c8, rfl⟩ := SL.form h.rv.p8
  have hst := RS.start h.rv hF
  obtain ⟨b, hb⟩ : ∃ b, b = w.heap.size := ⟨_, rfl⟩
  obtain ⟨W0, hW0⟩ : ∃ W0, W0 = (w.alloc (.cells #[.int .i64 s.v.hd, .int .i64 s.v.tl, .slice A2 s.v.k c2, .slice A3 s.v.k c3, .slice A4 n c4, .slice A5 n c5, .slice A6 n c6, .slice A7 n c7, .slice A8 n c8] 54)).alloc (.cells #[.int .i64 0, .int .i64 0, .slice none 0 0, .slice none 0 0, .slice none 0 0, .slice none 0 0, .slice none 0 0, .slice none 0 0, .slice none 0 0] 54) := ⟨_, rfl⟩
  rw [← hW0, ← hb] at hst
  have HS0 := Lib.hid hst
  have hwn : IntKind.i64.wrap ((n : Int) - 1) = (n : Int) - 1 := IntWalk.i64_in _ (by omega)
  have HW0 := Lib.hid hW0
  have HBW := Lib.hid hb.symm
  have HF := Lib.hid h.f
  have HOK := Lib.hid ok
  clear hst h hF hb hW0
  have HI1 := Lib.hid (inW_any q 0 ((n : Int) - 1) true (decide_eq_true (by omega)))
  have hqI : (q : Int) < n := by omega
  obtain ⟨bt, ot, rfl, _, _, hct⟩ := nm_at HS0.out.v.p4 hq
  rw [ha] at hct
  go_enter Tryd.func21, Tryd.ntmps21
  go_upto_region 1 with fail
  rw [← HW0.out, HBW.out]
  obtain ⟨q0, q1, q2, q3, q4, q5, q6, q7, q8⟩ := HS0.out.q
  have fq0 := HS0.out.box.free 0
  have fq1 := HS0.out.box.free 1
  have fq2 := HS0.out.box.free 2
  have fq3 := HS0.out.box.free 3
  have fq4 := HS0.out.box.free 4
  have fq5 := HS0.out.box.free 5
  have fq6 := HS0.out.box.free 6
  have fq7 := HS0.out.box.free 7
  have fq8 := HS0.out.box.free 8
  obtain ⟨r0, r1, r2, r3, r4, r5, r6, r7, r8⟩ := HS0.out.r
  have fr0 := HS0.out.res.free 0
  have fr1 := HS0.out.res.free 1
  have fr2 := HS0.out.res.free 2
  have fr3 := HS0.out.res.free 3
  have fr4 := HS0.out.res.free 4
  have fr5 := HS0.out.res.free 5
  have fr6 := HS0.out.res.free 6
  have fr7 := HS0.out.res.free 7
  have fr8 := HS0.out.res.free 8
  go_upto_region 8 with (first | (go_at_call 26; (with_reducible refine (HI1.out _).mono ?_); rintro e w' ⟨rfl, rfl⟩) | (go_at_call 27; (with_reducible refine (set_nm ((s.v.tl : Nat) : Int) HS0.out.hF HS0.out.v.p6 hq (by omega)).mono ?_); rintro e w1 ⟨E1, e1, rfl, hn, hb⟩; have HN1 := Lib.hid hn; have HC1 := Lib.hid (HS0.out.call hb); have qd := HC1.out.q.2.2.2.2.2.2.1; have fd1 := HC1.out.box.free 6; clear hn hb))
  clear hct
  clear q0 fq0 r0 fr0 q1 fq1 r1 fr1 q2 fq2 r2 fr2 q3 fq3 r3 fr3 q4 fq4 r4 fr4 q5 fq5 r5 fr5 q6 fq6 r6 fr6 q7 fq7 r7 fr7 q8 fq8 r8 fr8
  clear qd fd1
  have hs1 := HC1.out.put6 (nm_stb _ _) HN1.out
  obtain ⟨V1, hV1⟩ : ∃ V, V = w1.setCell ⟨b, 6, none⟩ (.slice E1 n e1) := ⟨_, rfl⟩
  rw [← hV1] at hs1 ⊢
  have HS1 := Lib.hid hs1
  clear hs1 hV1 HC1 HN1
  obtain ⟨q0, q1, q2, q3, q4, q5, q6, q7, q8⟩ := HS1.out.q
  have fq0 := HS1.out.box.free 0
  have fq1 := HS1.out.box.free 1
  have fq2 := HS1.out.box.free 2
  have fq3 := HS1.out.box.free 3
  have fq4 := HS1.out.box.free 4
  have fq5 := HS1.out.box.free 5
  have fq6 := HS1.out.box.free 6
  have fq7 := HS1.out.box.free 7
  have fq8 := HS1.out.box.free 8
  obtain ⟨r0, r1, r2, r3, r4, r5, r6, r7, r8⟩ := HS1.out.r
  have fr0 := HS1.out.res.free 0
  have fr1 := HS1.out.res.free 1
  have fr2 := HS1.out.res.free 2
  have fr3 := HS1.out.res.free 3
  have fr4 := HS1.out.res.free 4
  have fr5 := HS1.out.res.free 5
  have fr6 := HS1.out.res.free 6
  have fr7 := HS1.out.res.free 7
  have fr8 := HS1.out.res.free 8
  have HAT := Lib.hid (at_ref (F := FB F b) V1 HS1.out.v HS1.out.hF h4 hq 2)
  go_wp2_with (go_at_call 40; (with_reducible refine HAT.out.mono ?_); rintro e wa ⟨Ea, ea, rfl, hn, hb⟩; have HNa := Lib.hid hn; have HCa := Lib.hid (HS1.out.call hb); clear q0 fq0 r0 fr0 q1 fq1 r1 fr1 q2 fq2 r2 fr2 q3 fq3 r3 fr3 q4 fq4 r4 fr4 q5 fq5 r5 fr5 q6 fq6 r6 fr6 q7 fq7 r7 fr7 q8 fq8 r8 fr8; obtain ⟨r0, r1, r2, r3, r4, r5, r6, r7, r8⟩ := HCa.out.r; have fr0 := HCa.out.res.free 0; have fr1 := HCa.out.res.free 1; have fr2 := HCa.out.res.free 2; have fr3 := HCa.out.res.free 3; have fr4 := HCa.out.res.free 4; have fr5 := HCa.out.res.free 5; have fr6 := HCa.out.res.free 6; have fr7 := HCa.out.res.free 7; have fr8 := HCa.out.res.free 8; clear hn hb)
  have hva := (⟨HCa.out.v.p0, HCa.out.v.p1, HCa.out.v.p2, HCa.out.v.p3, HNa.out, HCa.out.v.p5, HCa.out.v.p6, HCa.out.v.p7, HCa.out.v.p8, HCa.out.v.s0, HCa.out.v.s1, HCa.out.v.s2, HCa.out.v.s3, nm_stb _ _, HCa.out.v.s5, HCa.out.v.s6, HCa.out.v.s7, HCa.out.v.s8⟩ : RV (FB F b) wa _ _ _ _ (.slice Ea n ea) _ _ _ _ _ _ _ _ _ _ _ _ _)
  have HTa := Lib.hid (HCa.out.told2 hva)
  refine bodyPost_ret (v := .tuple _) (results_cell4 rfl _ _ (b + 1) 54 _ (0, 0) _ rfl HTa.out.1 Tryd.underlying54 rfl (by kernel_rfl)) rfl (StpT.of ⟨_, _, _, _, _, _, _, _, _, _, rfl, RK.mk' HTa.out.2.2 rfl rfl rfl rfl (fun _ _ => rfl) (fun _ _ => rfl) ?_ ?_ ?_ ?_ ?_, HTa.out.2.1⟩)
  · intro p _
    show _ = (((fput s.v.h q _ p).a : Nat) : Int)
    by_cases e : p = q
    · subst e; first | (rw [rput_same, fput_same]; done) | (rw [rput_same, fput_same]; rfl) | (rw [fput_same])
    · first | rw [rput_other e, fput_other e] | rw [fput_other e]
  · intro p _
    show _ = (((fput s.v.h q _ p).e : Nat) : Int)
    by_cases e : p = q
    · subst e; first | (rw [rput_same, fput_same]; done) | (rw [rput_same, fput_same]; rfl) | (rw [fput_same])
    · first | rw [rput_other e, fput_other e] | rw [fput_other e]
  · intro p _
    show _ = (((fput s.v.h q _ p).t : Nat) : Int)
    by_cases e : p = q
    · subst e; first | (rw [rput_same, fput_same]; done) | (rw [rput_same, fput_same]; rfl) | (rw [fput_same])
    · first | rw [rput_other e, fput_other e] | rw [fput_other e]
  · intro p _
    show _ = (((fput s.v.h q _ p).h : Nat) : Int)
    by_cases e : p = q
    · subst e; first | (rw [rput_same, fput_same]; done) | (rw [rput_same, fput_same]; rfl) | (rw [fput_same])
    · first | rw [rput_other e, fput_other e] | rw [fput_other e]
  · intro p hp h
    replace h : (fput s.v.h q _ p).a = 4 ∨ (fput s.v.h q _ p).a = 9 ∨ (fput s.v.h q _ p).a = 10 := h
    show _ = fi (fput s.v.h q _ p).x
    by_cases e : p = q
    · subst e; rw [fput_same] at h ⊢; (have h : 2 = 4 ∨ 2 = 9 ∨ 2 = 10 := h); omega
    · rw [fput_other e] at h ⊢; first | (rw [rput_other e]; exact HF.out p hp h) | exact HF.out p hp h
set_option maxHeartbeats 8000000 in
set_option maxRecDepth 100000 in
theorem s6 {F : Nat → Prop} {n : Nat} {s : FG} {vl : Nat → Int} {v0 v1 v2 v3 v4 v5 v6 v7 v8 : Value} {fx : Nat → Int} (w : World) (h : RK F w n s.v vl v0 v1 v2 v3 v4 v5 v6 v7 v8 fx) (hF : ∀ b, F b → b < w.heap.size) (ok : FOk n s) (_hk40 : s.v.k ≤ 40) (h1 : 1 ≤ n) (h4 : n ≤ 4) {q : Nat} (hq : q < n) (ha : (s.v.h q).a = 6) :
    Calls Tryd.prog 21 #[.agg #[v0, v1, v2, v3, v4, v5, v6, v7, v8], .int .i64 (q : Int)] w fun e w' => StpT F w w' n false (0) (0) (⟨fput s.v.h q ⟨7, (s.v.h q).e, (s.v.h q).t, s.v.hd, (s.v.h q).x⟩, s.v.nx, s.v.k, s.v.hd, s.v.tl⟩ : FS) vl e := by
  have e0 : v0 = .int .i64 s.v.hd := h.rv.p0
  have e1 : v1 = .int .i64 s.v.tl := h.rv.p1
  subst e0 e1
  obtain ⟨A2, c2, rfl⟩ := SL.form h.rv.p2
  obtain ⟨A3, c3, rfl⟩ := SL.form h.rv.p3
  obtain ⟨A4, c4, rfl⟩ := SL.form h.rv.p4
  obtain ⟨A5, c5, rfl⟩ := SL.form h.rv.p5
  obtain ⟨A6, c6, rfl⟩ := SL.form h.rv.p6
  obtain ⟨A7, c7, rfl⟩ := SL.form h.rv.p7
  obtain ⟨A8, c8, rfl⟩ := SL.form h.rv.p8
  have hst := RS.start h.rv hF
  obtain ⟨b, hb⟩ : ∃ b, b = w.heap.size := ⟨_, rfl⟩
  obtain ⟨W0, hW0⟩ : ∃ W0, W0 = (w.alloc (.cells #[.int .i64 s.v.hd, .int .i64 s.v.tl, .slice A2 s.v.k c2, .slice A3 s.v.k c3, .slice A4 n c4, .slice A5 n c5, .slice A6 n c6, .slice A7 n c7, .slice A8 n c8] 54)).alloc (.cells #[.int .i64 0, .int .i64 0, .slice none 0 0, .slice none 0 0, .slice none 0 0, .slice none 0 0, .slice none 0 0, .slice none 0 0, .slice none 0 0] 54) := ⟨_, rfl⟩
  rw [← hW0, ← hb] at hst
  have HS0 := Lib.hid hst
  have hwn : IntKind.i64.wrap ((n : Int) - 1) = (n : Int) - 1 := IntWalk.i64_in _ (by omega)
  have HW0 := Lib.hid hW0
  have HBW := Lib.hid hb.symm
  have HF := Lib.hid h.f
  have HOK := Lib.hid ok
  clear hst h hF hb hW0
  have HI1 := Lib.hid (inW_any q 0 ((n : Int) - 1) true (decide_eq_true (by omega)))
  have hqI : (q : Int) < n := by omega
  obtain ⟨bt, ot, rfl, _, _, hct⟩ := nm_at HS0.out.v.p4 hq
  rw [ha] at hct
  go_enter Tryd.func21, Tryd.ntmps21
  go_upto_region 1 with fail
  rw [← HW0.out, HBW.out]
  obtain ⟨q0, q1, q2, q3, q4, q5, q6, q7, q8⟩ := HS0.out.q
  have fq0 := HS0.out.box.free 0
  have fq1 := HS0.out.box.free 1
  have fq2 := HS0.out.box.free 2
  have fq3 := HS0.out.box.free 3
  have fq4 := HS0.out.box.free 4
  have fq5 := HS0.out.box.free 5
  have fq6 := HS0.out.box.free 6
  have fq7 := HS0.out.box.free 7
  have fq8 := HS0.out.box.free 8
  obtain ⟨r0, r1, r2, r3, r4, r5, r6, r7, r8⟩ := HS0.out.r
  have fr0 := HS0.out.res.free 0
  have fr1 := HS0.out.res.free 1
  have fr2 := HS0.out.res.free 2
  have fr3 := HS0.out.res.free 3
  have fr4 := HS0.out.res.free 4
  have fr5 := HS0.out.res.free 5
  have fr6 := HS0.out.res.free 6
  have fr7 := HS0.out.res.free 7
  have fr8 := HS0.out.res.free 8
  go_upto_region 29 with (first | (go_at_call 26; (with_reducible refine (HI1.out _).mono ?_); rintro e w' ⟨rfl, rfl⟩) | (go_at_call 27; (with_reducible refine (set_nm ((s.v.hd : Nat) : Int) HS0.out.hF HS0.out.v.p7 hq (by omega)).mono ?_); rintro e w1 ⟨E1, e1, rfl, hn, hb⟩; have HN1 := Lib.hid hn; have HC1 := Lib.hid (HS0.out.call hb); have qd := HC1.out.q.2.2.2.2.2.2.2.1; have fd1 := HC1.out.box.free 7; clear hn hb))
  clear hct
  clear q0 fq0 r0 fr0 q1 fq1 r1 fr1 q2 fq2 r2 fr2 q3 fq3 r3 fr3 q4 fq4 r4 fr4 q5 fq5 r5 fr5 q6 fq6 r6 fr6 q7 fq7 r7 fr7 q8 fq8 r8 fr8
  clear qd fd1
  have hs1 := HC1.out.put7 (nm_stb _ _) HN1.out
  obtain ⟨V1, hV1⟩ : ∃ V, V = w1.setCell ⟨b, 7, none⟩ (.slice E1 n e1) := ⟨_, rfl⟩
  rw [← hV1] at hs1 ⊢
  have HS1 := Lib.hid hs1
  clear hs1 hV1 HC1 HN1
  obtain ⟨q0, q1, q2, q3, q4, q5, q6, q7, q8⟩ := HS1.out.q
  have fq0 := HS1.out.box.free 0
  have fq1 := HS1.out.box.free 1
  have fq2 := HS1.out.box.free 2
  have fq3 := HS1.out.box.free 3
  have fq4 := HS1.out.box.free 4
  have fq5 := HS1.out.box.free 5
  have fq6 := HS1.out.box.free 6
  have fq7 := HS1.out.box.free 7
  have fq8 := HS1.out.box.free 8
  obtain ⟨r0, r1, r2, r3, r4, r5, r6, r7, r8⟩ := HS1.out.r
  have fr0 := HS1.out.res.free 0
  have fr1 := HS1.out.res.free 1
  have fr2 := HS1.out.res.free 2
  have fr3 := HS1.out.res.free 3
  have fr4 := HS1.out.res.free 4
  have fr5 := HS1.out.res.free 5
  have fr6 := HS1.out.res.free 6
  have fr7 := HS1.out.res.free 7
  have fr8 := HS1.out.res.free 8
  have HAT := Lib.hid (at_ref (F := FB F b) V1 HS1.out.v HS1.out.hF h4 hq 7)
  go_wp2_with (go_at_call 40; (with_reducible refine HAT.out.mono ?_); rintro e wa ⟨Ea, ea, rfl, hn, hb⟩; have HNa := Lib.hid hn; have HCa := Lib.hid (HS1.out.call hb); clear q0 fq0 r0 fr0 q1 fq1 r1 fr1 q2 fq2 r2 fr2 q3 fq3 r3 fr3 q4 fq4 r4 fr4 q5 fq5 r5 fr5 q6 fq6 r6 fr6 q7 fq7 r7 fr7 q8 fq8 r8 fr8; obtain ⟨r0, r1, r2, r3, r4, r5, r6, r7, r8⟩ := HCa.out.r; have fr0 := HCa.out.res.free 0; have fr1 := HCa.out.res.free 1; have fr2 := HCa.out.res.free 2; have fr3 := HCa.out.res.free 3; have fr4 := HCa.out.res.free 4; have fr5 := HCa.out.res.free 5; have fr6 := HCa.out.res.free 6; have fr7 := HCa.out.res.free 7; have fr8 := HCa.out.res.free 8; clear hn hb)
  have hva := (⟨HCa.out.v.p0, HCa.out.v.p1, HCa.out.v.p2, HCa.out.v.p3, HNa.out, HCa.out.v.p5, HCa.out.v.p6, HCa.out.v.p7, HCa.out.v.p8, HCa.out.v.s0, HCa.out.v.s1, HCa.out.v.s2, HCa.out.v.s3, nm_stb _ _, HCa.out.v.s5, HCa.out.v.s6, HCa.out.v.s7, HCa.out.v.s8⟩ : RV (FB F b) wa _ _ _ _ (.slice Ea n ea) _ _ _ _ _ _ _ _ _ _ _ _ _)
  have HTa := Lib.hid (HCa.out.told2 hva)
  refine bodyPost_ret (v := .tuple _) (results_cell4 rfl _ _ (b + 1) 54 _ (0, 0) _ rfl HTa.out.1 Tryd.underlying54 rfl (by kernel_rfl)) rfl (StpT.of ⟨_, _, _, _, _, _, _, _, _, _, rfl, RK.mk' HTa.out.2.2 rfl rfl rfl rfl (fun _ _ => rfl) (fun _ _ => rfl) ?_ ?_ ?_ ?_ ?_, HTa.out.2.1⟩)
  · intro p _
    show _ = (((fput s.v.h q _ p).a : Nat) : Int)
    by_cases e : p = q
    · subst e; first | (rw [rput_same, fput_same]; done) | (rw [rput_same, fput_same]; rfl) | (rw [fput_same])
    · first | rw [rput_other e, fput_other e] | rw [fput_other e]
  · intro p _
    show _ = (((fput s.v.h q _ p).e : Nat) : Int)
    by_cases e : p = q
    · subst e; first | (rw [rput_same, fput_same]; done) | (rw [rput_same, fput_same]; rfl) | (rw [fput_same])
    · first | rw [rput_other e, fput_other e] | rw [fput_other e]
  · intro p _
    show _ = (((fput s.v.h q _ p).t : Nat) : Int)
    by_cases e : p = q
    · subst e; first | (rw [rput_same, fput_same]; done) | (rw [rput_same, fput_same]; rfl) | (rw [fput_same])
    · first | rw [rput_other e, fput_other e] | rw [fput_other e]
  · intro p _
    show _ = (((fput s.v.h q _ p).h : Nat) : Int)
    by_cases e : p = q
    · subst e; first | (rw [rput_same, fput_same]; done) | (rw [rput_same, fput_same]; rfl) | (rw [fput_same])
    · first | rw [rput_other e, fput_other e] | rw [fput_other e]
  · intro p hp h
    replace h : (fput s.v.h q _ p).a = 4 ∨ (fput s.v.h q _ p).a = 9 ∨ (fput s.v.h q _ p).a = 10 := h
    show _ = fi (fput s.v.h q _ p).x
    by_cases e : p = q
    · subst e; rw [fput_same] at h ⊢; (have h : 7 = 4 ∨ 7 = 9 ∨ 7 = 10 := h); omega
    · rw [fput_other e] at h ⊢; first | (rw [rput_other e]; exact HF.out p hp h) | exact HF.out p hp h
set_option maxHeartbeats 8000000 in
set_option maxRecDepth 100000 in
theorem s7 {F : Nat → Prop} {n : Nat} {s : FG} {vl : Nat → Int} {v0 v1 v2 v3 v4 v5 v6 v7 v8 : Value} {fx : Nat → Int} (w : World) (h : RK F w n s.v vl v0 v1 v2 v3 v4 v5 v6 v7 v8 fx) (hF : ∀ b, F b → b < w.heap.size) (ok : FOk n s) (_hk40 : s.v.k ≤ 40) (h1 : 1 ≤ n) (h4 : n ≤ 4) {q : Nat} (hq : q < n) (ha : (s.v.h q).a = 7) :
    Calls Tryd.prog 21 #[.agg #[v0, v1, v2, v3, v4, v5, v6, v7, v8], .int .i64 (q : Int)] w fun e w' => StpT F w w' n false (0) (0) (⟨fput s.v.h q ⟨8, (s.v.h q).e, s.v.tl, (s.v.h q).h, (s.v.h q).x⟩, s.v.nx, s.v.k, s.v.hd, s.v.tl⟩ : FS) vl e := by
  have e0 : v0 = .int .i64 s.v.hd := h.rv.p0
  have e1 : v1 = .int .i64 s.v.tl := h.rv.p1
  subst e0 e1
  obtain ⟨A2, c2, rfl⟩ := SL.form h.rv.p2
  obtain ⟨A3, c3, rfl⟩ := SL.form h.rv.p3
  obtain ⟨A4, c4, rfl⟩ := SL.form h.rv.p4
  obtain ⟨A5, c5, rfl⟩ := SL.form h.rv.p5
  obtain ⟨A6, c6, rfl⟩ := SL.form h.rv.p6
  obtain ⟨A7, c7, rfl⟩ := SL.form h.rv.p7
  obtain ⟨A8, c8, rfl⟩ := SL.form h.rv.p8
  have hst := RS.start h.rv hF
  obtain ⟨b, hb⟩ : ∃ b, b = w.heap.size := ⟨_, rfl⟩
  obtain ⟨W0, hW0⟩ : ∃ W0, W0 = (w.alloc (.cells #[.int .i64 s.v.hd, .int .i64 s.v.tl, .slice A2 s.v.k c2, .slice A3 s.v.k c3, .slice A4 n c4, .slice A5 n c5, .slice A6 n c6, .slice A7 n c7, .slice A8 n c8] 54)).alloc (.cells #[.int .i64 0, .int .i64 0, .slice none 0 0, .slice none 0 0, .slice none 0 0, .slice none 0 0, .slice none 0 0, .slice none 0 0, .slice none 0 0] 54) := ⟨_, rfl⟩
  rw [← hW0, ← hb] at hst
  have HS0 := Lib.hid hst
  have hwn : IntKind.i64.wrap ((n : Int) - 1) = (n : Int) - 1 := IntWalk.i64_in _ (by omega)
  have HW0 := Lib.hid hW0
  have HBW := Lib.hid hb.symm
  have HF := Lib.hid h.f
  have HOK := Lib.hid ok
  clear hst h hF hb hW0
  have HI1 := Lib.hid (inW_any q 0 ((n : Int) - 1) true (decide_eq_true (by omega)))
  have hqI : (q : Int) < n := by omega
  obtain ⟨bt, ot, rfl, _, _, hct⟩ := nm_at HS0.out.v.p4 hq
  rw [ha] at hct
  go_enter Tryd.func21, Tryd.ntmps21
  go_upto_region 1 with fail
  rw [← HW0.out, HBW.out]
  obtain ⟨q0, q1, q2, q3, q4, q5, q6, q7, q8⟩ := HS0.out.q
  have fq0 := HS0.out.box.free 0
  have fq1 := HS0.out.box.free 1
  have fq2 := HS0.out.box.free 2
  have fq3 := HS0.out.box.free 3
  have fq4 := HS0.out.box.free 4
  have fq5 := HS0.out.box.free 5
  have fq6 := HS0.out.box.free 6
  have fq7 := HS0.out.box.free 7
  have fq8 := HS0.out.box.free 8
  obtain ⟨r0, r1, r2, r3, r4, r5, r6, r7, r8⟩ := HS0.out.r
  have fr0 := HS0.out.res.free 0
  have fr1 := HS0.out.res.free 1
  have fr2 := HS0.out.res.free 2
  have fr3 := HS0.out.res.free 3
  have fr4 := HS0.out.res.free 4
  have fr5 := HS0.out.res.free 5
  have fr6 := HS0.out.res.free 6
  have fr7 := HS0.out.res.free 7
  have fr8 := HS0.out.res.free 8
  go_upto_region 32 with (first | (go_at_call 26; (with_reducible refine (HI1.out _).mono ?_); rintro e w' ⟨rfl, rfl⟩) | (go_at_call 27; (with_reducible refine (set_nm ((s.v.tl : Nat) : Int) HS0.out.hF HS0.out.v.p6 hq (by omega)).mono ?_); rintro e w1 ⟨E1, e1, rfl, hn, hb⟩; have HN1 := Lib.hid hn; have HC1 := Lib.hid (HS0.out.call hb); have qd := HC1.out.q.2.2.2.2.2.2.1; have fd1 := HC1.out.box.free 6; clear hn hb))
  clear hct
  clear q0 fq0 r0 fr0 q1 fq1 r1 fr1 q2 fq2 r2 fr2 q3 fq3 r3 fr3 q4 fq4 r4 fr4 q5 fq5 r5 fr5 q6 fq6 r6 fr6 q7 fq7 r7 fr7 q8 fq8 r8 fr8
  clear qd fd1
  have hs1 := HC1.out.put6 (nm_stb _ _) HN1.out
  obtain ⟨V1, hV1⟩ : ∃ V, V = w1.setCell ⟨b, 6, none⟩ (.slice E1 n e1) := ⟨_, rfl⟩
  rw [← hV1] at hs1 ⊢
  have HS1 := Lib.hid hs1
  clear hs1 hV1 HC1 HN1
  obtain ⟨q0, q1, q2, q3, q4, q5, q6, q7, q8⟩ := HS1.out.q
  have fq0 := HS1.out.box.free 0
  have fq1 := HS1.out.box.free 1
  have fq2 := HS1.out.box.free 2
  have fq3 := HS1.out.box.free 3
  have fq4 := HS1.out.box.free 4
  have fq5 := HS1.out.box.free 5
  have fq6 := HS1.out.box.free 6
  have fq7 := HS1.out.box.free 7
  have fq8 := HS1.out.box.free 8
  obtain ⟨r0, r1, r2, r3, r4, r5, r6, r7, r8⟩ := HS1.out.r
  have fr0 := HS1.out.res.free 0
  have fr1 := HS1.out.res.free 1
  have fr2 := HS1.out.res.free 2
  have fr3 := HS1.out.res.free 3
  have fr4 := HS1.out.res.free 4
  have fr5 := HS1.out.res.free 5
  have fr6 := HS1.out.res.free 6
  have fr7 := HS1.out.res.free 7
  have fr8 := HS1.out.res.free 8
  have HAT := Lib.hid (at_ref (F := FB F b) V1 HS1.out.v HS1.out.hF h4 hq 8)
  go_wp2_with (go_at_call 40; (with_reducible refine HAT.out.mono ?_); rintro e wa ⟨Ea, ea, rfl, hn, hb⟩; have HNa := Lib.hid hn; have HCa := Lib.hid (HS1.out.call hb); clear q0 fq0 r0 fr0 q1 fq1 r1 fr1 q2 fq2 r2 fr2 q3 fq3 r3 fr3 q4 fq4 r4 fr4 q5 fq5 r5 fr5 q6 fq6 r6 fr6 q7 fq7 r7 fr7 q8 fq8 r8 fr8; obtain ⟨r0, r1, r2, r3, r4, r5, r6, r7, r8⟩ := HCa.out.r; have fr0 := HCa.out.res.free 0; have fr1 := HCa.out.res.free 1; have fr2 := HCa.out.res.free 2; have fr3 := HCa.out.res.free 3; have fr4 := HCa.out.res.free 4; have fr5 := HCa.out.res.free 5; have fr6 := HCa.out.res.free 6; have fr7 := HCa.out.res.free 7; have fr8 := HCa.out.res.free 8; clear hn hb)
  have hva := (⟨HCa.out.v.p0, HCa.out.v.p1, HCa.out.v.p2, HCa.out.v.p3, HNa.out, HCa.out.v.p5, HCa.out.v.p6, HCa.out.v.p7, HCa.out.v.p8, HCa.out.v.s0, HCa.out.v.s1, HCa.out.v.s2, HCa.out.v.s3, nm_stb _ _, HCa.out.v.s5, HCa.out.v.s6, HCa.out.v.s7, HCa.out.v.s8⟩ : RV (FB F b) wa _ _ _ _ (.slice Ea n ea) _ _ _ _ _ _ _ _ _ _ _ _ _)
  have HTa := Lib.hid (HCa.out.told2 hva)
  refine bodyPost_ret (v := .tuple _) (results_cell4 rfl _ _ (b + 1) 54 _ (0, 0) _ rfl HTa.out.1 Tryd.underlying54 rfl (by kernel_rfl)) rfl (StpT.of ⟨_, _, _, _, _, _, _, _, _, _, rfl, RK.mk' HTa.out.2.2 rfl rfl rfl rfl (fun _ _ => rfl) (fun _ _ => rfl) ?_ ?_ ?_ ?_ ?_, HTa.out.2.1⟩)
  · intro p _
    show _ = (((fput s.v.h q _ p).a : Nat) : Int)
    by_cases e : p = q
    · subst e; first | (rw [rput_same, fput_same]; done) | (rw [rput_same, fput_same]; rfl) | (rw [fput_same])
    · first | rw [rput_other e, fput_other e] | rw [fput_other e]
  · intro p _
    show _ = (((fput s.v.h q _ p).e : Nat) : Int)
    by_cases e : p = q
    · subst e; first | (rw [rput_same, fput_same]; done) | (rw [rput_same, fput_same]; rfl) | (rw [fput_same])
    · first | rw [rput_other e, fput_other e] | rw [fput_other e]
  · intro p _
    show _ = (((fput s.v.h q _ p).t : Nat) : Int)
    by_cases e : p = q
    · subst e; first | (rw [rput_same, fput_same]; done) | (rw [rput_same, fput_same]; rfl) | (rw [fput_same])
    · first | rw [rput_other e, fput_other e] | rw [fput_other e]
  · intro p _
    show _ = (((fput s.v.h q _ p).h : Nat) : Int)
    by_cases e : p = q
    · subst e; first | (rw [rput_same, fput_same]; done) | (rw [rput_same, fput_same]; rfl) | (rw [fput_same])
    · first | rw [rput_other e, fput_other e] | rw [fput_other e]
  · intro p hp h
    replace h : (fput s.v.h q _ p).a = 4 ∨ (fput s.v.h q _ p).a = 9 ∨ (fput s.v.h q _ p).a = 10 := h
    show _ = fi (fput s.v.h q _ p).x
    by_cases e : p = q
    · subst e; rw [fput_same] at h ⊢; (have h : 8 = 4 ∨ 8 = 9 ∨ 8 = 10 := h); omega
    · rw [fput_other e] at h ⊢; first | (rw [rput_other e]; exact HF.out p hp h) | exact HF.out p hp h
end Go.Proofs.YtnplhjbbkccdnaaDoor.Fif
