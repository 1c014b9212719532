/-
  The reference of package deque: StepDeque: d5e, d5n, d6, d7n, d9, d10y, d10n, d12n.
-/
import Derived.Test.YtbicckeoidijpaaDoorDqRef
namespace Go.Proofs.YtbicckeoidijpaaDoor.Dq
open Go.RowKit Rf

set_option maxHeartbeats 8000000 in
set_option maxRecDepth 100000 in
theorem d5e {F : Nat → Prop} {n : Nat} {s : DV} {v0 v1 v2 v3 v4 v5 v6 : Value} (w : World) (h : RD F w n s v0 v1 v2 v3 v4 v5 v6) (hF : ∀ b, F b → b < w.heap.size) (h4 : n ≤ 4) {q : Nat} (hq : q < n) (ha : s.a q = 5) (hf : ¬ (s.T : Int) < s.b q) (he : s.b q = s.T) :
    Calls Tryd.prog 12 #[.agg #[v0, v1, v2, v3, v4, v5, v6], .int .i64 (q : Int)] w fun e w' => DpT F w w' n (dvstp s q) false (0) (0) e := by
  have e1 : v1 = .int .i64 ((s.T : Nat) : Int) := h.p1
  have e2 : v2 = .int .i64 s.B := h.p2
  subst e1 e2
  obtain ⟨A0, c0, rfl⟩ := SL.form h.p0
  obtain ⟨A3, c3, rfl⟩ := SL.form h.p3
  obtain ⟨A4, c4, rfl⟩ := SL.form h.p4
  obtain ⟨A5, c5, rfl⟩ := SL.form h.p5
  obtain ⟨A6, c6, rfl⟩ := SL.form h.p6
  have hst := RS.start h hF
  obtain ⟨b, hb⟩ : ∃ b, b = w.heap.size := ⟨_, rfl⟩
  obtain ⟨W0, hW0⟩ : ∃ W0, W0 = (w.alloc (.cells #[.slice A0 8 c0, .int .i64 ((s.T : Nat) : Int), .int .i64 s.B, .slice A3 n c3, .slice A4 n c4, .slice A5 n c5, .slice A6 n c6] 31)).alloc (.cells #[.slice none 0 0, .int .i64 0, .int .i64 0, .slice none 0 0, .slice none 0 0, .slice none 0 0, .slice none 0 0] 31) := ⟨_, rfl⟩
  rw [← hW0, ← hb] at hst
  have hwn : IntKind.i64.wrap ((n : Int) - 1) = (n : Int) - 1 := IntWalk.i64_in _ (by omega)
  have HS0 := Lib.hid hst
  have HW0 := Lib.hid hW0
  have HBW := Lib.hid hb.symm
  clear hst h hF hb hW0
  rw [(v5e (s := s) ha hf he).1]
  obtain ⟨z, hz⟩ : ∃ z, z = s.b q := ⟨_, rfl⟩
  have hf2 : ¬ ((s.T : Nat) : Int) < z := by rw [hz]; exact hf
  have hf2d : decide (((s.T : Nat) : Int) < z) = false := decide_eq_false hf2
  have he2 : (z == ((s.T : Nat) : Int)) = true := by rw [hz]; simp [he]
  have HI1 := Lib.hid (inW_any q 0 ((n : Int) - 1) true (decide_eq_true (by omega)))
  have hqI : (q : Int) < n := by omega
  obtain ⟨b3, o3, rfl, _, _, hct⟩ := nm_at HS0.out.v.p3 hq
  rw [ha] at hct
  obtain ⟨b4, o4, rfl, _, _, _⟩ := nm_at HS0.out.v.p4 hq
  obtain ⟨b5, o5, rfl, _, _, _⟩ := nm_at HS0.out.v.p5 hq
  have hw2 : IntKind.i64.wrap (5 + 1) = 6 := by rfl
  clear ha
  have HZ := Lib.hid hz
  clear hf he hz
  go_enter Tryd.func12, Tryd.ntmps12
  go_upto_region 1 with fail
  rw [← HW0.out, HBW.out]
  obtain ⟨q0, q1, q2, q3, q4, q5, q6⟩ := HS0.out.q
  have fq0 := HS0.out.box.free 0
  have fq1 := HS0.out.box.free 1
  have fq2 := HS0.out.box.free 2
  have fq3 := HS0.out.box.free 3
  have fq4 := HS0.out.box.free 4
  have fq5 := HS0.out.box.free 5
  have fq6 := HS0.out.box.free 6
  obtain ⟨r0, r1, r2, r3, r4, r5, r6⟩ := HS0.out.r
  have fr0 := HS0.out.res.free 0
  have fr1 := HS0.out.res.free 1
  have fr2 := HS0.out.res.free 2
  have fr3 := HS0.out.res.free 3
  have fr4 := HS0.out.res.free 4
  have fr5 := HS0.out.res.free 5
  have fr6 := HS0.out.res.free 6
  go_upto_region 7 with (first | (go_at_call 22; (with_reducible refine (HI1.out _).mono ?_); rintro e w' ⟨rfl, rfl⟩) | (go_at_call 19; (with_reducible refine (set_nm 0 HS0.out.hF HS0.out.v.p3 hq (by omega)).mono ?_); rintro e w1 ⟨E1, e1, rfl, hn, hb⟩; have HN1 := Lib.hid hn; have HC1 := Lib.hid (HS0.out.call hb); have qd := HC1.out.q.2.2.2.1; have fd1 := HC1.out.box.free 3; clear hn hb))
  clear hct
  clear q0 fq0 r0 fr0 q1 fq1 r1 fr1 q2 fq2 r2 fr2 q3 fq3 r3 fr3 q4 fq4 r4 fr4 q5 fq5 r5 fr5 q6 fq6 r6 fr6
  clear qd fd1
  have hs1 := HC1.out.put3 (nm_stb _ _) HN1.out
  obtain ⟨V1, hV1⟩ : ∃ V, V = w1.setCell ⟨b, 3, none⟩ (.slice E1 n e1) := ⟨_, rfl⟩
  rw [← hV1] at hs1 ⊢
  have HS1 := Lib.hid hs1
  clear hs1 hV1 HC1 HN1
  obtain ⟨q0, q1, q2, q3, q4, q5, q6⟩ := HS1.out.q
  have fq0 := HS1.out.box.free 0
  have fq1 := HS1.out.box.free 1
  have fq2 := HS1.out.box.free 2
  have fq3 := HS1.out.box.free 3
  have fq4 := HS1.out.box.free 4
  have fq5 := HS1.out.box.free 5
  have fq6 := HS1.out.box.free 6
  obtain ⟨r0, r1, r2, r3, r4, r5, r6⟩ := HS1.out.r
  have fr0 := HS1.out.res.free 0
  have fr1 := HS1.out.res.free 1
  have fr2 := HS1.out.res.free 2
  have fr3 := HS1.out.res.free 3
  have fr4 := HS1.out.res.free 4
  have fr5 := HS1.out.res.free 5
  have fr6 := HS1.out.res.free 6
  obtain ⟨xg4, yg4, eeg4, _, _, g4⟩ := nm_at HS1.out.v.p4 hq
  injection eeg4 with eeg4
  injection eeg4 with eeg4 ffg4 _
  subst eeg4 ffg4
  obtain ⟨xg5, yg5, eeg5, _, _, g5⟩ := nm_at HS1.out.v.p5 hq
  injection eeg5 with eeg5
  injection eeg5 with eeg5 ffg5 _
  subst eeg5 ffg5
  rw [← HZ.out] at g5
  clear HZ
  go_upto_region 24 with (go_at_call 19; (with_reducible refine (set_nm ((s.T : Nat) : Int) HS1.out.hF HS1.out.v.p4 hq (by omega)).mono ?_); rintro e w2 ⟨E2, e2, rfl, hn, hb⟩; have HN2 := Lib.hid hn; have HC2 := Lib.hid (HS1.out.call hb); have qd := HC2.out.q.2.2.2.2.1; have fd2 := HC2.out.box.free 4; clear hn hb)
  clear g4 g5
  clear q0 fq0 r0 fr0 q1 fq1 r1 fr1 q2 fq2 r2 fr2 q3 fq3 r3 fr3 q4 fq4 r4 fr4 q5 fq5 r5 fr5 q6 fq6 r6 fr6
  clear qd fd2
  have hs2 := HC2.out.put4 (nm_stb _ _) HN2.out
  obtain ⟨V2, hV2⟩ : ∃ V, V = w2.setCell ⟨b, 4, none⟩ (.slice E2 n e2) := ⟨_, rfl⟩
  rw [← hV2] at hs2 ⊢
  have HS2 := Lib.hid hs2
  clear hs2 hV2 HC2 HN2
  obtain ⟨q0, q1, q2, q3, q4, q5, q6⟩ := HS2.out.q
  have fq0 := HS2.out.box.free 0
  have fq1 := HS2.out.box.free 1
  have fq2 := HS2.out.box.free 2
  have fq3 := HS2.out.box.free 3
  have fq4 := HS2.out.box.free 4
  have fq5 := HS2.out.box.free 5
  have fq6 := HS2.out.box.free 6
  obtain ⟨r0, r1, r2, r3, r4, r5, r6⟩ := HS2.out.r
  have fr0 := HS2.out.res.free 0
  have fr1 := HS2.out.res.free 1
  have fr2 := HS2.out.res.free 2
  have fr3 := HS2.out.res.free 3
  have fr4 := HS2.out.res.free 4
  have fr5 := HS2.out.res.free 5
  have fr6 := HS2.out.res.free 6
  go_upto_region 52 with (go_at_call 19; (with_reducible refine (set_nm 7 HS2.out.hF HS2.out.v.p3 hq (by omega)).mono ?_); rintro e w9 ⟨E9, e9, rfl, hn, hb⟩; have HN9 := Lib.hid hn; have HC9 := Lib.hid (HS2.out.call hb); have qd := HC9.out.q.2.2.2.1; have fd9 := HC9.out.box.free 3; clear hn hb)
  clear q0 fq0 r0 fr0 q1 fq1 r1 fr1 q2 fq2 r2 fr2 q3 fq3 r3 fr3 q4 fq4 r4 fr4 q5 fq5 r5 fr5 q6 fq6 r6 fr6
  clear qd fd9
  have hs9 := HC9.out.put3 (nm_stb _ _) HN9.out
  obtain ⟨V9, hV9⟩ : ∃ V, V = w9.setCell ⟨b, 3, none⟩ (.slice E9 n e9) := ⟨_, rfl⟩
  rw [← hV9] at hs9 ⊢
  have HS9 := Lib.hid hs9
  clear hs9 hV9 HC9 HN9
  obtain ⟨q0, q1, q2, q3, q4, q5, q6⟩ := HS9.out.q
  have fq0 := HS9.out.box.free 0
  have fq1 := HS9.out.box.free 1
  have fq2 := HS9.out.box.free 2
  have fq3 := HS9.out.box.free 3
  have fq4 := HS9.out.box.free 4
  have fq5 := HS9.out.box.free 5
  have fq6 := HS9.out.box.free 6
  obtain ⟨r0, r1, r2, r3, r4, r5, r6⟩ := HS9.out.r
  have fr0 := HS9.out.res.free 0
  have fr1 := HS9.out.res.free 1
  have fr2 := HS9.out.res.free 2
  have fr3 := HS9.out.res.free 3
  have fr4 := HS9.out.res.free 4
  have fr5 := HS9.out.res.free 5
  have fr6 := HS9.out.res.free 6
  go_wp2
  have hrv := HS9.out.told.2.2
  refine bodyPost_ret (v := .tuple _) (results_cell4 rfl _ _ (b + 1) 31 _ (0, 0) _ rfl HS9.out.told.1 Tryd.underlying31 rfl (by kernel_rfl)) rfl (DpT.of ⟨_, _, _, _, _, _, _, rfl, ?rd, HS9.out.told.2.1⟩)
  case rd =>
    refine RD.mk' hrv ?_ rfl rfl ?_ ?_ ?_ ?_
    all_goals first | (intro p _; rfl) | (intro p _; by_cases e : p = q; (subst e; simp only [dvto, rput_same, dput_same] <;> rfl); (simp only [dvto, rput_other e, dput_other e]))
set_option maxHeartbeats 8000000 in
set_option maxRecDepth 100000 in
theorem d5n {F : Nat → Prop} {n : Nat} {s : DV} {v0 v1 v2 v3 v4 v5 v6 : Value} (w : World) (h : RD F w n s v0 v1 v2 v3 v4 v5 v6) (hF : ∀ b, F b → b < w.heap.size) (h4 : n ≤ 4) {q : Nat} (hq : q < n) (ha : s.a q = 5) (hf : ¬ (s.T : Int) < s.b q) (he : ¬ s.b q = s.T) :
    Calls Tryd.prog 12 #[.agg #[v0, v1, v2, v3, v4, v5, v6], .int .i64 (q : Int)] w fun e w' => DpT F w w' n (dvstp s q) false (0) (0) e := by
  have e1 : v1 = .int .i64 ((s.T : Nat) : Int) := h.p1
  have e2 : v2 = .int .i64 s.B := h.p2
  subst e1 e2
  obtain ⟨A0, c0, rfl⟩ := SL.form h.p0
  obtain ⟨A3, c3, rfl⟩ := SL.form h.p3
  obtain ⟨A4, c4, rfl⟩ := SL.form h.p4
  obtain ⟨A5, c5, rfl⟩ := SL.form h.p5
  obtain ⟨A6, c6, rfl⟩ := SL.form h.p6
  have hst := RS.start h hF
  obtain ⟨b, hb⟩ : ∃ b, b = w.heap.size := ⟨_, rfl⟩
  obtain ⟨W0, hW0⟩ : ∃ W0, W0 = (w.alloc (.cells #[.slice A0 8 c0, .int .i64 ((s.T : Nat) : Int), .int .i64 s.B, .slice A3 n c3, .slice A4 n c4, .slice A5 n c5, .slice A6 n c6] 31)).alloc (.cells #[.slice none 0 0, .int .i64 0, .int .i64 0, .slice none 0 0, .slice none 0 0, .slice none 0 0, .slice none 0 0] 31) := ⟨_, rfl⟩
  rw [← hW0, ← hb] at hst
  have hwn : IntKind.i64.wrap ((n : Int) - 1) = (n : Int) - 1 := IntWalk.i64_in _ (by omega)
  have HS0 := Lib.hid hst
  have HW0 := Lib.hid hW0
  have HBW := Lib.hid hb.symm
  clear hst h hF hb hW0
  rw [(v5n (s := s) ha hf he).1]
  obtain ⟨z, hz⟩ : ∃ z, z = s.b q := ⟨_, rfl⟩
  have hf2 : ¬ ((s.T : Nat) : Int) < z := by rw [hz]; exact hf
  have hf2d : decide (((s.T : Nat) : Int) < z) = false := decide_eq_false hf2
  have he2 : (z == ((s.T : Nat) : Int)) = false := by rw [hz]; simp [he]
  have HI1 := Lib.hid (inW_any q 0 ((n : Int) - 1) true (decide_eq_true (by omega)))
  have hqI : (q : Int) < n := by omega
  obtain ⟨b3, o3, rfl, _, _, hct⟩ := nm_at HS0.out.v.p3 hq
  rw [ha] at hct
  obtain ⟨b4, o4, rfl, _, _, _⟩ := nm_at HS0.out.v.p4 hq
  obtain ⟨b5, o5, rfl, _, _, _⟩ := nm_at HS0.out.v.p5 hq
  have hw2 : IntKind.i64.wrap (5 + 1) = 6 := by rfl
  clear ha
  have HZ := Lib.hid hz
  clear hf he hz
  go_enter Tryd.func12, Tryd.ntmps12
  go_upto_region 1 with fail
  rw [← HW0.out, HBW.out]
  obtain ⟨q0, q1, q2, q3, q4, q5, q6⟩ := HS0.out.q
  have fq0 := HS0.out.box.free 0
  have fq1 := HS0.out.box.free 1
  have fq2 := HS0.out.box.free 2
  have fq3 := HS0.out.box.free 3
  have fq4 := HS0.out.box.free 4
  have fq5 := HS0.out.box.free 5
  have fq6 := HS0.out.box.free 6
  obtain ⟨r0, r1, r2, r3, r4, r5, r6⟩ := HS0.out.r
  have fr0 := HS0.out.res.free 0
  have fr1 := HS0.out.res.free 1
  have fr2 := HS0.out.res.free 2
  have fr3 := HS0.out.res.free 3
  have fr4 := HS0.out.res.free 4
  have fr5 := HS0.out.res.free 5
  have fr6 := HS0.out.res.free 6
  go_upto_region 7 with (first | (go_at_call 22; (with_reducible refine (HI1.out _).mono ?_); rintro e w' ⟨rfl, rfl⟩) | (go_at_call 19; (with_reducible refine (set_nm 0 HS0.out.hF HS0.out.v.p3 hq (by omega)).mono ?_); rintro e w1 ⟨E1, e1, rfl, hn, hb⟩; have HN1 := Lib.hid hn; have HC1 := Lib.hid (HS0.out.call hb); have qd := HC1.out.q.2.2.2.1; have fd1 := HC1.out.box.free 3; clear hn hb))
  clear hct
  clear q0 fq0 r0 fr0 q1 fq1 r1 fr1 q2 fq2 r2 fr2 q3 fq3 r3 fr3 q4 fq4 r4 fr4 q5 fq5 r5 fr5 q6 fq6 r6 fr6
  clear qd fd1
  have hs1 := HC1.out.put3 (nm_stb _ _) HN1.out
  obtain ⟨V1, hV1⟩ : ∃ V, V = w1.setCell ⟨b, 3, none⟩ (.slice E1 n e1) := ⟨_, rfl⟩
  rw [← hV1] at hs1 ⊢
  have HS1 := Lib.hid hs1
  clear hs1 hV1 HC1 HN1
  obtain ⟨q0, q1, q2, q3, q4, q5, q6⟩ := HS1.out.q
  have fq0 := HS1.out.box.free 0
  have fq1 := HS1.out.box.free 1
  have fq2 := HS1.out.box.free 2
  have fq3 := HS1.out.box.free 3
  have fq4 := HS1.out.box.free 4
  have fq5 := HS1.out.box.free 5
  have fq6 := HS1.out.box.free 6
  obtain ⟨r0, r1, r2, r3, r4, r5, r6⟩ := HS1.out.r
  have fr0 := HS1.out.res.free 0
  have fr1 := HS1.out.res.free 1
  have fr2 := HS1.out.res.free 2
  have fr3 := HS1.out.res.free 3
  have fr4 := HS1.out.res.free 4
  have fr5 := HS1.out.res.free 5
  have fr6 := HS1.out.res.free 6
  obtain ⟨xg4, yg4, eeg4, _, _, g4⟩ := nm_at HS1.out.v.p4 hq
  injection eeg4 with eeg4
  injection eeg4 with eeg4 ffg4 _
  subst eeg4 ffg4
  obtain ⟨xg5, yg5, eeg5, _, _, g5⟩ := nm_at HS1.out.v.p5 hq
  injection eeg5 with eeg5
  injection eeg5 with eeg5 ffg5 _
  subst eeg5 ffg5
  rw [← HZ.out] at g5
  clear HZ
  go_upto_region 24 with (go_at_call 19; (with_reducible refine (set_nm ((s.T : Nat) : Int) HS1.out.hF HS1.out.v.p4 hq (by omega)).mono ?_); rintro e w2 ⟨E2, e2, rfl, hn, hb⟩; have HN2 := Lib.hid hn; have HC2 := Lib.hid (HS1.out.call hb); have qd := HC2.out.q.2.2.2.2.1; have fd2 := HC2.out.box.free 4; clear hn hb)
  clear g4 g5
  clear q0 fq0 r0 fr0 q1 fq1 r1 fr1 q2 fq2 r2 fr2 q3 fq3 r3 fr3 q4 fq4 r4 fr4 q5 fq5 r5 fr5 q6 fq6 r6 fr6
  clear qd fd2
  have hs2 := HC2.out.put4 (nm_stb _ _) HN2.out
  obtain ⟨V2, hV2⟩ : ∃ V, V = w2.setCell ⟨b, 4, none⟩ (.slice E2 n e2) := ⟨_, rfl⟩
  rw [← hV2] at hs2 ⊢
  have HS2 := Lib.hid hs2
  clear hs2 hV2 HC2 HN2
  obtain ⟨q0, q1, q2, q3, q4, q5, q6⟩ := HS2.out.q
  have fq0 := HS2.out.box.free 0
  have fq1 := HS2.out.box.free 1
  have fq2 := HS2.out.box.free 2
  have fq3 := HS2.out.box.free 3
  have fq4 := HS2.out.box.free 4
  have fq5 := HS2.out.box.free 5
  have fq6 := HS2.out.box.free 6
  obtain ⟨r0, r1, r2, r3, r4, r5, r6⟩ := HS2.out.r
  have fr0 := HS2.out.res.free 0
  have fr1 := HS2.out.res.free 1
  have fr2 := HS2.out.res.free 2
  have fr3 := HS2.out.res.free 3
  have fr4 := HS2.out.res.free 4
  have fr5 := HS2.out.res.free 5
  have fr6 := HS2.out.res.free 6
  go_upto_region 52 with (go_at_call 19; (with_reducible refine (set_nm 6 HS2.out.hF HS2.out.v.p3 hq (by omega)).mono ?_); rintro e w9 ⟨E9, e9, rfl, hn, hb⟩; have HN9 := Lib.hid hn; have HC9 := Lib.hid (HS2.out.call hb); have qd := HC9.out.q.2.2.2.1; have fd9 := HC9.out.box.free 3; clear hn hb)
  clear q0 fq0 r0 fr0 q1 fq1 r1 fr1 q2 fq2 r2 fr2 q3 fq3 r3 fr3 q4 fq4 r4 fr4 q5 fq5 r5 fr5 q6 fq6 r6 fr6
  clear qd fd9
  have hs9 := HC9.out.put3 (nm_stb _ _) HN9.out
  obtain ⟨V9, hV9⟩ : ∃ V, V = w9.setCell ⟨b, 3, none⟩ (.slice E9 n e9) := ⟨_, rfl⟩
  rw [← hV9] at hs9 ⊢
  have HS9 := Lib.hid hs9
  clear hs9 hV9 HC9 HN9
  obtain ⟨q0, q1, q2, q3, q4, q5, q6⟩ := HS9.out.q
  have fq0 := HS9.out.box.free 0
  have fq1 := HS9.out.box.free 1
  have fq2 := HS9.out.box.free 2
  have fq3 := HS9.out.box.free 3
  have fq4 := HS9.out.box.free 4
  have fq5 := HS9.out.box.free 5
  have fq6 := HS9.out.box.free 6
  obtain ⟨r0, r1, r2, r3, r4, r5, r6⟩ := HS9.out.r
  have fr0 := HS9.out.res.free 0
  have fr1 := HS9.out.res.free 1
  have fr2 := HS9.out.res.free 2
  have fr3 := HS9.out.res.free 3
  have fr4 := HS9.out.res.free 4
  have fr5 := HS9.out.res.free 5
  have fr6 := HS9.out.res.free 6
  go_wp2
  have hrv := HS9.out.told.2.2
  refine bodyPost_ret (v := .tuple _) (results_cell4 rfl _ _ (b + 1) 31 _ (0, 0) _ rfl HS9.out.told.1 Tryd.underlying31 rfl (by kernel_rfl)) rfl (DpT.of ⟨_, _, _, _, _, _, _, rfl, ?rd, HS9.out.told.2.1⟩)
  case rd =>
    refine RD.mk' hrv ?_ rfl rfl ?_ ?_ ?_ ?_
    all_goals first | (intro p _; rfl) | (intro p _; by_cases e : p = q; (subst e; simp only [dvto, rput_same, dput_same] <;> rfl); (simp only [dvto, rput_other e, dput_other e]))
set_option maxHeartbeats 8000000 in
set_option maxRecDepth 100000 in
theorem d6 {F : Nat → Prop} {n : Nat} {s : DV} {v0 v1 v2 v3 v4 v5 v6 : Value} (w : World) (h : RD F w n s v0 v1 v2 v3 v4 v5 v6) (hF : ∀ b, F b → b < w.heap.size) (h4 : n ≤ 4) {q : Nat} (hq : q < n) (ha : s.a q = 6) :
    Calls Tryd.prog 12 #[.agg #[v0, v1, v2, v3, v4, v5, v6], .int .i64 (q : Int)] w fun e w' => DpT F w w' n (dvstp s q) true (-1) (0) e := by
  have e1 : v1 = .int .i64 ((s.T : Nat) : Int) := h.p1
  have e2 : v2 = .int .i64 s.B := h.p2
  subst e1 e2
  obtain ⟨A0, c0, rfl⟩ := SL.form h.p0
  obtain ⟨A3, c3, rfl⟩ := SL.form h.p3
  obtain ⟨A4, c4, rfl⟩ := SL.form h.p4
  obtain ⟨A5, c5, rfl⟩ := SL.form h.p5
  obtain ⟨A6, c6, rfl⟩ := SL.form h.p6
  have hst := RS.start h hF
  obtain ⟨b, hb⟩ : ∃ b, b = w.heap.size := ⟨_, rfl⟩
  obtain ⟨W0, hW0⟩ : ∃ W0, W0 = (w.alloc (.cells #[.slice A0 8 c0, .int .i64 ((s.T : Nat) : Int), .int .i64 s.B, .slice A3 n c3, .slice A4 n c4, .slice A5 n c5, .slice A6 n c6] 31)).alloc (.cells #[.slice none 0 0, .int .i64 0, .int .i64 0, .slice none 0 0, .slice none 0 0, .slice none 0 0, .slice none 0 0] 31) := ⟨_, rfl⟩
  rw [← hW0, ← hb] at hst
  have hwn : IntKind.i64.wrap ((n : Int) - 1) = (n : Int) - 1 := IntWalk.i64_in _ (by omega)
  have HS0 := Lib.hid hst
  have HW0 := Lib.hid hW0
  have HBW := Lib.hid hb.symm
  clear hst h hF hb hW0
  rw [(v6 (s := s) ha).1]
  have HI1 := Lib.hid (inW_any q 0 ((n : Int) - 1) true (decide_eq_true (by omega)))
  have hqI : (q : Int) < n := by omega
  obtain ⟨b3, o3, rfl, _, _, hct⟩ := nm_at HS0.out.v.p3 hq
  rw [ha] at hct
  obtain ⟨b4, o4, rfl, _, _, _⟩ := nm_at HS0.out.v.p4 hq
  obtain ⟨b5, o5, rfl, _, _, _⟩ := nm_at HS0.out.v.p5 hq
  have hw2 : IntKind.i64.wrap (6 + 1) = 7 := by rfl
  clear ha
  go_enter Tryd.func12, Tryd.ntmps12
  go_upto_region 1 with fail
  rw [← HW0.out, HBW.out]
  obtain ⟨q0, q1, q2, q3, q4, q5, q6⟩ := HS0.out.q
  have fq0 := HS0.out.box.free 0
  have fq1 := HS0.out.box.free 1
  have fq2 := HS0.out.box.free 2
  have fq3 := HS0.out.box.free 3
  have fq4 := HS0.out.box.free 4
  have fq5 := HS0.out.box.free 5
  have fq6 := HS0.out.box.free 6
  obtain ⟨r0, r1, r2, r3, r4, r5, r6⟩ := HS0.out.r
  have fr0 := HS0.out.res.free 0
  have fr1 := HS0.out.res.free 1
  have fr2 := HS0.out.res.free 2
  have fr3 := HS0.out.res.free 3
  have fr4 := HS0.out.res.free 4
  have fr5 := HS0.out.res.free 5
  have fr6 := HS0.out.res.free 6
  go_upto_region 7 with (first | (go_at_call 22; (with_reducible refine (HI1.out _).mono ?_); rintro e w' ⟨rfl, rfl⟩) | (go_at_call 19; (with_reducible refine (set_nm 0 HS0.out.hF HS0.out.v.p3 hq (by omega)).mono ?_); rintro e w1 ⟨E1, e1, rfl, hn, hb⟩; have HN1 := Lib.hid hn; have HC1 := Lib.hid (HS0.out.call hb); have qd := HC1.out.q.2.2.2.1; have fd1 := HC1.out.box.free 3; clear hn hb))
  clear hct
  clear q0 fq0 r0 fr0 q1 fq1 r1 fr1 q2 fq2 r2 fr2 q3 fq3 r3 fr3 q4 fq4 r4 fr4 q5 fq5 r5 fr5 q6 fq6 r6 fr6
  clear qd fd1
  have hs1 := HC1.out.put3 (nm_stb _ _) HN1.out
  obtain ⟨V1, hV1⟩ : ∃ V, V = w1.setCell ⟨b, 3, none⟩ (.slice E1 n e1) := ⟨_, rfl⟩
  rw [← hV1] at hs1 ⊢
  have HS1 := Lib.hid hs1
  clear hs1 hV1 HC1 HN1
  obtain ⟨q0, q1, q2, q3, q4, q5, q6⟩ := HS1.out.q
  have fq0 := HS1.out.box.free 0
  have fq1 := HS1.out.box.free 1
  have fq2 := HS1.out.box.free 2
  have fq3 := HS1.out.box.free 3
  have fq4 := HS1.out.box.free 4
  have fq5 := HS1.out.box.free 5
  have fq6 := HS1.out.box.free 6
  obtain ⟨r0, r1, r2, r3, r4, r5, r6⟩ := HS1.out.r
  have fr0 := HS1.out.res.free 0
  have fr1 := HS1.out.res.free 1
  have fr2 := HS1.out.res.free 2
  have fr3 := HS1.out.res.free 3
  have fr4 := HS1.out.res.free 4
  have fr5 := HS1.out.res.free 5
  have fr6 := HS1.out.res.free 6
  obtain ⟨xg4, yg4, eeg4, _, _, g4⟩ := nm_at HS1.out.v.p4 hq
  injection eeg4 with eeg4
  injection eeg4 with eeg4 ffg4 _
  subst eeg4 ffg4
  obtain ⟨xg5, yg5, eeg5, _, _, g5⟩ := nm_at HS1.out.v.p5 hq
  injection eeg5 with eeg5
  injection eeg5 with eeg5 ffg5 _
  subst eeg5 ffg5
  go_upto_region 30 with fail
  clear g4 g5
  clear q0 fq0 r0 fr0 q1 fq1 r1 fr1 q2 fq2 r2 fr2 q3 fq3 r3 fr3 q4 fq4 r4 fr4 q5 fq5 r5 fr5 q6 fq6 r6 fr6
  have hpV2 := HS1.out.put2 (isInt_stb _) (u := .int .i64 ((s.t q : Nat) : Int)) (Q := isInt ((s.t q : Nat) : Int)) rfl
  obtain ⟨V2, hVV2⟩ : ∃ V, V = V1.setCell ⟨b, 2, none⟩ (.int .i64 ((s.t q : Nat) : Int)) := ⟨_, rfl⟩
  rw [← hVV2] at hpV2 ⊢
  have HS2 := Lib.hid hpV2
  clear hpV2 hVV2
  obtain ⟨q0, q1, q2, q3, q4, q5, q6⟩ := HS2.out.q
  have fq0 := HS2.out.box.free 0
  have fq1 := HS2.out.box.free 1
  have fq2 := HS2.out.box.free 2
  have fq3 := HS2.out.box.free 3
  have fq4 := HS2.out.box.free 4
  have fq5 := HS2.out.box.free 5
  have fq6 := HS2.out.box.free 6
  obtain ⟨r0, r1, r2, r3, r4, r5, r6⟩ := HS2.out.r
  have fr0 := HS2.out.res.free 0
  have fr1 := HS2.out.res.free 1
  have fr2 := HS2.out.res.free 2
  have fr3 := HS2.out.res.free 3
  have fr4 := HS2.out.res.free 4
  have fr5 := HS2.out.res.free 5
  have fr6 := HS2.out.res.free 6
  go_wp2_with fail
  have hrv := HS2.out.told.2.2
  refine bodyPost_ret (v := .tuple _) (results_cell4 rfl _ _ (b + 1) 31 _ (0, 0) _ rfl HS2.out.told.1 Tryd.underlying31 rfl (by kernel_rfl)) rfl (DpT.of ⟨_, _, _, _, _, _, _, rfl, ?rd, HS2.out.told.2.1⟩)
  case rd =>
    refine RD.mk' hrv ?_ rfl rfl ?_ ?_ ?_ ?_
    all_goals first | (intro p _; rfl) | (intro p _; by_cases e : p = q; (subst e; simp only [dvto, rput_same, dput_same] <;> rfl); (simp only [dvto, rput_other e, dput_other e]))
set_option maxHeartbeats 8000000 in
set_option maxRecDepth 100000 in
theorem d7n {F : Nat → Prop} {n : Nat} {s : DV} {v0 v1 v2 v3 v4 v5 v6 : Value} (w : World) (h : RD F w n s v0 v1 v2 v3 v4 v5 v6) (hF : ∀ b, F b → b < w.heap.size) (h4 : n ≤ 4) {q : Nat} (hq : q < n) (ha : s.a q = 7) (hf : ¬ s.T = s.t q) :
    Calls Tryd.prog 12 #[.agg #[v0, v1, v2, v3, v4, v5, v6], .int .i64 (q : Int)] w fun e w' => DpT F w w' n (dvstp s q) false (0) (0) e := by
  have e1 : v1 = .int .i64 ((s.T : Nat) : Int) := h.p1
  have e2 : v2 = .int .i64 s.B := h.p2
  subst e1 e2
  obtain ⟨A0, c0, rfl⟩ := SL.form h.p0
  obtain ⟨A3, c3, rfl⟩ := SL.form h.p3
  obtain ⟨A4, c4, rfl⟩ := SL.form h.p4
  obtain ⟨A5, c5, rfl⟩ := SL.form h.p5
  obtain ⟨A6, c6, rfl⟩ := SL.form h.p6
  have hst := RS.start h hF
  obtain ⟨b, hb⟩ : ∃ b, b = w.heap.size := ⟨_, rfl⟩
  obtain ⟨W0, hW0⟩ : ∃ W0, W0 = (w.alloc (.cells #[.slice A0 8 c0, .int .i64 ((s.T : Nat) : Int), .int .i64 s.B, .slice A3 n c3, .slice A4 n c4, .slice A5 n c5, .slice A6 n c6] 31)).alloc (.cells #[.slice none 0 0, .int .i64 0, .int .i64 0, .slice none 0 0, .slice none 0 0, .slice none 0 0, .slice none 0 0] 31) := ⟨_, rfl⟩
  rw [← hW0, ← hb] at hst
  have hwn : IntKind.i64.wrap ((n : Int) - 1) = (n : Int) - 1 := IntWalk.i64_in _ (by omega)
  have HS0 := Lib.hid hst
  have HW0 := Lib.hid hW0
  have HBW := Lib.hid hb.symm
  clear hst h hF hb hW0
  rw [(v7n (s := s) ha hf).1]
  have hfI : (((s.T : Nat) : Int) == ((s.t q : Nat) : Int)) = false := by simp; omega
  have hfN : (s.T == s.t q) = false := by simp [hf]
  have HI1 := Lib.hid (inW_any q 0 ((n : Int) - 1) true (decide_eq_true (by omega)))
  have hqI : (q : Int) < n := by omega
  obtain ⟨b3, o3, rfl, _, _, hct⟩ := nm_at HS0.out.v.p3 hq
  rw [ha] at hct
  obtain ⟨b4, o4, rfl, _, _, _⟩ := nm_at HS0.out.v.p4 hq
  obtain ⟨b5, o5, rfl, _, _, _⟩ := nm_at HS0.out.v.p5 hq
  have hw2 : IntKind.i64.wrap (7 + 1) = 8 := by rfl
  clear ha
  clear hf
  go_enter Tryd.func12, Tryd.ntmps12
  go_upto_region 1 with fail
  rw [← HW0.out, HBW.out]
  obtain ⟨q0, q1, q2, q3, q4, q5, q6⟩ := HS0.out.q
  have fq0 := HS0.out.box.free 0
  have fq1 := HS0.out.box.free 1
  have fq2 := HS0.out.box.free 2
  have fq3 := HS0.out.box.free 3
  have fq4 := HS0.out.box.free 4
  have fq5 := HS0.out.box.free 5
  have fq6 := HS0.out.box.free 6
  obtain ⟨r0, r1, r2, r3, r4, r5, r6⟩ := HS0.out.r
  have fr0 := HS0.out.res.free 0
  have fr1 := HS0.out.res.free 1
  have fr2 := HS0.out.res.free 2
  have fr3 := HS0.out.res.free 3
  have fr4 := HS0.out.res.free 4
  have fr5 := HS0.out.res.free 5
  have fr6 := HS0.out.res.free 6
  go_upto_region 7 with (first | (go_at_call 22; (with_reducible refine (HI1.out _).mono ?_); rintro e w' ⟨rfl, rfl⟩) | (go_at_call 19; (with_reducible refine (set_nm 0 HS0.out.hF HS0.out.v.p3 hq (by omega)).mono ?_); rintro e w1 ⟨E1, e1, rfl, hn, hb⟩; have HN1 := Lib.hid hn; have HC1 := Lib.hid (HS0.out.call hb); have qd := HC1.out.q.2.2.2.1; have fd1 := HC1.out.box.free 3; clear hn hb))
  clear hct
  clear q0 fq0 r0 fr0 q1 fq1 r1 fr1 q2 fq2 r2 fr2 q3 fq3 r3 fr3 q4 fq4 r4 fr4 q5 fq5 r5 fr5 q6 fq6 r6 fr6
  clear qd fd1
  have hs1 := HC1.out.put3 (nm_stb _ _) HN1.out
  obtain ⟨V1, hV1⟩ : ∃ V, V = w1.setCell ⟨b, 3, none⟩ (.slice E1 n e1) := ⟨_, rfl⟩
  rw [← hV1] at hs1 ⊢
  have HS1 := Lib.hid hs1
  clear hs1 hV1 HC1 HN1
  obtain ⟨q0, q1, q2, q3, q4, q5, q6⟩ := HS1.out.q
  have fq0 := HS1.out.box.free 0
  have fq1 := HS1.out.box.free 1
  have fq2 := HS1.out.box.free 2
  have fq3 := HS1.out.box.free 3
  have fq4 := HS1.out.box.free 4
  have fq5 := HS1.out.box.free 5
  have fq6 := HS1.out.box.free 6
  obtain ⟨r0, r1, r2, r3, r4, r5, r6⟩ := HS1.out.r
  have fr0 := HS1.out.res.free 0
  have fr1 := HS1.out.res.free 1
  have fr2 := HS1.out.res.free 2
  have fr3 := HS1.out.res.free 3
  have fr4 := HS1.out.res.free 4
  have fr5 := HS1.out.res.free 5
  have fr6 := HS1.out.res.free 6
  obtain ⟨xg4, yg4, eeg4, _, _, g4⟩ := nm_at HS1.out.v.p4 hq
  injection eeg4 with eeg4
  injection eeg4 with eeg4 ffg4 _
  subst eeg4 ffg4
  obtain ⟨xg5, yg5, eeg5, _, _, g5⟩ := nm_at HS1.out.v.p5 hq
  injection eeg5 with eeg5
  injection eeg5 with eeg5 ffg5 _
  subst eeg5 ffg5
  go_upto_region 33 with (go_at_call 19; (with_reducible refine (set_nm (-1) HS1.out.hF HS1.out.v.p6 hq (by omega)).mono ?_); rintro e w2 ⟨E2, e2, rfl, hn, hb⟩; have HN2 := Lib.hid hn; have HC2 := Lib.hid (HS1.out.call hb); have qd := HC2.out.q.2.2.2.2.2.2; have fd2 := HC2.out.box.free 6; clear hn hb)
  clear g4 g5
  clear q0 fq0 r0 fr0 q1 fq1 r1 fr1 q2 fq2 r2 fr2 q3 fq3 r3 fr3 q4 fq4 r4 fr4 q5 fq5 r5 fr5 q6 fq6 r6 fr6
  clear qd fd2
  have hs2 := HC2.out.put6 (nm_stb _ _) HN2.out
  obtain ⟨V2, hV2⟩ : ∃ V, V = w2.setCell ⟨b, 6, none⟩ (.slice E2 n e2) := ⟨_, rfl⟩
  rw [← hV2] at hs2 ⊢
  have HS2 := Lib.hid hs2
  clear hs2 hV2 HC2 HN2
  obtain ⟨q0, q1, q2, q3, q4, q5, q6⟩ := HS2.out.q
  have fq0 := HS2.out.box.free 0
  have fq1 := HS2.out.box.free 1
  have fq2 := HS2.out.box.free 2
  have fq3 := HS2.out.box.free 3
  have fq4 := HS2.out.box.free 4
  have fq5 := HS2.out.box.free 5
  have fq6 := HS2.out.box.free 6
  obtain ⟨r0, r1, r2, r3, r4, r5, r6⟩ := HS2.out.r
  have fr0 := HS2.out.res.free 0
  have fr1 := HS2.out.res.free 1
  have fr2 := HS2.out.res.free 2
  have fr3 := HS2.out.res.free 3
  have fr4 := HS2.out.res.free 4
  have fr5 := HS2.out.res.free 5
  have fr6 := HS2.out.res.free 6
  go_upto_region 52 with (go_at_call 19; (with_reducible refine (set_nm 8 HS2.out.hF HS2.out.v.p3 hq (by omega)).mono ?_); rintro e w9 ⟨E9, e9, rfl, hn, hb⟩; have HN9 := Lib.hid hn; have HC9 := Lib.hid (HS2.out.call hb); have qd := HC9.out.q.2.2.2.1; have fd9 := HC9.out.box.free 3; clear hn hb)
  clear q0 fq0 r0 fr0 q1 fq1 r1 fr1 q2 fq2 r2 fr2 q3 fq3 r3 fr3 q4 fq4 r4 fr4 q5 fq5 r5 fr5 q6 fq6 r6 fr6
  clear qd fd9
  have hs9 := HC9.out.put3 (nm_stb _ _) HN9.out
  obtain ⟨V9, hV9⟩ : ∃ V, V = w9.setCell ⟨b, 3, none⟩ (.slice E9 n e9) := ⟨_, rfl⟩
  rw [← hV9] at hs9 ⊢
  have HS9 := Lib.hid hs9
  clear hs9 hV9 HC9 HN9
  obtain ⟨q0, q1, q2, q3, q4, q5, q6⟩ := HS9.out.q
  have fq0 := HS9.out.box.free 0
  have fq1 := HS9.out.box.free 1
  have fq2 := HS9.out.box.free 2
  have fq3 := HS9.out.box.free 3
  have fq4 := HS9.out.box.free 4
  have fq5 := HS9.out.box.free 5
  have fq6 := HS9.out.box.free 6
  obtain ⟨r0, r1, r2, r3, r4, r5, r6⟩ := HS9.out.r
  have fr0 := HS9.out.res.free 0
  have fr1 := HS9.out.res.free 1
  have fr2 := HS9.out.res.free 2
  have fr3 := HS9.out.res.free 3
  have fr4 := HS9.out.res.free 4
  have fr5 := HS9.out.res.free 5
  have fr6 := HS9.out.res.free 6
  go_wp2
  have hrv := HS9.out.told.2.2
  refine bodyPost_ret (v := .tuple _) (results_cell4 rfl _ _ (b + 1) 31 _ (0, 0) _ rfl HS9.out.told.1 Tryd.underlying31 rfl (by kernel_rfl)) rfl (DpT.of ⟨_, _, _, _, _, _, _, rfl, ?rd, HS9.out.told.2.1⟩)
  case rd =>
    refine RD.mk' hrv ?_ rfl rfl ?_ ?_ ?_ ?_
    all_goals first | (intro p _; rfl) | (intro p _; by_cases e : p = q; (subst e; simp only [dvto, rput_same, dput_same] <;> rfl); (simp only [dvto, rput_other e, dput_other e]))
set_option maxHeartbeats 8000000 in
set_option maxRecDepth 100000 in
theorem d9 {F : Nat → Prop} {n : Nat} {s : DV} {v0 v1 v2 v3 v4 v5 v6 : Value} (w : World) (h : RD F w n s v0 v1 v2 v3 v4 v5 v6) (hF : ∀ b, F b → b < w.heap.size) (h4 : n ≤ 4) {q : Nat} (hq : q < n) (ha : s.a q = 9) :
    Calls Tryd.prog 12 #[.agg #[v0, v1, v2, v3, v4, v5, v6], .int .i64 (q : Int)] w fun e w' => DpT F w w' n (dvstp s q) false (0) (0) e := by
  have e1 : v1 = .int .i64 ((s.T : Nat) : Int) := h.p1
  have e2 : v2 = .int .i64 s.B := h.p2
  subst e1 e2
  obtain ⟨A0, c0, rfl⟩ := SL.form h.p0
  obtain ⟨A3, c3, rfl⟩ := SL.form h.p3
  obtain ⟨A4, c4, rfl⟩ := SL.form h.p4
  obtain ⟨A5, c5, rfl⟩ := SL.form h.p5
  obtain ⟨A6, c6, rfl⟩ := SL.form h.p6
  have hst := RS.start h hF
  obtain ⟨b, hb⟩ : ∃ b, b = w.heap.size := ⟨_, rfl⟩
  obtain ⟨W0, hW0⟩ : ∃ W0, W0 = (w.alloc (.cells #[.slice A0 8 c0, .int .i64 ((s.T : Nat) : Int), .int .i64 s.B, .slice A3 n c3, .slice A4 n c4, .slice A5 n c5, .slice A6 n c6] 31)).alloc (.cells #[.slice none 0 0, .int .i64 0, .int .i64 0, .slice none 0 0, .slice none 0 0, .slice none 0 0, .slice none 0 0] 31) := ⟨_, rfl⟩
  rw [← hW0, ← hb] at hst
  have hwn : IntKind.i64.wrap ((n : Int) - 1) = (n : Int) - 1 := IntWalk.i64_in _ (by omega)
  have HS0 := Lib.hid hst
  have HW0 := Lib.hid hW0
  have HBW := Lib.hid hb.symm
  clear hst h hF hb hW0
  rw [(v9 (s := s) ha).1]
  have HI1 := Lib.hid (inW_any q 0 ((n : Int) - 1) true (decide_eq_true (by omega)))
  have hqI : (q : Int) < n := by omega
  obtain ⟨b3, o3, rfl, _, _, hct⟩ := nm_at HS0.out.v.p3 hq
  rw [ha] at hct
  obtain ⟨b4, o4, rfl, _, _, _⟩ := nm_at HS0.out.v.p4 hq
  obtain ⟨b5, o5, rfl, _, _, _⟩ := nm_at HS0.out.v.p5 hq
  have hw2 : IntKind.i64.wrap (9 + 1) = 10 := by rfl
  clear ha
  go_enter Tryd.func12, Tryd.ntmps12
  go_upto_region 1 with fail
  rw [← HW0.out, HBW.out]
  obtain ⟨q0, q1, q2, q3, q4, q5, q6⟩ := HS0.out.q
  have fq0 := HS0.out.box.free 0
  have fq1 := HS0.out.box.free 1
  have fq2 := HS0.out.box.free 2
  have fq3 := HS0.out.box.free 3
  have fq4 := HS0.out.box.free 4
  have fq5 := HS0.out.box.free 5
  have fq6 := HS0.out.box.free 6
  obtain ⟨r0, r1, r2, r3, r4, r5, r6⟩ := HS0.out.r
  have fr0 := HS0.out.res.free 0
  have fr1 := HS0.out.res.free 1
  have fr2 := HS0.out.res.free 2
  have fr3 := HS0.out.res.free 3
  have fr4 := HS0.out.res.free 4
  have fr5 := HS0.out.res.free 5
  have fr6 := HS0.out.res.free 6
  go_upto_region 7 with (first | (go_at_call 22; (with_reducible refine (HI1.out _).mono ?_); rintro e w' ⟨rfl, rfl⟩) | (go_at_call 19; (with_reducible refine (set_nm 0 HS0.out.hF HS0.out.v.p3 hq (by omega)).mono ?_); rintro e w1 ⟨E1, e1, rfl, hn, hb⟩; have HN1 := Lib.hid hn; have HC1 := Lib.hid (HS0.out.call hb); have qd := HC1.out.q.2.2.2.1; have fd1 := HC1.out.box.free 3; clear hn hb))
  clear hct
  clear q0 fq0 r0 fr0 q1 fq1 r1 fr1 q2 fq2 r2 fr2 q3 fq3 r3 fr3 q4 fq4 r4 fr4 q5 fq5 r5 fr5 q6 fq6 r6 fr6
  clear qd fd1
  have hs1 := HC1.out.put3 (nm_stb _ _) HN1.out
  obtain ⟨V1, hV1⟩ : ∃ V, V = w1.setCell ⟨b, 3, none⟩ (.slice E1 n e1) := ⟨_, rfl⟩
  rw [← hV1] at hs1 ⊢
  have HS1 := Lib.hid hs1
  clear hs1 hV1 HC1 HN1
  obtain ⟨q0, q1, q2, q3, q4, q5, q6⟩ := HS1.out.q
  have fq0 := HS1.out.box.free 0
  have fq1 := HS1.out.box.free 1
  have fq2 := HS1.out.box.free 2
  have fq3 := HS1.out.box.free 3
  have fq4 := HS1.out.box.free 4
  have fq5 := HS1.out.box.free 5
  have fq6 := HS1.out.box.free 6
  obtain ⟨r0, r1, r2, r3, r4, r5, r6⟩ := HS1.out.r
  have fr0 := HS1.out.res.free 0
  have fr1 := HS1.out.res.free 1
  have fr2 := HS1.out.res.free 2
  have fr3 := HS1.out.res.free 3
  have fr4 := HS1.out.res.free 4
  have fr5 := HS1.out.res.free 5
  have fr6 := HS1.out.res.free 6
  obtain ⟨xg4, yg4, eeg4, _, _, g4⟩ := nm_at HS1.out.v.p4 hq
  injection eeg4 with eeg4
  injection eeg4 with eeg4 ffg4 _
  subst eeg4 ffg4
  obtain ⟨xg5, yg5, eeg5, _, _, g5⟩ := nm_at HS1.out.v.p5 hq
  injection eeg5 with eeg5
  injection eeg5 with eeg5 ffg5 _
  subst eeg5 ffg5
  go_upto_region 51 with (go_at_call 19; (with_reducible refine (set_nm ((s.T : Nat) : Int) HS1.out.hF HS1.out.v.p4 hq (by omega)).mono ?_); rintro e w2 ⟨E2, e2, rfl, hn, hb⟩; have HN2 := Lib.hid hn; have HC2 := Lib.hid (HS1.out.call hb); have qd := HC2.out.q.2.2.2.2.1; have fd2 := HC2.out.box.free 4; clear hn hb)
  clear g4 g5
  clear q0 fq0 r0 fr0 q1 fq1 r1 fr1 q2 fq2 r2 fr2 q3 fq3 r3 fr3 q4 fq4 r4 fr4 q5 fq5 r5 fr5 q6 fq6 r6 fr6
  clear qd fd2
  have hs2 := HC2.out.put4 (nm_stb _ _) HN2.out
  obtain ⟨V2, hV2⟩ : ∃ V, V = w2.setCell ⟨b, 4, none⟩ (.slice E2 n e2) := ⟨_, rfl⟩
  rw [← hV2] at hs2 ⊢
  have HS2 := Lib.hid hs2
  clear hs2 hV2 HC2 HN2
  obtain ⟨q0, q1, q2, q3, q4, q5, q6⟩ := HS2.out.q
  have fq0 := HS2.out.box.free 0
  have fq1 := HS2.out.box.free 1
  have fq2 := HS2.out.box.free 2
  have fq3 := HS2.out.box.free 3
  have fq4 := HS2.out.box.free 4
  have fq5 := HS2.out.box.free 5
  have fq6 := HS2.out.box.free 6
  obtain ⟨r0, r1, r2, r3, r4, r5, r6⟩ := HS2.out.r
  have fr0 := HS2.out.res.free 0
  have fr1 := HS2.out.res.free 1
  have fr2 := HS2.out.res.free 2
  have fr3 := HS2.out.res.free 3
  have fr4 := HS2.out.res.free 4
  have fr5 := HS2.out.res.free 5
  have fr6 := HS2.out.res.free 6
  go_upto_region 52 with (go_at_call 19; (with_reducible refine (set_nm 10 HS2.out.hF HS2.out.v.p3 hq (by omega)).mono ?_); rintro e w9 ⟨E9, e9, rfl, hn, hb⟩; have HN9 := Lib.hid hn; have HC9 := Lib.hid (HS2.out.call hb); have qd := HC9.out.q.2.2.2.1; have fd9 := HC9.out.box.free 3; clear hn hb)
  clear q0 fq0 r0 fr0 q1 fq1 r1 fr1 q2 fq2 r2 fr2 q3 fq3 r3 fr3 q4 fq4 r4 fr4 q5 fq5 r5 fr5 q6 fq6 r6 fr6
  clear qd fd9
  have hs9 := HC9.out.put3 (nm_stb _ _) HN9.out
  obtain ⟨V9, hV9⟩ : ∃ V, V = w9.setCell ⟨b, 3, none⟩ (.slice E9 n e9) := ⟨_, rfl⟩
  rw [← hV9] at hs9 ⊢
  have HS9 := Lib.hid hs9
  clear hs9 hV9 HC9 HN9
  obtain ⟨q0, q1, q2, q3, q4, q5, q6⟩ := HS9.out.q
  have fq0 := HS9.out.box.free 0
  have fq1 := HS9.out.box.free 1
  have fq2 := HS9.out.box.free 2
  have fq3 := HS9.out.box.free 3
  have fq4 := HS9.out.box.free 4
  have fq5 := HS9.out.box.free 5
  have fq6 := HS9.out.box.free 6
  obtain ⟨r0, r1, r2, r3, r4, r5, r6⟩ := HS9.out.r
  have fr0 := HS9.out.res.free 0
  have fr1 := HS9.out.res.free 1
  have fr2 := HS9.out.res.free 2
  have fr3 := HS9.out.res.free 3
  have fr4 := HS9.out.res.free 4
  have fr5 := HS9.out.res.free 5
  have fr6 := HS9.out.res.free 6
  go_wp2
  have hrv := HS9.out.told.2.2
  refine bodyPost_ret (v := .tuple _) (results_cell4 rfl _ _ (b + 1) 31 _ (0, 0) _ rfl HS9.out.told.1 Tryd.underlying31 rfl (by kernel_rfl)) rfl (DpT.of ⟨_, _, _, _, _, _, _, rfl, ?rd, HS9.out.told.2.1⟩)
  case rd =>
    refine RD.mk' hrv ?_ rfl rfl ?_ ?_ ?_ ?_
    all_goals first | (intro p _; rfl) | (intro p _; by_cases e : p = q; (subst e; simp only [dvto, rput_same, dput_same] <;> rfl); (simp only [dvto, rput_other e, dput_other e]))
set_option maxHeartbeats 8000000 in
set_option maxRecDepth 100000 in
theorem d10y {F : Nat → Prop} {n : Nat} {s : DV} {v0 v1 v2 v3 v4 v5 v6 : Value} (w : World) (h : RD F w n s v0 v1 v2 v3 v4 v5 v6) (hF : ∀ b, F b → b < w.heap.size) (h4 : n ≤ 4) {q : Nat} (hq : q < n) (ha : s.a q = 10) (hf : s.B ≤ (s.t q : Int)) :
    Calls Tryd.prog 12 #[.agg #[v0, v1, v2, v3, v4, v5, v6], .int .i64 (q : Int)] w fun e w' => DpT F w w' n (dvstp s q) true (-1) (0) e := by
  have e1 : v1 = .int .i64 ((s.T : Nat) : Int) := h.p1
  have e2 : v2 = .int .i64 s.B := h.p2
  subst e1 e2
  obtain ⟨A0, c0, rfl⟩ := SL.form h.p0
  obtain ⟨A3, c3, rfl⟩ := SL.form h.p3
  obtain ⟨A4, c4, rfl⟩ := SL.form h.p4
  obtain ⟨A5, c5, rfl⟩ := SL.form h.p5
  obtain ⟨A6, c6, rfl⟩ := SL.form h.p6
  have hst := RS.start h hF
  obtain ⟨b, hb⟩ : ∃ b, b = w.heap.size := ⟨_, rfl⟩
  obtain ⟨W0, hW0⟩ : ∃ W0, W0 = (w.alloc (.cells #[.slice A0 8 c0, .int .i64 ((s.T : Nat) : Int), .int .i64 s.B, .slice A3 n c3, .slice A4 n c4, .slice A5 n c5, .slice A6 n c6] 31)).alloc (.cells #[.slice none 0 0, .int .i64 0, .int .i64 0, .slice none 0 0, .slice none 0 0, .slice none 0 0, .slice none 0 0] 31) := ⟨_, rfl⟩
  rw [← hW0, ← hb] at hst
  have hwn : IntKind.i64.wrap ((n : Int) - 1) = (n : Int) - 1 := IntWalk.i64_in _ (by omega)
  have HS0 := Lib.hid hst
  have HW0 := Lib.hid hW0
  have HBW := Lib.hid hb.symm
  clear hst h hF hb hW0
  rw [(v10y (s := s) ha hf).1]
  have hfd : decide (s.B ≤ (s.t q : Int)) = true := decide_eq_true hf
  have HI1 := Lib.hid (inW_any q 0 ((n : Int) - 1) true (decide_eq_true (by omega)))
  have hqI : (q : Int) < n := by omega
  obtain ⟨b3, o3, rfl, _, _, hct⟩ := nm_at HS0.out.v.p3 hq
  rw [ha] at hct
  obtain ⟨b4, o4, rfl, _, _, _⟩ := nm_at HS0.out.v.p4 hq
  obtain ⟨b5, o5, rfl, _, _, _⟩ := nm_at HS0.out.v.p5 hq
  have hw2 : IntKind.i64.wrap (10 + 1) = 11 := by rfl
  clear ha
  go_enter Tryd.func12, Tryd.ntmps12
  go_upto_region 1 with fail
  rw [← HW0.out, HBW.out]
  obtain ⟨q0, q1, q2, q3, q4, q5, q6⟩ := HS0.out.q
  have fq0 := HS0.out.box.free 0
  have fq1 := HS0.out.box.free 1
  have fq2 := HS0.out.box.free 2
  have fq3 := HS0.out.box.free 3
  have fq4 := HS0.out.box.free 4
  have fq5 := HS0.out.box.free 5
  have fq6 := HS0.out.box.free 6
  obtain ⟨r0, r1, r2, r3, r4, r5, r6⟩ := HS0.out.r
  have fr0 := HS0.out.res.free 0
  have fr1 := HS0.out.res.free 1
  have fr2 := HS0.out.res.free 2
  have fr3 := HS0.out.res.free 3
  have fr4 := HS0.out.res.free 4
  have fr5 := HS0.out.res.free 5
  have fr6 := HS0.out.res.free 6
  go_upto_region 7 with (first | (go_at_call 22; (with_reducible refine (HI1.out _).mono ?_); rintro e w' ⟨rfl, rfl⟩) | (go_at_call 19; (with_reducible refine (set_nm 0 HS0.out.hF HS0.out.v.p3 hq (by omega)).mono ?_); rintro e w1 ⟨E1, e1, rfl, hn, hb⟩; have HN1 := Lib.hid hn; have HC1 := Lib.hid (HS0.out.call hb); have qd := HC1.out.q.2.2.2.1; have fd1 := HC1.out.box.free 3; clear hn hb))
  clear hct
  clear q0 fq0 r0 fr0 q1 fq1 r1 fr1 q2 fq2 r2 fr2 q3 fq3 r3 fr3 q4 fq4 r4 fr4 q5 fq5 r5 fr5 q6 fq6 r6 fr6
  clear qd fd1
  have hs1 := HC1.out.put3 (nm_stb _ _) HN1.out
  obtain ⟨V1, hV1⟩ : ∃ V, V = w1.setCell ⟨b, 3, none⟩ (.slice E1 n e1) := ⟨_, rfl⟩
  rw [← hV1] at hs1 ⊢
  have HS1 := Lib.hid hs1
  clear hs1 hV1 HC1 HN1
  obtain ⟨q0, q1, q2, q3, q4, q5, q6⟩ := HS1.out.q
  have fq0 := HS1.out.box.free 0
  have fq1 := HS1.out.box.free 1
  have fq2 := HS1.out.box.free 2
  have fq3 := HS1.out.box.free 3
  have fq4 := HS1.out.box.free 4
  have fq5 := HS1.out.box.free 5
  have fq6 := HS1.out.box.free 6
  obtain ⟨r0, r1, r2, r3, r4, r5, r6⟩ := HS1.out.r
  have fr0 := HS1.out.res.free 0
  have fr1 := HS1.out.res.free 1
  have fr2 := HS1.out.res.free 2
  have fr3 := HS1.out.res.free 3
  have fr4 := HS1.out.res.free 4
  have fr5 := HS1.out.res.free 5
  have fr6 := HS1.out.res.free 6
  obtain ⟨xg4, yg4, eeg4, _, _, g4⟩ := nm_at HS1.out.v.p4 hq
  injection eeg4 with eeg4
  injection eeg4 with eeg4 ffg4 _
  subst eeg4 ffg4
  obtain ⟨xg5, yg5, eeg5, _, _, g5⟩ := nm_at HS1.out.v.p5 hq
  injection eeg5 with eeg5
  injection eeg5 with eeg5 ffg5 _
  subst eeg5 ffg5
  go_wp2_with fail
  have hrv := HS1.out.told.2.2
  refine bodyPost_ret (v := .tuple _) (results_cell4 rfl _ _ (b + 1) 31 _ (0, 0) _ rfl HS1.out.told.1 Tryd.underlying31 rfl (by kernel_rfl)) rfl (DpT.of ⟨_, _, _, _, _, _, _, rfl, ?rd, HS1.out.told.2.1⟩)
  case rd =>
    refine RD.mk' hrv ?_ rfl rfl ?_ ?_ ?_ ?_
    all_goals first | (intro p _; rfl) | (intro p _; by_cases e : p = q; (subst e; simp only [dvto, rput_same, dput_same] <;> rfl); (simp only [dvto, rput_other e, dput_other e]))
set_option maxHeartbeats 8000000 in
set_option maxRecDepth 100000 in
theorem d10n {F : Nat → Prop} {n : Nat} {s : DV} {v0 v1 v2 v3 v4 v5 v6 : Value} (w : World) (h : RD F w n s v0 v1 v2 v3 v4 v5 v6) (hF : ∀ b, F b → b < w.heap.size) (h4 : n ≤ 4) {q : Nat} (hq : q < n) (ha : s.a q = 10) (hf : ¬ s.B ≤ (s.t q : Int)) :
    Calls Tryd.prog 12 #[.agg #[v0, v1, v2, v3, v4, v5, v6], .int .i64 (q : Int)] w fun e w' => DpT F w w' n (dvstp s q) false (0) (0) e := by
  have e1 : v1 = .int .i64 ((s.T : Nat) : Int) := h.p1
  have e2 : v2 = .int .i64 s.B := h.p2
  subst e1 e2
  obtain ⟨A0, c0, rfl⟩ := SL.form h.p0
  obtain ⟨A3, c3, rfl⟩ := SL.form h.p3
  obtain ⟨A4, c4, rfl⟩ := SL.form h.p4
  obtain ⟨A5, c5, rfl⟩ := SL.form h.p5
  obtain ⟨A6, c6, rfl⟩ := SL.form h.p6
  have hst := RS.start h hF
  obtain ⟨b, hb⟩ : ∃ b, b = w.heap.size := ⟨_, rfl⟩
  obtain ⟨W0, hW0⟩ : ∃ W0, W0 = (w.alloc (.cells #[.slice A0 8 c0, .int .i64 ((s.T : Nat) : Int), .int .i64 s.B, .slice A3 n c3, .slice A4 n c4, .slice A5 n c5, .slice A6 n c6] 31)).alloc (.cells #[.slice none 0 0, .int .i64 0, .int .i64 0, .slice none 0 0, .slice none 0 0, .slice none 0 0, .slice none 0 0] 31) := ⟨_, rfl⟩
  rw [← hW0, ← hb] at hst
  have hwn : IntKind.i64.wrap ((n : Int) - 1) = (n : Int) - 1 := IntWalk.i64_in _ (by omega)
  have HS0 := Lib.hid hst
  have HW0 := Lib.hid hW0
  have HBW := Lib.hid hb.symm
  clear hst h hF hb hW0
  rw [(v10n (s := s) ha hf).1]
  have hfd : decide (s.B ≤ (s.t q : Int)) = false := decide_eq_false hf
  have HI1 := Lib.hid (inW_any q 0 ((n : Int) - 1) true (decide_eq_true (by omega)))
  have hqI : (q : Int) < n := by omega
  obtain ⟨b3, o3, rfl, _, _, hct⟩ := nm_at HS0.out.v.p3 hq
  rw [ha] at hct
  obtain ⟨b4, o4, rfl, _, _, _⟩ := nm_at HS0.out.v.p4 hq
  obtain ⟨b5, o5, rfl, _, _, _⟩ := nm_at HS0.out.v.p5 hq
  have hw2 : IntKind.i64.wrap (10 + 1) = 11 := by rfl
  clear ha
  go_enter Tryd.func12, Tryd.ntmps12
  go_upto_region 1 with fail
  rw [← HW0.out, HBW.out]
  obtain ⟨q0, q1, q2, q3, q4, q5, q6⟩ := HS0.out.q
  have fq0 := HS0.out.box.free 0
  have fq1 := HS0.out.box.free 1
  have fq2 := HS0.out.box.free 2
  have fq3 := HS0.out.box.free 3
  have fq4 := HS0.out.box.free 4
  have fq5 := HS0.out.box.free 5
  have fq6 := HS0.out.box.free 6
  obtain ⟨r0, r1, r2, r3, r4, r5, r6⟩ := HS0.out.r
  have fr0 := HS0.out.res.free 0
  have fr1 := HS0.out.res.free 1
  have fr2 := HS0.out.res.free 2
  have fr3 := HS0.out.res.free 3
  have fr4 := HS0.out.res.free 4
  have fr5 := HS0.out.res.free 5
  have fr6 := HS0.out.res.free 6
  go_upto_region 7 with (first | (go_at_call 22; (with_reducible refine (HI1.out _).mono ?_); rintro e w' ⟨rfl, rfl⟩) | (go_at_call 19; (with_reducible refine (set_nm 0 HS0.out.hF HS0.out.v.p3 hq (by omega)).mono ?_); rintro e w1 ⟨E1, e1, rfl, hn, hb⟩; have HN1 := Lib.hid hn; have HC1 := Lib.hid (HS0.out.call hb); have qd := HC1.out.q.2.2.2.1; have fd1 := HC1.out.box.free 3; clear hn hb))
  clear hct
  clear q0 fq0 r0 fr0 q1 fq1 r1 fr1 q2 fq2 r2 fr2 q3 fq3 r3 fr3 q4 fq4 r4 fr4 q5 fq5 r5 fr5 q6 fq6 r6 fr6
  clear qd fd1
  have hs1 := HC1.out.put3 (nm_stb _ _) HN1.out
  obtain ⟨V1, hV1⟩ : ∃ V, V = w1.setCell ⟨b, 3, none⟩ (.slice E1 n e1) := ⟨_, rfl⟩
  rw [← hV1] at hs1 ⊢
  have HS1 := Lib.hid hs1
  clear hs1 hV1 HC1 HN1
  obtain ⟨q0, q1, q2, q3, q4, q5, q6⟩ := HS1.out.q
  have fq0 := HS1.out.box.free 0
  have fq1 := HS1.out.box.free 1
  have fq2 := HS1.out.box.free 2
  have fq3 := HS1.out.box.free 3
  have fq4 := HS1.out.box.free 4
  have fq5 := HS1.out.box.free 5
  have fq6 := HS1.out.box.free 6
  obtain ⟨r0, r1, r2, r3, r4, r5, r6⟩ := HS1.out.r
  have fr0 := HS1.out.res.free 0
  have fr1 := HS1.out.res.free 1
  have fr2 := HS1.out.res.free 2
  have fr3 := HS1.out.res.free 3
  have fr4 := HS1.out.res.free 4
  have fr5 := HS1.out.res.free 5
  have fr6 := HS1.out.res.free 6
  obtain ⟨xg4, yg4, eeg4, _, _, g4⟩ := nm_at HS1.out.v.p4 hq
  injection eeg4 with eeg4
  injection eeg4 with eeg4 ffg4 _
  subst eeg4 ffg4
  obtain ⟨xg5, yg5, eeg5, _, _, g5⟩ := nm_at HS1.out.v.p5 hq
  injection eeg5 with eeg5
  injection eeg5 with eeg5 ffg5 _
  subst eeg5 ffg5
  go_upto_region 52 with (go_at_call 19; (with_reducible refine (set_nm 11 HS1.out.hF HS1.out.v.p3 hq (by omega)).mono ?_); rintro e w9 ⟨E9, e9, rfl, hn, hb⟩; have HN9 := Lib.hid hn; have HC9 := Lib.hid (HS1.out.call hb); have qd := HC9.out.q.2.2.2.1; have fd9 := HC9.out.box.free 3; clear hn hb)
  clear g4 g5
  clear q0 fq0 r0 fr0 q1 fq1 r1 fr1 q2 fq2 r2 fr2 q3 fq3 r3 fr3 q4 fq4 r4 fr4 q5 fq5 r5 fr5 q6 fq6 r6 fr6
  clear qd fd9
  have hs9 := HC9.out.put3 (nm_stb _ _) HN9.out
  obtain ⟨V9, hV9⟩ : ∃ V, V = w9.setCell ⟨b, 3, none⟩ (.slice E9 n e9) := ⟨_, rfl⟩
  rw [← hV9] at hs9 ⊢
  have HS9 := Lib.hid hs9
  clear hs9 hV9 HC9 HN9
  obtain ⟨q0, q1, q2, q3, q4, q5, q6⟩ := HS9.out.q
  have fq0 := HS9.out.box.free 0
  have fq1 := HS9.out.box.free 1
  have fq2 := HS9.out.box.free 2
  have fq3 := HS9.out.box.free 3
  have fq4 := HS9.out.box.free 4
  have fq5 := HS9.out.box.free 5
  have fq6 := HS9.out.box.free 6
  obtain ⟨r0, r1, r2, r3, r4, r5, r6⟩ := HS9.out.r
  have fr0 := HS9.out.res.free 0
  have fr1 := HS9.out.res.free 1
  have fr2 := HS9.out.res.free 2
  have fr3 := HS9.out.res.free 3
  have fr4 := HS9.out.res.free 4
  have fr5 := HS9.out.res.free 5
  have fr6 := HS9.out.res.free 6
  go_wp2
  have hrv := HS9.out.told.2.2
  refine bodyPost_ret (v := .tuple _) (results_cell4 rfl _ _ (b + 1) 31 _ (0, 0) _ rfl HS9.out.told.1 Tryd.underlying31 rfl (by kernel_rfl)) rfl (DpT.of ⟨_, _, _, _, _, _, _, rfl, ?rd, HS9.out.told.2.1⟩)
  case rd =>
    refine RD.mk' hrv ?_ rfl rfl ?_ ?_ ?_ ?_
    all_goals first | (intro p _; rfl) | (intro p _; by_cases e : p = q; (subst e; simp only [dvto, rput_same, dput_same] <;> rfl); (simp only [dvto, rput_other e, dput_other e]))
set_option maxHeartbeats 8000000 in
set_option maxRecDepth 100000 in
theorem d12n {F : Nat → Prop} {n : Nat} {s : DV} {v0 v1 v2 v3 v4 v5 v6 : Value} (w : World) (h : RD F w n s v0 v1 v2 v3 v4 v5 v6) (hF : ∀ b, F b → b < w.heap.size) (h4 : n ≤ 4) {q : Nat} (hq : q < n) (ha : s.a q = 12) (hf : ¬ s.T = s.t q) :
    Calls Tryd.prog 12 #[.agg #[v0, v1, v2, v3, v4, v5, v6], .int .i64 (q : Int)] w fun e w' => DpT F w w' n (dvstp s q) true (-2) (0) e := by
  have e1 : v1 = .int .i64 ((s.T : Nat) : Int) := h.p1
  have e2 : v2 = .int .i64 s.B := h.p2
  subst e1 e2
  obtain ⟨A0, c0, rfl⟩ := SL.form h.p0
  obtain ⟨A3, c3, rfl⟩ := SL.form h.p3
  obtain ⟨A4, c4, rfl⟩ := SL.form h.p4
  obtain ⟨A5, c5, rfl⟩ := SL.form h.p5
  obtain ⟨A6, c6, rfl⟩ := SL.form h.p6
  have hst := RS.start h hF
  obtain ⟨b, hb⟩ : ∃ b, b = w.heap.size := ⟨_, rfl⟩
  obtain ⟨W0, hW0⟩ : ∃ W0, W0 = (w.alloc (.cells #[.slice A0 8 c0, .int .i64 ((s.T : Nat) : Int), .int .i64 s.B, .slice A3 n c3, .slice A4 n c4, .slice A5 n c5, .slice A6 n c6] 31)).alloc (.cells #[.slice none 0 0, .int .i64 0, .int .i64 0, .slice none 0 0, .slice none 0 0, .slice none 0 0, .slice none 0 0] 31) := ⟨_, rfl⟩
  rw [← hW0, ← hb] at hst
  have hwn : IntKind.i64.wrap ((n : Int) - 1) = (n : Int) - 1 := IntWalk.i64_in _ (by omega)
  have HS0 := Lib.hid hst
  have HW0 := Lib.hid hW0
  have HBW := Lib.hid hb.symm
  clear hst h hF hb hW0
  rw [(v12n (s := s) ha hf).1]
  have hfI : (((s.T : Nat) : Int) != ((s.t q : Nat) : Int)) = true := by simp; omega
  have hfN : (s.T != s.t q) = true := by simp [hf]
  have HI1 := Lib.hid (inW_any q 0 ((n : Int) - 1) true (decide_eq_true (by omega)))
  have hqI : (q : Int) < n := by omega
  obtain ⟨b3, o3, rfl, _, _, hct⟩ := nm_at HS0.out.v.p3 hq
  rw [ha] at hct
  obtain ⟨b4, o4, rfl, _, _, _⟩ := nm_at HS0.out.v.p4 hq
  obtain ⟨b5, o5, rfl, _, _, _⟩ := nm_at HS0.out.v.p5 hq
  have hw2 : IntKind.i64.wrap (12 + 1) = 13 := by rfl
  clear ha
  clear hf
  go_enter Tryd.func12, Tryd.ntmps12
  go_upto_region 1 with fail
  rw [← HW0.out, HBW.out]
  obtain ⟨q0, q1, q2, q3, q4, q5, q6⟩ := HS0.out.q
  have fq0 := HS0.out.box.free 0
  have fq1 := HS0.out.box.free 1
  have fq2 := HS0.out.box.free 2
  have fq3 := HS0.out.box.free 3
  have fq4 := HS0.out.box.free 4
  have fq5 := HS0.out.box.free 5
  have fq6 := HS0.out.box.free 6
  obtain ⟨r0, r1, r2, r3, r4, r5, r6⟩ := HS0.out.r
  have fr0 := HS0.out.res.free 0
  have fr1 := HS0.out.res.free 1
  have fr2 := HS0.out.res.free 2
  have fr3 := HS0.out.res.free 3
  have fr4 := HS0.out.res.free 4
  have fr5 := HS0.out.res.free 5
  have fr6 := HS0.out.res.free 6
  go_upto_region 7 with (first | (go_at_call 22; (with_reducible refine (HI1.out _).mono ?_); rintro e w' ⟨rfl, rfl⟩) | (go_at_call 19; (with_reducible refine (set_nm 0 HS0.out.hF HS0.out.v.p3 hq (by omega)).mono ?_); rintro e w1 ⟨E1, e1, rfl, hn, hb⟩; have HN1 := Lib.hid hn; have HC1 := Lib.hid (HS0.out.call hb); have qd := HC1.out.q.2.2.2.1; have fd1 := HC1.out.box.free 3; clear hn hb))
  clear hct
  clear q0 fq0 r0 fr0 q1 fq1 r1 fr1 q2 fq2 r2 fr2 q3 fq3 r3 fr3 q4 fq4 r4 fr4 q5 fq5 r5 fr5 q6 fq6 r6 fr6
  clear qd fd1
  have hs1 := HC1.out.put3 (nm_stb _ _) HN1.out
  obtain ⟨V1, hV1⟩ : ∃ V, V = w1.setCell ⟨b, 3, none⟩ (.slice E1 n e1) := ⟨_, rfl⟩
  rw [← hV1] at hs1 ⊢
  have HS1 := Lib.hid hs1
  clear hs1 hV1 HC1 HN1
  obtain ⟨q0, q1, q2, q3, q4, q5, q6⟩ := HS1.out.q
  have fq0 := HS1.out.box.free 0
  have fq1 := HS1.out.box.free 1
  have fq2 := HS1.out.box.free 2
  have fq3 := HS1.out.box.free 3
  have fq4 := HS1.out.box.free 4
  have fq5 := HS1.out.box.free 5
  have fq6 := HS1.out.box.free 6
  obtain ⟨r0, r1, r2, r3, r4, r5, r6⟩ := HS1.out.r
  have fr0 := HS1.out.res.free 0
  have fr1 := HS1.out.res.free 1
  have fr2 := HS1.out.res.free 2
  have fr3 := HS1.out.res.free 3
  have fr4 := HS1.out.res.free 4
  have fr5 := HS1.out.res.free 5
  have fr6 := HS1.out.res.free 6
  obtain ⟨xg4, yg4, eeg4, _, _, g4⟩ := nm_at HS1.out.v.p4 hq
  injection eeg4 with eeg4
  injection eeg4 with eeg4 ffg4 _
  subst eeg4 ffg4
  obtain ⟨xg5, yg5, eeg5, _, _, g5⟩ := nm_at HS1.out.v.p5 hq
  injection eeg5 with eeg5
  injection eeg5 with eeg5 ffg5 _
  subst eeg5 ffg5
  go_wp2_with fail
  have hrv := HS1.out.told.2.2
  refine bodyPost_ret (v := .tuple _) (results_cell4 rfl _ _ (b + 1) 31 _ (0, 0) _ rfl HS1.out.told.1 Tryd.underlying31 rfl (by kernel_rfl)) rfl (DpT.of ⟨_, _, _, _, _, _, _, rfl, ?rd, HS1.out.told.2.1⟩)
  case rd =>
    refine RD.mk' hrv ?_ rfl rfl ?_ ?_ ?_ ?_
    all_goals first | (intro p _; rfl) | (intro p _; by_cases e : p = q; (subst e; simp only [dvto, rput_same, dput_same] <;> rfl); (simp only [dvto, rput_other e, dput_other e]))
end Go.Proofs.YtbicckeoidijpaaDoor.Dq
