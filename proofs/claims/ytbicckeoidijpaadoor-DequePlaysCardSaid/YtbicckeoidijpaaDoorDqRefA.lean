/-
  The reference of package deque: StepDeque: d_bad, d_rest, d1y, d1n, d3, d4.
-/
import Derived.Test.YtbicckeoidijpaaDoorDqRef
namespace Go.Proofs.YtbicckeoidijpaaDoor.Dq
open Go.RowKit Rf

set_option maxHeartbeats 8000000 in
set_option maxRecDepth 100000 in
theorem d_bad {F : Nat → Prop} {n : Nat} {s : DV} {v0 v1 v2 v3 v4 v5 v6 : Value} (w : World) (h : RD F w n s v0 v1 v2 v3 v4 v5 v6) (hF : ∀ b, F b → b < w.heap.size) (h4 : n ≤ 4) (p : Int) (hp : ¬ (0 ≤ p ∧ p < n)) :
    Calls Tryd.prog 12 #[.agg #[v0, v1, v2, v3, v4, v5, v6], .int .i64 p] w fun e w' => DpT F w w' n (s) false (0) (1) e := by
  have e1 : v1 = .int .i64 ((s.T : Nat) : Int) := h.p1
  have e2 : v2 = .int .i64 s.B := h.p2
  subst e1 e2
  obtain ⟨A0, c0, rfl⟩ := SL.form h.p0
  obtain ⟨A3, c3, rfl⟩ := SL.form h.p3
  obtain ⟨A4, c4, rfl⟩ := SL.form h.p4
  obtain ⟨A5, c5, rfl⟩ := SL.form h.p5
  obtain ⟨A6, c6, rfl⟩ := SL.form h.p6
  have hst := RS.start h hF
  obtain ⟨b, hb⟩ : ∃ b, b = w.heap.size := ⟨_, rfl⟩
  obtain ⟨W0, hW0⟩ : ∃ W0, W0 = (w.alloc (.cells #[.slice A0 8 c0, .int .i64 ((s.T : Nat) : Int), .int .i64 s.B, .slice A3 n c3, .slice A4 n c4, .slice A5 n c5, .slice A6 n c6] 31)).alloc (.cells #[.slice none 0 0, .int .i64 0, .int .i64 0, .slice none 0 0, .slice none 0 0, .slice none 0 0, .slice none 0 0] 31) := ⟨_, rfl⟩
  rw [← hW0, ← hb] at hst
  have hwn : IntKind.i64.wrap ((n : Int) - 1) = (n : Int) - 1 := IntWalk.i64_in _ (by omega)
  have HS0 := Lib.hid hst
  have HW0 := Lib.hid hW0
  have HBW := Lib.hid hb.symm
  clear hst h hF hb hW0
  have HI1 := Lib.hid (inW_any p 0 ((n : Int) - 1) false (decide_eq_false (by omega)))
  clear hp
  go_enter Tryd.func12, Tryd.ntmps12
  go_upto_region 1 with fail
  rw [← HW0.out, HBW.out]
  obtain ⟨q0, q1, q2, q3, q4, q5, q6⟩ := HS0.out.q
  have fq0 := HS0.out.box.free 0
  have fq1 := HS0.out.box.free 1
  have fq2 := HS0.out.box.free 2
  have fq3 := HS0.out.box.free 3
  have fq4 := HS0.out.box.free 4
  have fq5 := HS0.out.box.free 5
  have fq6 := HS0.out.box.free 6
  obtain ⟨r0, r1, r2, r3, r4, r5, r6⟩ := HS0.out.r
  have fr0 := HS0.out.res.free 0
  have fr1 := HS0.out.res.free 1
  have fr2 := HS0.out.res.free 2
  have fr3 := HS0.out.res.free 3
  have fr4 := HS0.out.res.free 4
  have fr5 := HS0.out.res.free 5
  have fr6 := HS0.out.res.free 6
  go_wp2_with (go_at_call 22; (with_reducible refine (HI1.out _).mono ?_); rintro e w' ⟨rfl, rfl⟩)
  refine bodyPost_ret (v := .tuple _) (results_cell4 rfl _ _ (b + 1) 31 _ (0, 0) _ rfl HS0.out.told.1 Tryd.underlying31 rfl (by kernel_rfl)) rfl (DpT.of ⟨_, _, _, _, _, _, _, rfl, HS0.out.told.2.2, HS0.out.told.2.1⟩)
set_option maxHeartbeats 8000000 in
set_option maxRecDepth 100000 in
theorem d_rest {F : Nat → Prop} {n : Nat} {s : DV} {v0 v1 v2 v3 v4 v5 v6 : Value} (w : World) (h : RD F w n s v0 v1 v2 v3 v4 v5 v6) (hF : ∀ b, F b → b < w.heap.size) (h4 : n ≤ 4) {q : Nat} (hq : q < n) (ha : s.a q = 0) :
    Calls Tryd.prog 12 #[.agg #[v0, v1, v2, v3, v4, v5, v6], .int .i64 (q : Int)] w fun e w' => DpT F w w' n (s) false (0) (7) e := by
  have e1 : v1 = .int .i64 ((s.T : Nat) : Int) := h.p1
  have e2 : v2 = .int .i64 s.B := h.p2
  subst e1 e2
  obtain ⟨A0, c0, rfl⟩ := SL.form h.p0
  obtain ⟨A3, c3, rfl⟩ := SL.form h.p3
  obtain ⟨A4, c4, rfl⟩ := SL.form h.p4
  obtain ⟨A5, c5, rfl⟩ := SL.form h.p5
  obtain ⟨A6, c6, rfl⟩ := SL.form h.p6
  have hst := RS.start h hF
  obtain ⟨b, hb⟩ : ∃ b, b = w.heap.size := ⟨_, rfl⟩
  obtain ⟨W0, hW0⟩ : ∃ W0, W0 = (w.alloc (.cells #[.slice A0 8 c0, .int .i64 ((s.T : Nat) : Int), .int .i64 s.B, .slice A3 n c3, .slice A4 n c4, .slice A5 n c5, .slice A6 n c6] 31)).alloc (.cells #[.slice none 0 0, .int .i64 0, .int .i64 0, .slice none 0 0, .slice none 0 0, .slice none 0 0, .slice none 0 0] 31) := ⟨_, rfl⟩
  rw [← hW0, ← hb] at hst
  have hwn : IntKind.i64.wrap ((n : Int) - 1) = (n : Int) - 1 := IntWalk.i64_in _ (by omega)
  have HS0 := Lib.hid hst
  have HW0 := Lib.hid hW0
  have HBW := Lib.hid hb.symm
  clear hst h hF hb hW0
  have HI1 := Lib.hid (inW_any q 0 ((n : Int) - 1) true (decide_eq_true (by omega)))
  have hqI : (q : Int) < n := by omega
  obtain ⟨b3, o3, rfl, _, _, hct⟩ := nm_at HS0.out.v.p3 hq
  rw [ha] at hct
  clear ha
  go_enter Tryd.func12, Tryd.ntmps12
  go_upto_region 1 with fail
  rw [← HW0.out, HBW.out]
  obtain ⟨q0, q1, q2, q3, q4, q5, q6⟩ := HS0.out.q
  have fq0 := HS0.out.box.free 0
  have fq1 := HS0.out.box.free 1
  have fq2 := HS0.out.box.free 2
  have fq3 := HS0.out.box.free 3
  have fq4 := HS0.out.box.free 4
  have fq5 := HS0.out.box.free 5
  have fq6 := HS0.out.box.free 6
  obtain ⟨r0, r1, r2, r3, r4, r5, r6⟩ := HS0.out.r
  have fr0 := HS0.out.res.free 0
  have fr1 := HS0.out.res.free 1
  have fr2 := HS0.out.res.free 2
  have fr3 := HS0.out.res.free 3
  have fr4 := HS0.out.res.free 4
  have fr5 := HS0.out.res.free 5
  have fr6 := HS0.out.res.free 6
  go_wp2_with (go_at_call 22; (with_reducible refine (HI1.out _).mono ?_); rintro e w' ⟨rfl, rfl⟩)
  refine bodyPost_ret (v := .tuple _) (results_cell4 rfl _ _ (b + 1) 31 _ (0, 0) _ rfl HS0.out.told.1 Tryd.underlying31 rfl (by kernel_rfl)) rfl (DpT.of ⟨_, _, _, _, _, _, _, rfl, HS0.out.told.2.2, HS0.out.told.2.1⟩)
set_option maxHeartbeats 8000000 in
set_option maxRecDepth 100000 in
theorem d1y {F : Nat → Prop} {n : Nat} {s : DV} {v0 v1 v2 v3 v4 v5 v6 : Value} (w : World) (h : RD F w n s v0 v1 v2 v3 v4 v5 v6) (hF : ∀ b, F b → b < w.heap.size) (h4 : n ≤ 4) {q : Nat} (hq : q < n) (ha : s.a q = 1) (hT : s.T ≤ 1000000) (hB : -1000000 ≤ s.B ∧ s.B ≤ 1001000) (hf : (s.T : Int) + 8 ≤ s.B) :
    Calls Tryd.prog 12 #[.agg #[v0, v1, v2, v3, v4, v5, v6], .int .i64 (q : Int)] w fun e w' => DpT F w w' n (dvstp s q) true (-2) (0) e := by
  have e1 : v1 = .int .i64 ((s.T : Nat) : Int) := h.p1
  have e2 : v2 = .int .i64 s.B := h.p2
  subst e1 e2
  obtain ⟨A0, c0, rfl⟩ := SL.form h.p0
  obtain ⟨A3, c3, rfl⟩ := SL.form h.p3
  obtain ⟨A4, c4, rfl⟩ := SL.form h.p4
  obtain ⟨A5, c5, rfl⟩ := SL.form h.p5
  obtain ⟨A6, c6, rfl⟩ := SL.form h.p6
  have hst := RS.start h hF
  obtain ⟨b, hb⟩ : ∃ b, b = w.heap.size := ⟨_, rfl⟩
  obtain ⟨W0, hW0⟩ : ∃ W0, W0 = (w.alloc (.cells #[.slice A0 8 c0, .int .i64 ((s.T : Nat) : Int), .int .i64 s.B, .slice A3 n c3, .slice A4 n c4, .slice A5 n c5, .slice A6 n c6] 31)).alloc (.cells #[.slice none 0 0, .int .i64 0, .int .i64 0, .slice none 0 0, .slice none 0 0, .slice none 0 0, .slice none 0 0] 31) := ⟨_, rfl⟩
  rw [← hW0, ← hb] at hst
  have hwn : IntKind.i64.wrap ((n : Int) - 1) = (n : Int) - 1 := IntWalk.i64_in _ (by omega)
  have HS0 := Lib.hid hst
  have HW0 := Lib.hid hW0
  have HBW := Lib.hid hb.symm
  clear hst h hF hb hW0
  rw [(v1y (s := s) ha hf).1]
  obtain ⟨d, hd⟩ : ∃ d, d = s.B - (s.T : Int) := ⟨_, rfl⟩
  have hw : IntKind.i64.wrap (s.B - (s.T : Int)) = d := by rw [hd]; exact IntWalk.i64_in _ (by omega)
  have h8 : 8 ≤ d := by omega
  have h8d : decide (8 ≤ d) = true := decide_eq_true h8
  have HI1 := Lib.hid (inW_any q 0 ((n : Int) - 1) true (decide_eq_true (by omega)))
  have hqI : (q : Int) < n := by omega
  obtain ⟨b3, o3, rfl, _, _, hct⟩ := nm_at HS0.out.v.p3 hq
  rw [ha] at hct
  obtain ⟨b4, o4, rfl, _, _, _⟩ := nm_at HS0.out.v.p4 hq
  obtain ⟨b5, o5, rfl, _, _, _⟩ := nm_at HS0.out.v.p5 hq
  have hw2 : IntKind.i64.wrap (1 + 1) = 2 := by rfl
  clear ha
  clear hd hf hT hB
  go_enter Tryd.func12, Tryd.ntmps12
  go_upto_region 1 with fail
  rw [← HW0.out, HBW.out]
  obtain ⟨q0, q1, q2, q3, q4, q5, q6⟩ := HS0.out.q
  have fq0 := HS0.out.box.free 0
  have fq1 := HS0.out.box.free 1
  have fq2 := HS0.out.box.free 2
  have fq3 := HS0.out.box.free 3
  have fq4 := HS0.out.box.free 4
  have fq5 := HS0.out.box.free 5
  have fq6 := HS0.out.box.free 6
  obtain ⟨r0, r1, r2, r3, r4, r5, r6⟩ := HS0.out.r
  have fr0 := HS0.out.res.free 0
  have fr1 := HS0.out.res.free 1
  have fr2 := HS0.out.res.free 2
  have fr3 := HS0.out.res.free 3
  have fr4 := HS0.out.res.free 4
  have fr5 := HS0.out.res.free 5
  have fr6 := HS0.out.res.free 6
  go_upto_region 7 with (first | (go_at_call 22; (with_reducible refine (HI1.out _).mono ?_); rintro e w' ⟨rfl, rfl⟩) | (go_at_call 19; (with_reducible refine (set_nm 0 HS0.out.hF HS0.out.v.p3 hq (by omega)).mono ?_); rintro e w1 ⟨E1, e1, rfl, hn, hb⟩; have HN1 := Lib.hid hn; have HC1 := Lib.hid (HS0.out.call hb); have qd := HC1.out.q.2.2.2.1; have fd1 := HC1.out.box.free 3; clear hn hb))
  clear hct
  clear q0 fq0 r0 fr0 q1 fq1 r1 fr1 q2 fq2 r2 fr2 q3 fq3 r3 fr3 q4 fq4 r4 fr4 q5 fq5 r5 fr5 q6 fq6 r6 fr6
  clear qd fd1
  have hs1 := HC1.out.put3 (nm_stb _ _) HN1.out
  obtain ⟨V1, hV1⟩ : ∃ V, V = w1.setCell ⟨b, 3, none⟩ (.slice E1 n e1) := ⟨_, rfl⟩
  rw [← hV1] at hs1 ⊢
  have HS1 := Lib.hid hs1
  clear hs1 hV1 HC1 HN1
  obtain ⟨q0, q1, q2, q3, q4, q5, q6⟩ := HS1.out.q
  have fq0 := HS1.out.box.free 0
  have fq1 := HS1.out.box.free 1
  have fq2 := HS1.out.box.free 2
  have fq3 := HS1.out.box.free 3
  have fq4 := HS1.out.box.free 4
  have fq5 := HS1.out.box.free 5
  have fq6 := HS1.out.box.free 6
  obtain ⟨r0, r1, r2, r3, r4, r5, r6⟩ := HS1.out.r
  have fr0 := HS1.out.res.free 0
  have fr1 := HS1.out.res.free 1
  have fr2 := HS1.out.res.free 2
  have fr3 := HS1.out.res.free 3
  have fr4 := HS1.out.res.free 4
  have fr5 := HS1.out.res.free 5
  have fr6 := HS1.out.res.free 6
  obtain ⟨xg4, yg4, eeg4, _, _, g4⟩ := nm_at HS1.out.v.p4 hq
  injection eeg4 with eeg4
  injection eeg4 with eeg4 ffg4 _
  subst eeg4 ffg4
  obtain ⟨xg5, yg5, eeg5, _, _, g5⟩ := nm_at HS1.out.v.p5 hq
  injection eeg5 with eeg5
  injection eeg5 with eeg5 ffg5 _
  subst eeg5 ffg5
  go_wp2_with fail
  have hrv := HS1.out.told.2.2
  refine bodyPost_ret (v := .tuple _) (results_cell4 rfl _ _ (b + 1) 31 _ (0, 0) _ rfl HS1.out.told.1 Tryd.underlying31 rfl (by kernel_rfl)) rfl (DpT.of ⟨_, _, _, _, _, _, _, rfl, ?rd, HS1.out.told.2.1⟩)
  case rd =>
    refine RD.mk' hrv ?_ rfl rfl ?_ ?_ ?_ ?_
    all_goals first | (intro p _; rfl) | (intro p _; by_cases e : p = q; (subst e; simp only [dvto, rput_same, dput_same] <;> rfl); (simp only [dvto, rput_other e, dput_other e]))
set_option maxHeartbeats 8000000 in
set_option maxRecDepth 100000 in
theorem d1n {F : Nat → Prop} {n : Nat} {s : DV} {v0 v1 v2 v3 v4 v5 v6 : Value} (w : World) (h : RD F w n s v0 v1 v2 v3 v4 v5 v6) (hF : ∀ b, F b → b < w.heap.size) (h4 : n ≤ 4) {q : Nat} (hq : q < n) (ha : s.a q = 1) (hT : s.T ≤ 1000000) (hB : -1000000 ≤ s.B ∧ s.B ≤ 1001000) (hf : ¬ (s.T : Int) + 8 ≤ s.B) :
    Calls Tryd.prog 12 #[.agg #[v0, v1, v2, v3, v4, v5, v6], .int .i64 (q : Int)] w fun e w' => DpT F w w' n (dvstp s q) false (0) (0) e := by
  have e1 : v1 = .int .i64 ((s.T : Nat) : Int) := h.p1
  have e2 : v2 = .int .i64 s.B := h.p2
  subst e1 e2
  obtain ⟨A0, c0, rfl⟩ := SL.form h.p0
  obtain ⟨A3, c3, rfl⟩ := SL.form h.p3
  obtain ⟨A4, c4, rfl⟩ := SL.form h.p4
  obtain ⟨A5, c5, rfl⟩ := SL.form h.p5
  obtain ⟨A6, c6, rfl⟩ := SL.form h.p6
  have hst := RS.start h hF
  obtain ⟨b, hb⟩ : ∃ b, b = w.heap.size := ⟨_, rfl⟩
  obtain ⟨W0, hW0⟩ : ∃ W0, W0 = (w.alloc (.cells #[.slice A0 8 c0, .int .i64 ((s.T : Nat) : Int), .int .i64 s.B, .slice A3 n c3, .slice A4 n c4, .slice A5 n c5, .slice A6 n c6] 31)).alloc (.cells #[.slice none 0 0, .int .i64 0, .int .i64 0, .slice none 0 0, .slice none 0 0, .slice none 0 0, .slice none 0 0] 31) := ⟨_, rfl⟩
  rw [← hW0, ← hb] at hst
  have hwn : IntKind.i64.wrap ((n : Int) - 1) = (n : Int) - 1 := IntWalk.i64_in _ (by omega)
  have HS0 := Lib.hid hst
  have HW0 := Lib.hid hW0
  have HBW := Lib.hid hb.symm
  clear hst h hF hb hW0
  rw [(v1n (s := s) ha hf).1]
  obtain ⟨d, hd⟩ : ∃ d, d = s.B - (s.T : Int) := ⟨_, rfl⟩
  have hw : IntKind.i64.wrap (s.B - (s.T : Int)) = d := by rw [hd]; exact IntWalk.i64_in _ (by omega)
  have h8 : ¬ 8 ≤ d := by omega
  have h8d : decide (8 ≤ d) = false := decide_eq_false h8
  have HI1 := Lib.hid (inW_any q 0 ((n : Int) - 1) true (decide_eq_true (by omega)))
  have hqI : (q : Int) < n := by omega
  obtain ⟨b3, o3, rfl, _, _, hct⟩ := nm_at HS0.out.v.p3 hq
  rw [ha] at hct
  obtain ⟨b4, o4, rfl, _, _, _⟩ := nm_at HS0.out.v.p4 hq
  obtain ⟨b5, o5, rfl, _, _, _⟩ := nm_at HS0.out.v.p5 hq
  have hw2 : IntKind.i64.wrap (1 + 1) = 2 := by rfl
  clear ha
  clear hd hf hT hB
  go_enter Tryd.func12, Tryd.ntmps12
  go_upto_region 1 with fail
  rw [← HW0.out, HBW.out]
  obtain ⟨q0, q1, q2, q3, q4, q5, q6⟩ := HS0.out.q
  have fq0 := HS0.out.box.free 0
  have fq1 := HS0.out.box.free 1
  have fq2 := HS0.out.box.free 2
  have fq3 := HS0.out.box.free 3
  have fq4 := HS0.out.box.free 4
  have fq5 := HS0.out.box.free 5
  have fq6 := HS0.out.box.free 6
  obtain ⟨r0, r1, r2, r3, r4, r5, r6⟩ := HS0.out.r
  have fr0 := HS0.out.res.free 0
  have fr1 := HS0.out.res.free 1
  have fr2 := HS0.out.res.free 2
  have fr3 := HS0.out.res.free 3
  have fr4 := HS0.out.res.free 4
  have fr5 := HS0.out.res.free 5
  have fr6 := HS0.out.res.free 6
  go_upto_region 7 with (first | (go_at_call 22; (with_reducible refine (HI1.out _).mono ?_); rintro e w' ⟨rfl, rfl⟩) | (go_at_call 19; (with_reducible refine (set_nm 0 HS0.out.hF HS0.out.v.p3 hq (by omega)).mono ?_); rintro e w1 ⟨E1, e1, rfl, hn, hb⟩; have HN1 := Lib.hid hn; have HC1 := Lib.hid (HS0.out.call hb); have qd := HC1.out.q.2.2.2.1; have fd1 := HC1.out.box.free 3; clear hn hb))
  clear hct
  clear q0 fq0 r0 fr0 q1 fq1 r1 fr1 q2 fq2 r2 fr2 q3 fq3 r3 fr3 q4 fq4 r4 fr4 q5 fq5 r5 fr5 q6 fq6 r6 fr6
  clear qd fd1
  have hs1 := HC1.out.put3 (nm_stb _ _) HN1.out
  obtain ⟨V1, hV1⟩ : ∃ V, V = w1.setCell ⟨b, 3, none⟩ (.slice E1 n e1) := ⟨_, rfl⟩
  rw [← hV1] at hs1 ⊢
  have HS1 := Lib.hid hs1
  clear hs1 hV1 HC1 HN1
  obtain ⟨q0, q1, q2, q3, q4, q5, q6⟩ := HS1.out.q
  have fq0 := HS1.out.box.free 0
  have fq1 := HS1.out.box.free 1
  have fq2 := HS1.out.box.free 2
  have fq3 := HS1.out.box.free 3
  have fq4 := HS1.out.box.free 4
  have fq5 := HS1.out.box.free 5
  have fq6 := HS1.out.box.free 6
  obtain ⟨r0, r1, r2, r3, r4, r5, r6⟩ := HS1.out.r
  have fr0 := HS1.out.res.free 0
  have fr1 := HS1.out.res.free 1
  have fr2 := HS1.out.res.free 2
  have fr3 := HS1.out.res.free 3
  have fr4 := HS1.out.res.free 4
  have fr5 := HS1.out.res.free 5
  have fr6 := HS1.out.res.free 6
  obtain ⟨xg4, yg4, eeg4, _, _, g4⟩ := nm_at HS1.out.v.p4 hq
  injection eeg4 with eeg4
  injection eeg4 with eeg4 ffg4 _
  subst eeg4 ffg4
  obtain ⟨xg5, yg5, eeg5, _, _, g5⟩ := nm_at HS1.out.v.p5 hq
  injection eeg5 with eeg5
  injection eeg5 with eeg5 ffg5 _
  subst eeg5 ffg5
  go_upto_region 52 with (go_at_call 19; (with_reducible refine (set_nm 2 HS1.out.hF HS1.out.v.p3 hq (by omega)).mono ?_); rintro e w9 ⟨E9, e9, rfl, hn, hb⟩; have HN9 := Lib.hid hn; have HC9 := Lib.hid (HS1.out.call hb); have qd := HC9.out.q.2.2.2.1; have fd9 := HC9.out.box.free 3; clear hn hb)
  clear g4 g5
  clear q0 fq0 r0 fr0 q1 fq1 r1 fr1 q2 fq2 r2 fr2 q3 fq3 r3 fr3 q4 fq4 r4 fr4 q5 fq5 r5 fr5 q6 fq6 r6 fr6
  clear qd fd9
  have hs9 := HC9.out.put3 (nm_stb _ _) HN9.out
  obtain ⟨V9, hV9⟩ : ∃ V, V = w9.setCell ⟨b, 3, none⟩ (.slice E9 n e9) := ⟨_, rfl⟩
  rw [← hV9] at hs9 ⊢
  have HS9 := Lib.hid hs9
  clear hs9 hV9 HC9 HN9
  obtain ⟨q0, q1, q2, q3, q4, q5, q6⟩ := HS9.out.q
  have fq0 := HS9.out.box.free 0
  have fq1 := HS9.out.box.free 1
  have fq2 := HS9.out.box.free 2
  have fq3 := HS9.out.box.free 3
  have fq4 := HS9.out.box.free 4
  have fq5 := HS9.out.box.free 5
  have fq6 := HS9.out.box.free 6
  obtain ⟨r0, r1, r2, r3, r4, r5, r6⟩ := HS9.out.r
  have fr0 := HS9.out.res.free 0
  have fr1 := HS9.out.res.free 1
  have fr2 := HS9.out.res.free 2
  have fr3 := HS9.out.res.free 3
  have fr4 := HS9.out.res.free 4
  have fr5 := HS9.out.res.free 5
  have fr6 := HS9.out.res.free 6
  go_wp2
  have hrv := HS9.out.told.2.2
  refine bodyPost_ret (v := .tuple _) (results_cell4 rfl _ _ (b + 1) 31 _ (0, 0) _ rfl HS9.out.told.1 Tryd.underlying31 rfl (by kernel_rfl)) rfl (DpT.of ⟨_, _, _, _, _, _, _, rfl, ?rd, HS9.out.told.2.1⟩)
  case rd =>
    refine RD.mk' hrv ?_ rfl rfl ?_ ?_ ?_ ?_
    all_goals first | (intro p _; rfl) | (intro p _; by_cases e : p = q; (subst e; simp only [dvto, rput_same, dput_same] <;> rfl); (simp only [dvto, rput_other e, dput_other e]))
set_option maxHeartbeats 8000000 in
set_option maxRecDepth 100000 in
theorem d3 {F : Nat → Prop} {n : Nat} {s : DV} {v0 v1 v2 v3 v4 v5 v6 : Value} (w : World) (h : RD F w n s v0 v1 v2 v3 v4 v5 v6) (hF : ∀ b, F b → b < w.heap.size) (h4 : n ≤ 4) {q : Nat} (hq : q < n) (ha : s.a q = 3) (hB : -1000000 ≤ s.B ∧ s.B ≤ 1001000) :
    Calls Tryd.prog 12 #[.agg #[v0, v1, v2, v3, v4, v5, v6], .int .i64 (q : Int)] w fun e w' => DpT F w w' n (dvstp s q) true (-1) (0) e := by
  have e1 : v1 = .int .i64 ((s.T : Nat) : Int) := h.p1
  have e2 : v2 = .int .i64 s.B := h.p2
  subst e1 e2
  obtain ⟨A0, c0, rfl⟩ := SL.form h.p0
  obtain ⟨A3, c3, rfl⟩ := SL.form h.p3
  obtain ⟨A4, c4, rfl⟩ := SL.form h.p4
  obtain ⟨A5, c5, rfl⟩ := SL.form h.p5
  obtain ⟨A6, c6, rfl⟩ := SL.form h.p6
  have hst := RS.start h hF
  obtain ⟨b, hb⟩ : ∃ b, b = w.heap.size := ⟨_, rfl⟩
  obtain ⟨W0, hW0⟩ : ∃ W0, W0 = (w.alloc (.cells #[.slice A0 8 c0, .int .i64 ((s.T : Nat) : Int), .int .i64 s.B, .slice A3 n c3, .slice A4 n c4, .slice A5 n c5, .slice A6 n c6] 31)).alloc (.cells #[.slice none 0 0, .int .i64 0, .int .i64 0, .slice none 0 0, .slice none 0 0, .slice none 0 0, .slice none 0 0] 31) := ⟨_, rfl⟩
  rw [← hW0, ← hb] at hst
  have hwn : IntKind.i64.wrap ((n : Int) - 1) = (n : Int) - 1 := IntWalk.i64_in _ (by omega)
  have HS0 := Lib.hid hst
  have HW0 := Lib.hid hW0
  have HBW := Lib.hid hb.symm
  clear hst h hF hb hW0
  rw [(v3 (s := s) ha).1]
  obtain ⟨z, hz⟩ : ∃ z, z = s.B + 1 := ⟨_, rfl⟩
  have hw : IntKind.i64.wrap (s.B + 1) = z := by rw [hz]; exact IntWalk.i64_in _ (by omega)
  rw [← hz]
  have HI1 := Lib.hid (inW_any q 0 ((n : Int) - 1) true (decide_eq_true (by omega)))
  have hqI : (q : Int) < n := by omega
  obtain ⟨b3, o3, rfl, _, _, hct⟩ := nm_at HS0.out.v.p3 hq
  rw [ha] at hct
  obtain ⟨b4, o4, rfl, _, _, _⟩ := nm_at HS0.out.v.p4 hq
  obtain ⟨b5, o5, rfl, _, _, _⟩ := nm_at HS0.out.v.p5 hq
  have hw2 : IntKind.i64.wrap (3 + 1) = 4 := by rfl
  clear ha
  clear hz hB
  go_enter Tryd.func12, Tryd.ntmps12
  go_upto_region 1 with fail
  rw [← HW0.out, HBW.out]
  obtain ⟨q0, q1, q2, q3, q4, q5, q6⟩ := HS0.out.q
  have fq0 := HS0.out.box.free 0
  have fq1 := HS0.out.box.free 1
  have fq2 := HS0.out.box.free 2
  have fq3 := HS0.out.box.free 3
  have fq4 := HS0.out.box.free 4
  have fq5 := HS0.out.box.free 5
  have fq6 := HS0.out.box.free 6
  obtain ⟨r0, r1, r2, r3, r4, r5, r6⟩ := HS0.out.r
  have fr0 := HS0.out.res.free 0
  have fr1 := HS0.out.res.free 1
  have fr2 := HS0.out.res.free 2
  have fr3 := HS0.out.res.free 3
  have fr4 := HS0.out.res.free 4
  have fr5 := HS0.out.res.free 5
  have fr6 := HS0.out.res.free 6
  go_upto_region 7 with (first | (go_at_call 22; (with_reducible refine (HI1.out _).mono ?_); rintro e w' ⟨rfl, rfl⟩) | (go_at_call 19; (with_reducible refine (set_nm 0 HS0.out.hF HS0.out.v.p3 hq (by omega)).mono ?_); rintro e w1 ⟨E1, e1, rfl, hn, hb⟩; have HN1 := Lib.hid hn; have HC1 := Lib.hid (HS0.out.call hb); have qd := HC1.out.q.2.2.2.1; have fd1 := HC1.out.box.free 3; clear hn hb))
  clear hct
  clear q0 fq0 r0 fr0 q1 fq1 r1 fr1 q2 fq2 r2 fr2 q3 fq3 r3 fr3 q4 fq4 r4 fr4 q5 fq5 r5 fr5 q6 fq6 r6 fr6
  clear qd fd1
  have hs1 := HC1.out.put3 (nm_stb _ _) HN1.out
  obtain ⟨V1, hV1⟩ : ∃ V, V = w1.setCell ⟨b, 3, none⟩ (.slice E1 n e1) := ⟨_, rfl⟩
  rw [← hV1] at hs1 ⊢
  have HS1 := Lib.hid hs1
  clear hs1 hV1 HC1 HN1
  obtain ⟨q0, q1, q2, q3, q4, q5, q6⟩ := HS1.out.q
  have fq0 := HS1.out.box.free 0
  have fq1 := HS1.out.box.free 1
  have fq2 := HS1.out.box.free 2
  have fq3 := HS1.out.box.free 3
  have fq4 := HS1.out.box.free 4
  have fq5 := HS1.out.box.free 5
  have fq6 := HS1.out.box.free 6
  obtain ⟨r0, r1, r2, r3, r4, r5, r6⟩ := HS1.out.r
  have fr0 := HS1.out.res.free 0
  have fr1 := HS1.out.res.free 1
  have fr2 := HS1.out.res.free 2
  have fr3 := HS1.out.res.free 3
  have fr4 := HS1.out.res.free 4
  have fr5 := HS1.out.res.free 5
  have fr6 := HS1.out.res.free 6
  obtain ⟨xg4, yg4, eeg4, _, _, g4⟩ := nm_at HS1.out.v.p4 hq
  injection eeg4 with eeg4
  injection eeg4 with eeg4 ffg4 _
  subst eeg4 ffg4
  obtain ⟨xg5, yg5, eeg5, _, _, g5⟩ := nm_at HS1.out.v.p5 hq
  injection eeg5 with eeg5
  injection eeg5 with eeg5 ffg5 _
  subst eeg5 ffg5
  go_upto_region 18 with fail
  clear g4 g5
  clear q0 fq0 r0 fr0 q1 fq1 r1 fr1 q2 fq2 r2 fr2 q3 fq3 r3 fr3 q4 fq4 r4 fr4 q5 fq5 r5 fr5 q6 fq6 r6 fr6
  have hpV2 := HS1.out.put2 (isInt_stb _) (u := .int .i64 z) (Q := isInt z) rfl
  obtain ⟨V2, hVV2⟩ : ∃ V, V = V1.setCell ⟨b, 2, none⟩ (.int .i64 z) := ⟨_, rfl⟩
  rw [← hVV2] at hpV2 ⊢
  have HS2 := Lib.hid hpV2
  clear hpV2 hVV2
  obtain ⟨q0, q1, q2, q3, q4, q5, q6⟩ := HS2.out.q
  have fq0 := HS2.out.box.free 0
  have fq1 := HS2.out.box.free 1
  have fq2 := HS2.out.box.free 2
  have fq3 := HS2.out.box.free 3
  have fq4 := HS2.out.box.free 4
  have fq5 := HS2.out.box.free 5
  have fq6 := HS2.out.box.free 6
  obtain ⟨r0, r1, r2, r3, r4, r5, r6⟩ := HS2.out.r
  have fr0 := HS2.out.res.free 0
  have fr1 := HS2.out.res.free 1
  have fr2 := HS2.out.res.free 2
  have fr3 := HS2.out.res.free 3
  have fr4 := HS2.out.res.free 4
  have fr5 := HS2.out.res.free 5
  have fr6 := HS2.out.res.free 6
  go_wp2_with fail
  have hrv := HS2.out.told.2.2
  refine bodyPost_ret (v := .tuple _) (results_cell4 rfl _ _ (b + 1) 31 _ (0, 0) _ rfl HS2.out.told.1 Tryd.underlying31 rfl (by kernel_rfl)) rfl (DpT.of ⟨_, _, _, _, _, _, _, rfl, ?rd, HS2.out.told.2.1⟩)
  case rd =>
    refine RD.mk' hrv ?_ rfl rfl ?_ ?_ ?_ ?_
    all_goals first | (intro p _; rfl) | (intro p _; by_cases e : p = q; (subst e; simp only [dvto, rput_same, dput_same] <;> rfl); (simp only [dvto, rput_other e, dput_other e]))
set_option maxHeartbeats 8000000 in
set_option maxRecDepth 100000 in
theorem d4 {F : Nat → Prop} {n : Nat} {s : DV} {v0 v1 v2 v3 v4 v5 v6 : Value} (w : World) (h : RD F w n s v0 v1 v2 v3 v4 v5 v6) (hF : ∀ b, F b → b < w.heap.size) (h4 : n ≤ 4) {q : Nat} (hq : q < n) (ha : s.a q = 4) (hB : -1000000 ≤ s.B ∧ s.B ≤ 1001000) :
    Calls Tryd.prog 12 #[.agg #[v0, v1, v2, v3, v4, v5, v6], .int .i64 (q : Int)] w fun e w' => DpT F w w' n (dvstp s q) false (0) (0) e := by
  have e1 : v1 = .int .i64 ((s.T : Nat) : Int) := h.p1
  have e2 : v2 = .int .i64 s.B := h.p2
  subst e1 e2
  obtain ⟨A0, c0, rfl⟩ := SL.form h.p0
  obtain ⟨A3, c3, rfl⟩ := SL.form h.p3
  obtain ⟨A4, c4, rfl⟩ := SL.form h.p4
  obtain ⟨A5, c5, rfl⟩ := SL.form h.p5
  obtain ⟨A6, c6, rfl⟩ := SL.form h.p6
  have hst := RS.start h hF
  obtain ⟨b, hb⟩ : ∃ b, b = w.heap.size := ⟨_, rfl⟩
  obtain ⟨W0, hW0⟩ : ∃ W0, W0 = (w.alloc (.cells #[.slice A0 8 c0, .int .i64 ((s.T : Nat) : Int), .int .i64 s.B, .slice A3 n c3, .slice A4 n c4, .slice A5 n c5, .slice A6 n c6] 31)).alloc (.cells #[.slice none 0 0, .int .i64 0, .int .i64 0, .slice none 0 0, .slice none 0 0, .slice none 0 0, .slice none 0 0] 31) := ⟨_, rfl⟩
  rw [← hW0, ← hb] at hst
  have hwn : IntKind.i64.wrap ((n : Int) - 1) = (n : Int) - 1 := IntWalk.i64_in _ (by omega)
  have HS0 := Lib.hid hst
  have HW0 := Lib.hid hW0
  have HBW := Lib.hid hb.symm
  clear hst h hF hb hW0
  rw [(v4 (s := s) ha).1]
  obtain ⟨z, hz⟩ : ∃ z, z = s.B - 1 := ⟨_, rfl⟩
  have hw : IntKind.i64.wrap (s.B - 1) = z := by rw [hz]; exact IntWalk.i64_in _ (by omega)
  rw [← hz]
  have HI1 := Lib.hid (inW_any q 0 ((n : Int) - 1) true (decide_eq_true (by omega)))
  have hqI : (q : Int) < n := by omega
  obtain ⟨b3, o3, rfl, _, _, hct⟩ := nm_at HS0.out.v.p3 hq
  rw [ha] at hct
  obtain ⟨b4, o4, rfl, _, _, _⟩ := nm_at HS0.out.v.p4 hq
  obtain ⟨b5, o5, rfl, _, _, _⟩ := nm_at HS0.out.v.p5 hq
  have hw2 : IntKind.i64.wrap (4 + 1) = 5 := by rfl
  clear ha
  clear hz hB
  go_enter Tryd.func12, Tryd.ntmps12
  go_upto_region 1 with fail
  rw [← HW0.out, HBW.out]
  obtain ⟨q0, q1, q2, q3, q4, q5, q6⟩ := HS0.out.q
  have fq0 := HS0.out.box.free 0
  have fq1 := HS0.out.box.free 1
  have fq2 := HS0.out.box.free 2
  have fq3 := HS0.out.box.free 3
  have fq4 := HS0.out.box.free 4
  have fq5 := HS0.out.box.free 5
  have fq6 := HS0.out.box.free 6
  obtain ⟨r0, r1, r2, r3, r4, r5, r6⟩ := HS0.out.r
  have fr0 := HS0.out.res.free 0
  have fr1 := HS0.out.res.free 1
  have fr2 := HS0.out.res.free 2
  have fr3 := HS0.out.res.free 3
  have fr4 := HS0.out.res.free 4
  have fr5 := HS0.out.res.free 5
  have fr6 := HS0.out.res.free 6
  go_upto_region 7 with (first | (go_at_call 22; (with_reducible refine (HI1.out _).mono ?_); rintro e w' ⟨rfl, rfl⟩) | (go_at_call 19; (with_reducible refine (set_nm 0 HS0.out.hF HS0.out.v.p3 hq (by omega)).mono ?_); rintro e w1 ⟨E1, e1, rfl, hn, hb⟩; have HN1 := Lib.hid hn; have HC1 := Lib.hid (HS0.out.call hb); have qd := HC1.out.q.2.2.2.1; have fd1 := HC1.out.box.free 3; clear hn hb))
  clear hct
  clear q0 fq0 r0 fr0 q1 fq1 r1 fr1 q2 fq2 r2 fr2 q3 fq3 r3 fr3 q4 fq4 r4 fr4 q5 fq5 r5 fr5 q6 fq6 r6 fr6
  clear qd fd1
  have hs1 := HC1.out.put3 (nm_stb _ _) HN1.out
  obtain ⟨V1, hV1⟩ : ∃ V, V = w1.setCell ⟨b, 3, none⟩ (.slice E1 n e1) := ⟨_, rfl⟩
  rw [← hV1] at hs1 ⊢
  have HS1 := Lib.hid hs1
  clear hs1 hV1 HC1 HN1
  obtain ⟨q0, q1, q2, q3, q4, q5, q6⟩ := HS1.out.q
  have fq0 := HS1.out.box.free 0
  have fq1 := HS1.out.box.free 1
  have fq2 := HS1.out.box.free 2
  have fq3 := HS1.out.box.free 3
  have fq4 := HS1.out.box.free 4
  have fq5 := HS1.out.box.free 5
  have fq6 := HS1.out.box.free 6
  obtain ⟨r0, r1, r2, r3, r4, r5, r6⟩ := HS1.out.r
  have fr0 := HS1.out.res.free 0
  have fr1 := HS1.out.res.free 1
  have fr2 := HS1.out.res.free 2
  have fr3 := HS1.out.res.free 3
  have fr4 := HS1.out.res.free 4
  have fr5 := HS1.out.res.free 5
  have fr6 := HS1.out.res.free 6
  obtain ⟨xg4, yg4, eeg4, _, _, g4⟩ := nm_at HS1.out.v.p4 hq
  injection eeg4 with eeg4
  injection eeg4 with eeg4 ffg4 _
  subst eeg4 ffg4
  obtain ⟨xg5, yg5, eeg5, _, _, g5⟩ := nm_at HS1.out.v.p5 hq
  injection eeg5 with eeg5
  injection eeg5 with eeg5 ffg5 _
  subst eeg5 ffg5
  go_upto_region 21 with fail
  clear q0 fq0 r0 fr0 q1 fq1 r1 fr1 q2 fq2 r2 fr2 q3 fq3 r3 fr3 q4 fq4 r4 fr4 q5 fq5 r5 fr5 q6 fq6 r6 fr6
  have hpV2 := HS1.out.put2 (isInt_stb _) (u := .int .i64 z) (Q := isInt z) rfl
  obtain ⟨V2, hVV2⟩ : ∃ V, V = V1.setCell ⟨b, 2, none⟩ (.int .i64 z) := ⟨_, rfl⟩
  rw [← hVV2] at hpV2 ⊢
  have HS2 := Lib.hid hpV2
  clear hpV2 hVV2
  obtain ⟨q0, q1, q2, q3, q4, q5, q6⟩ := HS2.out.q
  have fq0 := HS2.out.box.free 0
  have fq1 := HS2.out.box.free 1
  have fq2 := HS2.out.box.free 2
  have fq3 := HS2.out.box.free 3
  have fq4 := HS2.out.box.free 4
  have fq5 := HS2.out.box.free 5
  have fq6 := HS2.out.box.free 6
  obtain ⟨r0, r1, r2, r3, r4, r5, r6⟩ := HS2.out.r
  have fr0 := HS2.out.res.free 0
  have fr1 := HS2.out.res.free 1
  have fr2 := HS2.out.res.free 2
  have fr3 := HS2.out.res.free 3
  have fr4 := HS2.out.res.free 4
  have fr5 := HS2.out.res.free 5
  have fr6 := HS2.out.res.free 6
  go_upto_region 51 with (go_at_call 19; (with_reducible refine (set_nm z HS2.out.hF HS2.out.v.p5 hq (by omega)).mono ?_); rintro e w3 ⟨E3, e3, rfl, hn, hb⟩; have HN3 := Lib.hid hn; have HC3 := Lib.hid (HS2.out.call hb); have qd := HC3.out.q.2.2.2.2.2.1; have fd3 := HC3.out.box.free 5; clear hn hb)
  clear q0 fq0 r0 fr0 q1 fq1 r1 fr1 q2 fq2 r2 fr2 q3 fq3 r3 fr3 q4 fq4 r4 fr4 q5 fq5 r5 fr5 q6 fq6 r6 fr6
  clear qd fd3
  have hs3 := HC3.out.put5 (nm_stb _ _) HN3.out
  obtain ⟨V3, hV3⟩ : ∃ V, V = w3.setCell ⟨b, 5, none⟩ (.slice E3 n e3) := ⟨_, rfl⟩
  rw [← hV3] at hs3 ⊢
  have HS3 := Lib.hid hs3
  clear hs3 hV3 HC3 HN3
  obtain ⟨q0, q1, q2, q3, q4, q5, q6⟩ := HS3.out.q
  have fq0 := HS3.out.box.free 0
  have fq1 := HS3.out.box.free 1
  have fq2 := HS3.out.box.free 2
  have fq3 := HS3.out.box.free 3
  have fq4 := HS3.out.box.free 4
  have fq5 := HS3.out.box.free 5
  have fq6 := HS3.out.box.free 6
  obtain ⟨r0, r1, r2, r3, r4, r5, r6⟩ := HS3.out.r
  have fr0 := HS3.out.res.free 0
  have fr1 := HS3.out.res.free 1
  have fr2 := HS3.out.res.free 2
  have fr3 := HS3.out.res.free 3
  have fr4 := HS3.out.res.free 4
  have fr5 := HS3.out.res.free 5
  have fr6 := HS3.out.res.free 6
  go_upto_region 52 with (go_at_call 19; (with_reducible refine (set_nm 5 HS3.out.hF HS3.out.v.p3 hq (by omega)).mono ?_); rintro e w9 ⟨E9, e9, rfl, hn, hb⟩; have HN9 := Lib.hid hn; have HC9 := Lib.hid (HS3.out.call hb); have qd := HC9.out.q.2.2.2.1; have fd9 := HC9.out.box.free 3; clear hn hb)
  clear g4 g5
  clear q0 fq0 r0 fr0 q1 fq1 r1 fr1 q2 fq2 r2 fr2 q3 fq3 r3 fr3 q4 fq4 r4 fr4 q5 fq5 r5 fr5 q6 fq6 r6 fr6
  clear qd fd9
  have hs9 := HC9.out.put3 (nm_stb _ _) HN9.out
  obtain ⟨V9, hV9⟩ : ∃ V, V = w9.setCell ⟨b, 3, none⟩ (.slice E9 n e9) := ⟨_, rfl⟩
  rw [← hV9] at hs9 ⊢
  have HS9 := Lib.hid hs9
  clear hs9 hV9 HC9 HN9
  obtain ⟨q0, q1, q2, q3, q4, q5, q6⟩ := HS9.out.q
  have fq0 := HS9.out.box.free 0
  have fq1 := HS9.out.box.free 1
  have fq2 := HS9.out.box.free 2
  have fq3 := HS9.out.box.free 3
  have fq4 := HS9.out.box.free 4
  have fq5 := HS9.out.box.free 5
  have fq6 := HS9.out.box.free 6
  obtain ⟨r0, r1, r2, r3, r4, r5, r6⟩ := HS9.out.r
  have fr0 := HS9.out.res.free 0
  have fr1 := HS9.out.res.free 1
  have fr2 := HS9.out.res.free 2
  have fr3 := HS9.out.res.free 3
  have fr4 := HS9.out.res.free 4
  have fr5 := HS9.out.res.free 5
  have fr6 := HS9.out.res.free 6
  go_wp2
  have hrv := HS9.out.told.2.2
  refine bodyPost_ret (v := .tuple _) (results_cell4 rfl _ _ (b + 1) 31 _ (0, 0) _ rfl HS9.out.told.1 Tryd.underlying31 rfl (by kernel_rfl)) rfl (DpT.of ⟨_, _, _, _, _, _, _, rfl, ?rd, HS9.out.told.2.1⟩)
  case rd =>
    refine RD.mk' hrv ?_ rfl rfl ?_ ?_ ?_ ?_
    all_goals first | (intro p _; rfl) | (intro p _; by_cases e : p = q; (subst e; simp only [dvto, rput_same, dput_same] <;> rfl); (simp only [dvto, rput_other e, dput_other e]))
end Go.Proofs.YtbicckeoidijpaaDoor.Dq
