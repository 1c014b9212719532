/-
  The reference of package deque: StepDeque: d7y, d5y.
-/
import Derived.Test.YtbicckeoidijpaaDoorDqRef
namespace Go.Proofs.YtbicckeoidijpaaDoor.Dq
open Go.RowKit Rf

set_option maxHeartbeats 8000000 in
set_option maxRecDepth 100000 in
theorem d7y {F : Nat → Prop} {n : Nat} {s : DV} {v0 v1 v2 v3 v4 v5 v6 : Value} (w : World) (h : RD F w n s v0 v1 v2 v3 v4 v5 v6) (hF : ∀ b, F b → b < w.heap.size) (h4 : n ≤ 4) {q : Nat} (hq : q < n) (ha : s.a q = 7) (hT : s.T ≤ 1000000) (hf : s.T = s.t q) (hb : 0 ≤ s.b q) :
    Calls Tryd.prog 12 #[.agg #[v0, v1, v2, v3, v4, v5, v6], .int .i64 (q : Int)] w fun e w' => DpT F w w' n (dvstp s q) false (0) (0) e := by
  have e1 : v1 = .int .i64 ((s.T : Nat) : Int) := h.p1
  have e2 : v2 = .int .i64 s.B := h.p2
  subst e1 e2
  obtain ⟨A0, c0, rfl⟩ := SL.form h.p0
  obtain ⟨A3, c3, rfl⟩ := SL.form h.p3
  obtain ⟨A4, c4, rfl⟩ := SL.form h.p4
  obtain ⟨A5, c5, rfl⟩ := SL.form h.p5
  obtain ⟨A6, c6, rfl⟩ := SL.form h.p6
  have hst := RS.start h hF
  obtain ⟨b, hb⟩ : ∃ b, b = w.heap.size := ⟨_, rfl⟩
  obtain ⟨W0, hW0⟩ : ∃ W0, W0 = (w.alloc (.cells #[.slice A0 8 c0, .int .i64 ((s.T : Nat) : Int), .int .i64 s.B, .slice A3 n c3, .slice A4 n c4, .slice A5 n c5, .slice A6 n c6] 31)).alloc (.cells #[.slice none 0 0, .int .i64 0, .int .i64 0, .slice none 0 0, .slice none 0 0, .slice none 0 0, .slice none 0 0] 31) := ⟨_, rfl⟩
  rw [← hW0, ← hb] at hst
  have hwn : IntKind.i64.wrap ((n : Int) - 1) = (n : Int) - 1 := IntWalk.i64_in _ (by omega)
  have HS0 := Lib.hid hst
  have HW0 := Lib.hid hW0
  have HBW := Lib.hid hb.symm
  clear hst h hF hb hW0
  rw [(v7y (s := s) ha hf).1]
  obtain ⟨z, hz⟩ : ∃ z : Nat, s.b q = (z : Int) := ⟨(s.b q).toNat, by omega⟩
  have hzt : (s.b q).toNat = z := by omega
  rw [hzt]
  obtain ⟨m, hm⟩ : ∃ m, m = z % 8 := ⟨_, rfl⟩
  have hm8 : m < 8 := by omega
  have hr : ((z : Int) : Int).tmod 8 = (m : Int) := by rw [hm]; exact rem_eight _
  have hwm : IntKind.i64.wrap (m : Int) = (m : Int) := IntWalk.i64_in _ (by omega)
  have hmI : (m : Int) < 8 := by omega
  have hm0 : (0 : Int) ≤ (m : Int) := by omega
  rw [← hm]
  obtain ⟨t1, ht1⟩ : ∃ t1, t1 = s.t q + 1 := ⟨_, rfl⟩
  have hw : IntKind.i64.wrap (((s.t q : Nat) : Int) + 1) = (t1 : Int) := (IntWalk.i64_in _ (by omega)).trans (by omega)
  rw [← ht1]
  have hfI : (((s.T : Nat) : Int) == ((s.t q : Nat) : Int)) = true := by simp; omega
  have hfN : (s.T == s.t q) = true := by simp [hf]
  have HI1 := Lib.hid (inW_any q 0 ((n : Int) - 1) true (decide_eq_true (by omega)))
  have hqI : (q : Int) < n := by omega
  obtain ⟨b3, o3, rfl, _, _, hct⟩ := nm_at HS0.out.v.p3 hq
  rw [ha] at hct
  obtain ⟨b4, o4, rfl, _, _, _⟩ := nm_at HS0.out.v.p4 hq
  obtain ⟨b5, o5, rfl, _, _, _⟩ := nm_at HS0.out.v.p5 hq
  have hw2 : IntKind.i64.wrap (7 + 1) = 8 := by rfl
  clear ha
  obtain ⟨b0, o0, rfl, _, _, _⟩ := nm_at HS0.out.v.p0 hm8
  have HZ := Lib.hid hz
  clear hb hzt hm hf hT ht1 hz
  go_enter Tryd.func12, Tryd.ntmps12
  go_upto_region 1 with fail
  rw [← HW0.out, HBW.out]
  obtain ⟨q0, q1, q2, q3, q4, q5, q6⟩ := HS0.out.q
  have fq0 := HS0.out.box.free 0
  have fq1 := HS0.out.box.free 1
  have fq2 := HS0.out.box.free 2
  have fq3 := HS0.out.box.free 3
  have fq4 := HS0.out.box.free 4
  have fq5 := HS0.out.box.free 5
  have fq6 := HS0.out.box.free 6
  obtain ⟨r0, r1, r2, r3, r4, r5, r6⟩ := HS0.out.r
  have fr0 := HS0.out.res.free 0
  have fr1 := HS0.out.res.free 1
  have fr2 := HS0.out.res.free 2
  have fr3 := HS0.out.res.free 3
  have fr4 := HS0.out.res.free 4
  have fr5 := HS0.out.res.free 5
  have fr6 := HS0.out.res.free 6
  go_upto_region 7 with (first | (go_at_call 22; (with_reducible refine (HI1.out _).mono ?_); rintro e w' ⟨rfl, rfl⟩) | (go_at_call 19; (with_reducible refine (set_nm 0 HS0.out.hF HS0.out.v.p3 hq (by omega)).mono ?_); rintro e w1 ⟨E1, e1, rfl, hn, hb⟩; have HN1 := Lib.hid hn; have HC1 := Lib.hid (HS0.out.call hb); have qd := HC1.out.q.2.2.2.1; have fd1 := HC1.out.box.free 3; clear hn hb))
  clear hct
  clear q0 fq0 r0 fr0 q1 fq1 r1 fr1 q2 fq2 r2 fr2 q3 fq3 r3 fr3 q4 fq4 r4 fr4 q5 fq5 r5 fr5 q6 fq6 r6 fr6
  clear qd fd1
  have hs1 := HC1.out.put3 (nm_stb _ _) HN1.out
  obtain ⟨V1, hV1⟩ : ∃ V, V = w1.setCell ⟨b, 3, none⟩ (.slice E1 n e1) := ⟨_, rfl⟩
  rw [← hV1] at hs1 ⊢
  have HS1 := Lib.hid hs1
  clear hs1 hV1 HC1 HN1
  obtain ⟨q0, q1, q2, q3, q4, q5, q6⟩ := HS1.out.q
  have fq0 := HS1.out.box.free 0
  have fq1 := HS1.out.box.free 1
  have fq2 := HS1.out.box.free 2
  have fq3 := HS1.out.box.free 3
  have fq4 := HS1.out.box.free 4
  have fq5 := HS1.out.box.free 5
  have fq6 := HS1.out.box.free 6
  obtain ⟨r0, r1, r2, r3, r4, r5, r6⟩ := HS1.out.r
  have fr0 := HS1.out.res.free 0
  have fr1 := HS1.out.res.free 1
  have fr2 := HS1.out.res.free 2
  have fr3 := HS1.out.res.free 3
  have fr4 := HS1.out.res.free 4
  have fr5 := HS1.out.res.free 5
  have fr6 := HS1.out.res.free 6
  obtain ⟨xg4, yg4, eeg4, _, _, g4⟩ := nm_at HS1.out.v.p4 hq
  injection eeg4 with eeg4
  injection eeg4 with eeg4 ffg4 _
  subst eeg4 ffg4
  obtain ⟨xg5, yg5, eeg5, _, _, g5⟩ := nm_at HS1.out.v.p5 hq
  injection eeg5 with eeg5
  injection eeg5 with eeg5 ffg5 _
  subst eeg5 ffg5
  rw [HZ.out] at g5
  clear HZ
  go_upto_region 33 with (go_at_call 19; (with_reducible refine (set_nm (-1) HS1.out.hF HS1.out.v.p6 hq (by omega)).mono ?_); rintro e w2 ⟨E2, e2, rfl, hn, hb⟩; have HN2 := Lib.hid hn; have HC2 := Lib.hid (HS1.out.call hb); have qd := HC2.out.q.2.2.2.2.2.2; have fd2 := HC2.out.box.free 6; clear hn hb)
  clear q0 fq0 r0 fr0 q1 fq1 r1 fr1 q2 fq2 r2 fr2 q3 fq3 r3 fr3 q4 fq4 r4 fr4 q5 fq5 r5 fr5 q6 fq6 r6 fr6
  clear qd fd2
  have hs2 := HC2.out.put6 (nm_stb _ _) HN2.out
  obtain ⟨V2, hV2⟩ : ∃ V, V = w2.setCell ⟨b, 6, none⟩ (.slice E2 n e2) := ⟨_, rfl⟩
  rw [← hV2] at hs2 ⊢
  have HS2 := Lib.hid hs2
  clear hs2 hV2 HC2 HN2
  obtain ⟨q0, q1, q2, q3, q4, q5, q6⟩ := HS2.out.q
  have fq0 := HS2.out.box.free 0
  have fq1 := HS2.out.box.free 1
  have fq2 := HS2.out.box.free 2
  have fq3 := HS2.out.box.free 3
  have fq4 := HS2.out.box.free 4
  have fq5 := HS2.out.box.free 5
  have fq6 := HS2.out.box.free 6
  obtain ⟨r0, r1, r2, r3, r4, r5, r6⟩ := HS2.out.r
  have fr0 := HS2.out.res.free 0
  have fr1 := HS2.out.res.free 1
  have fr2 := HS2.out.res.free 2
  have fr3 := HS2.out.res.free 3
  have fr4 := HS2.out.res.free 4
  have fr5 := HS2.out.res.free 5
  have fr6 := HS2.out.res.free 6
  go_upto_region 35 with fail
  clear g4 g5
  clear q0 fq0 r0 fr0 q1 fq1 r1 fr1 q2 fq2 r2 fr2 q3 fq3 r3 fr3 q4 fq4 r4 fr4 q5 fq5 r5 fr5 q6 fq6 r6 fr6
  have hpV3 := HS2.out.put1 (isInt_stb _) (u := .int .i64 ((t1 : Nat) : Int)) (Q := isInt ((t1 : Nat) : Int)) rfl
  obtain ⟨V3, hVV3⟩ : ∃ V, V = V2.setCell ⟨b, 1, none⟩ (.int .i64 ((t1 : Nat) : Int)) := ⟨_, rfl⟩
  rw [← hVV3] at hpV3 ⊢
  have HS3 := Lib.hid hpV3
  clear hpV3 hVV3
  obtain ⟨q0, q1, q2, q3, q4, q5, q6⟩ := HS3.out.q
  have fq0 := HS3.out.box.free 0
  have fq1 := HS3.out.box.free 1
  have fq2 := HS3.out.box.free 2
  have fq3 := HS3.out.box.free 3
  have fq4 := HS3.out.box.free 4
  have fq5 := HS3.out.box.free 5
  have fq6 := HS3.out.box.free 6
  obtain ⟨r0, r1, r2, r3, r4, r5, r6⟩ := HS3.out.r
  have fr0 := HS3.out.res.free 0
  have fr1 := HS3.out.res.free 1
  have fr2 := HS3.out.res.free 2
  have fr3 := HS3.out.res.free 3
  have fr4 := HS3.out.res.free 4
  have fr5 := HS3.out.res.free 5
  have fr6 := HS3.out.res.free 6
  obtain ⟨xg0, yg0, eeg0, _, _, g0⟩ := nm_at HS3.out.v.p0 hm8
  injection eeg0 with eeg0
  injection eeg0 with eeg0 ffg0 _
  subst eeg0 ffg0
  have HSD := Lib.hid (HS3.out.call (Below.refl V3.heap.size V3).drew)
  have HSET := Lib.hid (set_nm (s.pl m) (fun z hz => HSD.out.hF z hz) HSD.out.v.p6 hq (by omega))
  refine heldZ_begin (S := (fun W : World => W.cell? ⟨b, 6, none⟩ = some (.slice E2 n e2) ∧ W.cell? ⟨b, 0, none⟩ = some (.slice (some ⟨b0, o0, none⟩) 8 c0) ∧ W.cell? ⟨b0, o0 + m, none⟩ = some (.int .i64 (s.pl m)))) 11 (by kernel_rfl) ?_ (fun hHeld => ?_)
  · exact ⟨HSD.out.q.2.2.2.2.2.2, HSD.out.q.1, g0⟩
  refine heldZ_take (i := 0) (oi := { dst := some 132, op := Op.fieldAddr 31 (Operand.tmp 2) 6, type := 0, pos := "far.go:110", after := #[], guard := none }) (v := .pointer (some ⟨b, 6, none⟩)) rfl (by kernel_rfl) (by kernel_rfl) (by kernel_rfl) (by kernel_rfl) (by decide) (fun _ _ _ h => h) (Or.inl ⟨by rfl, fun W hSw => by (try dsimp only at hSw); go_simp⟩) (by assumption) ?_
  try simp only [Act.put, List.setIfInBounds_toArray, List.set_cons_zero, List.set_cons_succ]
  refine heldZ_take (i := 1) (oi := { dst := some 133, op := Op.load 29 (Operand.tmp 132), type := 29, pos := "far.go:110", after := #[{ on := 0, ground := Ground.data }], guard := none }) (v := .slice E2 n e2) rfl (by kernel_rfl) (by kernel_rfl) (by kernel_rfl) (by kernel_rfl) (by decide) (fun _ _ _ h => h) (Or.inl ⟨by rfl, fun W hSw => by (try dsimp only at hSw); go_simp⟩) (by assumption) ?_
  try simp only [Act.put, List.setIfInBounds_toArray, List.set_cons_zero, List.set_cons_succ]
  refine heldZ_take (i := 2) (oi := { dst := some 134, op := Op.move (Operand.tmp 1), type := 3, pos := "far.go:110", after := #[], guard := none }) (v := .int .i64 (q : Int)) rfl (by kernel_rfl) (by kernel_rfl) (by kernel_rfl) (by kernel_rfl) (by decide) (fun _ _ _ h => h) (Or.inl ⟨by rfl, fun W hSw => by (try dsimp only at hSw); go_simp⟩) (by assumption) ?_
  try simp only [Act.put, List.setIfInBounds_toArray, List.set_cons_zero, List.set_cons_succ]
  refine heldZ_take (i := 3) (oi := { dst := some 135, op := Op.fieldAddr 31 (Operand.tmp 2) 0, type := 0, pos := "far.go:110", after := #[], guard := none }) (v := .pointer (some ⟨b, 0, none⟩)) rfl (by kernel_rfl) (by kernel_rfl) (by kernel_rfl) (by kernel_rfl) (by decide) (fun _ _ _ h => h) (Or.inl ⟨by rfl, fun W hSw => by (try dsimp only at hSw); go_simp⟩) (by assumption) ?_
  try simp only [Act.put, List.setIfInBounds_toArray, List.set_cons_zero, List.set_cons_succ]
  refine heldZ_take (i := 4) (oi := { dst := some 136, op := Op.load 29 (Operand.tmp 135), type := 29, pos := "far.go:110", after := #[{ on := 3, ground := Ground.data }], guard := none }) (v := .slice (some ⟨b0, o0, none⟩) 8 c0) rfl (by kernel_rfl) (by kernel_rfl) (by kernel_rfl) (by kernel_rfl) (by decide) (fun _ _ _ h => h) (Or.inl ⟨by rfl, fun W hSw => by (try dsimp only at hSw); go_simp⟩) (by assumption) ?_
  try simp only [Act.put, List.setIfInBounds_toArray, List.set_cons_zero, List.set_cons_succ]
  refine heldZ_take (i := 5) (oi := { dst := some 137, op := Op.move (Operand.tmp 10), type := 3, pos := "far.go:110", after := #[], guard := none }) (v := .int .i64 (z : Int)) rfl (by kernel_rfl) (by kernel_rfl) (by kernel_rfl) (by kernel_rfl) (by decide) (fun _ _ _ h => h) (Or.inl ⟨by rfl, fun W hSw => by (try dsimp only at hSw); go_simp⟩) (by assumption) ?_
  try simp only [Act.put, List.setIfInBounds_toArray, List.set_cons_zero, List.set_cons_succ]
  refine heldZ_take (i := 6) (oi := { dst := some 138, op := Op.binOp BinOp.rem 3 (Operand.tmp 137) (Operand.const (Value.int IntKind.i64 8)) 3, type := 3, pos := "far.go:110", after := #[{ on := 5, ground := Ground.data }], guard := none }) (v := .int .i64 (m : Int)) rfl (by kernel_rfl) (by kernel_rfl) (by kernel_rfl) (by kernel_rfl) (by decide) (fun _ _ _ h => h) (Or.inl ⟨by rfl, fun W hSw => by (try dsimp only at hSw); go_simp⟩) (by assumption) ?_
  try simp only [Act.put, List.setIfInBounds_toArray, List.set_cons_zero, List.set_cons_succ]
  refine heldZ_take (i := 7) (oi := { dst := some 139, op := Op.indexAddr 29 (Operand.tmp 136) (Operand.tmp 138), type := 0, pos := "far.go:110", after := #[{ on := 4, ground := Ground.data }, { on := 6, ground := Ground.data }], guard := none }) (v := .pointer (some ⟨b0, o0 + m, none⟩)) rfl (by kernel_rfl) (by kernel_rfl) (by kernel_rfl) (by kernel_rfl) (by decide) (fun _ _ _ h => h) (Or.inl ⟨by rfl, fun W hSw => by (try dsimp only at hSw); go_simp⟩) (by assumption) ?_
  try simp only [Act.put, List.setIfInBounds_toArray, List.set_cons_zero, List.set_cons_succ]
  refine heldZ_take (i := 8) (oi := { dst := some 140, op := Op.load 3 (Operand.tmp 139), type := 3, pos := "far.go:110", after := #[{ on := 7, ground := Ground.data }], guard := none }) (v := .int .i64 (s.pl m)) rfl (by kernel_rfl) (by kernel_rfl) (by kernel_rfl) (by kernel_rfl) (by decide) (fun _ _ _ h => h) (Or.inl ⟨by rfl, fun W hSw => by (try dsimp only at hSw); go_simp⟩) (by assumption) ?_
  try simp only [Act.put, List.setIfInBounds_toArray, List.set_cons_zero, List.set_cons_succ]
  refine heldZ_call 9 (o := { dst := some 141, op := Op.call { callee := Callee.value (Operand.func 19), args := #[Operand.tmp 133, Operand.tmp 134, Operand.tmp 140], argTypes := #[29, 3, 3] }, type := 29, pos := "far.go:110", after := #[{ on := 1, ground := Ground.data }, { on := 2, ground := Ground.data }, { on := 8, ground := Ground.data }], guard := none }) ?hr1 ?ho1 ?hw1 19 #[.slice E2 n e2, .int .i64 (q : Int), .int .i64 (s.pl m)] ?hx1 _ HSET.out ?h1
  case hr1 => kernel_rfl
  case ho1 => rfl
  case hw1 => rfl
  case hx1 => (go_simp; try rfl)
  case h1 =>
  rintro e w7 ⟨E7, e7, rfl, hn, hb⟩
  have HN7 := Lib.hid hn
  have HC7 := Lib.hid (HSD.out.call hb)
  have qd := HC7.out.q.2.2.2.2.2.2
  have fd7 := HC7.out.box.free 6
  clear hn hb hHeld
  obtain ⟨xg7, yg7, eeg7, _, _, g7⟩ := nm_at HC7.out.v.p0 hm8
  injection eeg7 with eeg7
  injection eeg7 with eeg7 ffg7 _
  subst eeg7 ffg7
  refine ⟨_, rfl, fun _ => ⟨HC7.out.q.2.2.2.2.2.2, HC7.out.q.1, g7⟩, ?_⟩
  have hHeld : (fun W : World => W.cell? ⟨b, 6, none⟩ = some (.slice E2 n e2) ∧ W.cell? ⟨b, 0, none⟩ = some (.slice (some ⟨b0, o0, none⟩) 8 c0) ∧ W.cell? ⟨b0, o0 + m, none⟩ = some (.int .i64 (s.pl m))) w7 := ⟨HC7.out.q.2.2.2.2.2.2, HC7.out.q.1, g7⟩
  try simp only [Act.put, List.setIfInBounds_toArray, List.set_cons_zero, List.set_cons_succ]
  refine heldZ_take (i := 10) (oi := { dst := some 142, op := Op.fieldAddr 31 (Operand.tmp 2) 6, type := 0, pos := "far.go:110", after := #[{ on := 0, ground := Ground.phase }, { on := 1, ground := Ground.phase }, { on := 2, ground := Ground.phase }, { on := 3, ground := Ground.phase }, { on := 4, ground := Ground.phase }, { on := 5, ground := Ground.phase }, { on := 6, ground := Ground.phase }, { on := 7, ground := Ground.phase }, { on := 8, ground := Ground.phase }, { on := 9, ground := Ground.phase }], guard := none }) (v := .pointer (some ⟨b, 6, none⟩)) rfl (by kernel_rfl) (by kernel_rfl) (by kernel_rfl) (by kernel_rfl) (by decide) (fun _ _ _ h => h) (Or.inl ⟨by rfl, fun W hSw => by (try dsimp only at hSw); go_simp⟩) (by assumption) ?_
  try simp only [Act.put, List.setIfInBounds_toArray, List.set_cons_zero, List.set_cons_succ]
  clear hHeld q0 fq0 r0 fr0 q1 fq1 r1 fr1 q2 fq2 r2 fr2 q3 fq3 r3 fr3 q4 fq4 r4 fr4 q5 fq5 r5 fr5 q6 fq6 r6 fr6 g0 g7
  refine heldZ_last rfl (o := { dst := none, op := Op.store 29 (Operand.tmp 142) (Operand.tmp 141), type := 0, pos := "far.go:110", after := #[{ on := 10, ground := Ground.data }, { on := 9, ground := Ground.data }, { on := 9, ground := Ground.chain }, { on := 0, ground := Ground.phase }, { on := 1, ground := Ground.phase }, { on := 2, ground := Ground.phase }, { on := 3, ground := Ground.phase }, { on := 4, ground := Ground.phase }, { on := 5, ground := Ground.phase }, { on := 6, ground := Ground.phase }, { on := 7, ground := Ground.phase }, { on := 8, ground := Ground.phase }, { on := 9, ground := Ground.phase }], guard := none }) (by kernel_rfl) rfl (by kernel_rfl) rfl ?_
  intro K hK
  go_simp
  refine hK _ _ ?_
  clear hK
  clear qd fd7
  have hs7 := HC7.out.put6 (nm_stb _ _) HN7.out
  obtain ⟨V4, hV7⟩ : ∃ V, V = w7.setCell ⟨b, 6, none⟩ (.slice E7 n e7) := ⟨_, rfl⟩
  rw [← hV7] at hs7 ⊢
  have HS4 := Lib.hid hs7
  clear hs7 hV7 HC7 HN7 HSD HSET
  obtain ⟨q0, q1, q2, q3, q4, q5, q6⟩ := HS4.out.q
  have fq0 := HS4.out.box.free 0
  have fq1 := HS4.out.box.free 1
  have fq2 := HS4.out.box.free 2
  have fq3 := HS4.out.box.free 3
  have fq4 := HS4.out.box.free 4
  have fq5 := HS4.out.box.free 5
  have fq6 := HS4.out.box.free 6
  obtain ⟨r0, r1, r2, r3, r4, r5, r6⟩ := HS4.out.r
  have fr0 := HS4.out.res.free 0
  have fr1 := HS4.out.res.free 1
  have fr2 := HS4.out.res.free 2
  have fr3 := HS4.out.res.free 3
  have fr4 := HS4.out.res.free 4
  have fr5 := HS4.out.res.free 5
  have fr6 := HS4.out.res.free 6
  go_upto_region 52 with (go_at_call 19; (with_reducible refine (set_nm 8 HS4.out.hF HS4.out.v.p3 hq (by omega)).mono ?_); rintro e w9 ⟨E9, e9, rfl, hn, hb⟩; have HN9 := Lib.hid hn; have HC9 := Lib.hid (HS4.out.call hb); have qd := HC9.out.q.2.2.2.1; have fd9 := HC9.out.box.free 3; clear hn hb)
  clear q0 fq0 r0 fr0 q1 fq1 r1 fr1 q2 fq2 r2 fr2 q3 fq3 r3 fr3 q4 fq4 r4 fr4 q5 fq5 r5 fr5 q6 fq6 r6 fr6
  clear qd fd9
  have hs9 := HC9.out.put3 (nm_stb _ _) HN9.out
  obtain ⟨V9, hV9⟩ : ∃ V, V = w9.setCell ⟨b, 3, none⟩ (.slice E9 n e9) := ⟨_, rfl⟩
  rw [← hV9] at hs9 ⊢
  have HS9 := Lib.hid hs9
  clear hs9 hV9 HC9 HN9
  obtain ⟨q0, q1, q2, q3, q4, q5, q6⟩ := HS9.out.q
  have fq0 := HS9.out.box.free 0
  have fq1 := HS9.out.box.free 1
  have fq2 := HS9.out.box.free 2
  have fq3 := HS9.out.box.free 3
  have fq4 := HS9.out.box.free 4
  have fq5 := HS9.out.box.free 5
  have fq6 := HS9.out.box.free 6
  obtain ⟨r0, r1, r2, r3, r4, r5, r6⟩ := HS9.out.r
  have fr0 := HS9.out.res.free 0
  have fr1 := HS9.out.res.free 1
  have fr2 := HS9.out.res.free 2
  have fr3 := HS9.out.res.free 3
  have fr4 := HS9.out.res.free 4
  have fr5 := HS9.out.res.free 5
  have fr6 := HS9.out.res.free 6
  go_wp2
  have hrv := HS9.out.told.2.2
  refine bodyPost_ret (v := .tuple _) (results_cell4 rfl _ _ (b + 1) 31 _ (0, 0) _ rfl HS9.out.told.1 Tryd.underlying31 rfl (by kernel_rfl)) rfl (DpT.of ⟨_, _, _, _, _, _, _, rfl, ?rd, HS9.out.told.2.1⟩)
  case rd =>
    refine RD.mk' hrv ?_ rfl rfl ?_ ?_ ?_ ?_
    all_goals first | (intro p _; rfl) | (intro p _; by_cases e : p = q; (subst e; simp only [dvto, rput_same, dput_same] <;> rfl); (simp only [dvto, rput_other e, dput_other e]))
set_option maxHeartbeats 8000000 in
set_option maxRecDepth 100000 in
theorem d5y {F : Nat → Prop} {n : Nat} {s : DV} {v0 v1 v2 v3 v4 v5 v6 : Value} (w : World) (h : RD F w n s v0 v1 v2 v3 v4 v5 v6) (hF : ∀ b, F b → b < w.heap.size) (h4 : n ≤ 4) {q : Nat} (hq : q < n) (ha : s.a q = 5) (hf : (s.T : Int) < s.b q) :
    Calls Tryd.prog 12 #[.agg #[v0, v1, v2, v3, v4, v5, v6], .int .i64 (q : Int)] w fun e w' => DpT F w w' n (dvstp s q) true (s.pl ((s.b q).toNat % 8)) (0) e := by
  have e1 : v1 = .int .i64 ((s.T : Nat) : Int) := h.p1
  have e2 : v2 = .int .i64 s.B := h.p2
  subst e1 e2
  obtain ⟨A0, c0, rfl⟩ := SL.form h.p0
  obtain ⟨A3, c3, rfl⟩ := SL.form h.p3
  obtain ⟨A4, c4, rfl⟩ := SL.form h.p4
  obtain ⟨A5, c5, rfl⟩ := SL.form h.p5
  obtain ⟨A6, c6, rfl⟩ := SL.form h.p6
  have hst := RS.start h hF
  obtain ⟨b, hb⟩ : ∃ b, b = w.heap.size := ⟨_, rfl⟩
  obtain ⟨W0, hW0⟩ : ∃ W0, W0 = (w.alloc (.cells #[.slice A0 8 c0, .int .i64 ((s.T : Nat) : Int), .int .i64 s.B, .slice A3 n c3, .slice A4 n c4, .slice A5 n c5, .slice A6 n c6] 31)).alloc (.cells #[.slice none 0 0, .int .i64 0, .int .i64 0, .slice none 0 0, .slice none 0 0, .slice none 0 0, .slice none 0 0] 31) := ⟨_, rfl⟩
  rw [← hW0, ← hb] at hst
  have hwn : IntKind.i64.wrap ((n : Int) - 1) = (n : Int) - 1 := IntWalk.i64_in _ (by omega)
  have HS0 := Lib.hid hst
  have HW0 := Lib.hid hW0
  have HBW := Lib.hid hb.symm
  clear hst h hF hb hW0
  rw [(v5y (s := s) ha hf).1]
  obtain ⟨z, hz⟩ : ∃ z : Nat, s.b q = (z : Int) := ⟨(s.b q).toNat, by omega⟩
  have hzt : (s.b q).toNat = z := by omega
  rw [hzt]
  rw [hz] at hf
  obtain ⟨m, hm⟩ : ∃ m, m = z % 8 := ⟨_, rfl⟩
  have hm8 : m < 8 := by omega
  have hr : ((z : Int) : Int).tmod 8 = (m : Int) := by rw [hm]; exact rem_eight _
  have hwm : IntKind.i64.wrap (m : Int) = (m : Int) := IntWalk.i64_in _ (by omega)
  have hmI : (m : Int) < 8 := by omega
  have hm0 : (0 : Int) ≤ (m : Int) := by omega
  rw [← hm]
  have HI1 := Lib.hid (inW_any q 0 ((n : Int) - 1) true (decide_eq_true (by omega)))
  have hqI : (q : Int) < n := by omega
  obtain ⟨b3, o3, rfl, _, _, hct⟩ := nm_at HS0.out.v.p3 hq
  rw [ha] at hct
  obtain ⟨b4, o4, rfl, _, _, _⟩ := nm_at HS0.out.v.p4 hq
  obtain ⟨b5, o5, rfl, _, _, _⟩ := nm_at HS0.out.v.p5 hq
  have hw2 : IntKind.i64.wrap (5 + 1) = 6 := by rfl
  clear ha
  obtain ⟨b0, o0, rfl, _, _, _⟩ := nm_at HS0.out.v.p0 hm8
  have hfN : s.T < z := by omega
  have HZ := Lib.hid hz
  clear hzt hm hz
  go_enter Tryd.func12, Tryd.ntmps12
  go_upto_region 1 with fail
  rw [← HW0.out, HBW.out]
  obtain ⟨q0, q1, q2, q3, q4, q5, q6⟩ := HS0.out.q
  have fq0 := HS0.out.box.free 0
  have fq1 := HS0.out.box.free 1
  have fq2 := HS0.out.box.free 2
  have fq3 := HS0.out.box.free 3
  have fq4 := HS0.out.box.free 4
  have fq5 := HS0.out.box.free 5
  have fq6 := HS0.out.box.free 6
  obtain ⟨r0, r1, r2, r3, r4, r5, r6⟩ := HS0.out.r
  have fr0 := HS0.out.res.free 0
  have fr1 := HS0.out.res.free 1
  have fr2 := HS0.out.res.free 2
  have fr3 := HS0.out.res.free 3
  have fr4 := HS0.out.res.free 4
  have fr5 := HS0.out.res.free 5
  have fr6 := HS0.out.res.free 6
  go_upto_region 7 with (first | (go_at_call 22; (with_reducible refine (HI1.out _).mono ?_); rintro e w' ⟨rfl, rfl⟩) | (go_at_call 19; (with_reducible refine (set_nm 0 HS0.out.hF HS0.out.v.p3 hq (by omega)).mono ?_); rintro e w1 ⟨E1, e1, rfl, hn, hb⟩; have HN1 := Lib.hid hn; have HC1 := Lib.hid (HS0.out.call hb); have qd := HC1.out.q.2.2.2.1; have fd1 := HC1.out.box.free 3; clear hn hb))
  clear hct
  clear q0 fq0 r0 fr0 q1 fq1 r1 fr1 q2 fq2 r2 fr2 q3 fq3 r3 fr3 q4 fq4 r4 fr4 q5 fq5 r5 fr5 q6 fq6 r6 fr6
  clear qd fd1
  have hs1 := HC1.out.put3 (nm_stb _ _) HN1.out
  obtain ⟨V1, hV1⟩ : ∃ V, V = w1.setCell ⟨b, 3, none⟩ (.slice E1 n e1) := ⟨_, rfl⟩
  rw [← hV1] at hs1 ⊢
  have HS1 := Lib.hid hs1
  clear hs1 hV1 HC1 HN1
  obtain ⟨q0, q1, q2, q3, q4, q5, q6⟩ := HS1.out.q
  have fq0 := HS1.out.box.free 0
  have fq1 := HS1.out.box.free 1
  have fq2 := HS1.out.box.free 2
  have fq3 := HS1.out.box.free 3
  have fq4 := HS1.out.box.free 4
  have fq5 := HS1.out.box.free 5
  have fq6 := HS1.out.box.free 6
  obtain ⟨r0, r1, r2, r3, r4, r5, r6⟩ := HS1.out.r
  have fr0 := HS1.out.res.free 0
  have fr1 := HS1.out.res.free 1
  have fr2 := HS1.out.res.free 2
  have fr3 := HS1.out.res.free 3
  have fr4 := HS1.out.res.free 4
  have fr5 := HS1.out.res.free 5
  have fr6 := HS1.out.res.free 6
  obtain ⟨xg4, yg4, eeg4, _, _, g4⟩ := nm_at HS1.out.v.p4 hq
  injection eeg4 with eeg4
  injection eeg4 with eeg4 ffg4 _
  subst eeg4 ffg4
  obtain ⟨xg5, yg5, eeg5, _, _, g5⟩ := nm_at HS1.out.v.p5 hq
  injection eeg5 with eeg5
  injection eeg5 with eeg5 ffg5 _
  subst eeg5 ffg5
  rw [HZ.out] at g5
  clear HZ
  go_upto_region 24 with (go_at_call 19; (with_reducible refine (set_nm ((s.T : Nat) : Int) HS1.out.hF HS1.out.v.p4 hq (by omega)).mono ?_); rintro e w2 ⟨E2, e2, rfl, hn, hb⟩; have HN2 := Lib.hid hn; have HC2 := Lib.hid (HS1.out.call hb); have qd := HC2.out.q.2.2.2.2.1; have fd2 := HC2.out.box.free 4; clear hn hb)
  clear g4 g5
  clear q0 fq0 r0 fr0 q1 fq1 r1 fr1 q2 fq2 r2 fr2 q3 fq3 r3 fr3 q4 fq4 r4 fr4 q5 fq5 r5 fr5 q6 fq6 r6 fr6
  clear qd fd2
  have hs2 := HC2.out.put4 (nm_stb _ _) HN2.out
  obtain ⟨V2, hV2⟩ : ∃ V, V = w2.setCell ⟨b, 4, none⟩ (.slice E2 n e2) := ⟨_, rfl⟩
  rw [← hV2] at hs2 ⊢
  have HS2 := Lib.hid hs2
  clear hs2 hV2 HC2 HN2
  obtain ⟨q0, q1, q2, q3, q4, q5, q6⟩ := HS2.out.q
  have fq0 := HS2.out.box.free 0
  have fq1 := HS2.out.box.free 1
  have fq2 := HS2.out.box.free 2
  have fq3 := HS2.out.box.free 3
  have fq4 := HS2.out.box.free 4
  have fq5 := HS2.out.box.free 5
  have fq6 := HS2.out.box.free 6
  obtain ⟨r0, r1, r2, r3, r4, r5, r6⟩ := HS2.out.r
  have fr0 := HS2.out.res.free 0
  have fr1 := HS2.out.res.free 1
  have fr2 := HS2.out.res.free 2
  have fr3 := HS2.out.res.free 3
  have fr4 := HS2.out.res.free 4
  have fr5 := HS2.out.res.free 5
  have fr6 := HS2.out.res.free 6
  go_upto_region 25 with fail
  have HS3 := Lib.hid (HS2.out.call (Below.refl V2.heap.size V2).drew)
  have HTD := Lib.hid (told_drew HS2.out.told)
  obtain ⟨xgA, ygA, eegA, _, _, gA⟩ := nm_at HS3.out.v.p0 hm8
  injection eegA with eegA
  injection eegA with eegA ffgA _
  subst eegA ffgA
  obtain ⟨xgB, ygB, eegB, _, _, gB⟩ := nm_at HTD.out.2.2.p0 hm8
  injection eegB with eegB
  injection eegB with eegB ffgB _
  subst eegB ffgB
  have HSS : Hid ((fun W : World => W.cell? ⟨b, 0, none⟩ = some (.slice (some ⟨b0, o0, none⟩) 8 c0) ∧ W.cell? ⟨b, 1, none⟩ = some (.int .i64 ((s.T : Nat) : Int)) ∧ W.cell? ⟨b, 2, none⟩ = some (.int .i64 s.B) ∧ W.cell? ⟨b, 3, none⟩ = some (.slice E1 n e1) ∧ W.cell? ⟨b, 4, none⟩ = some (.slice E2 n e2) ∧ W.cell? ⟨b, 5, none⟩ = some (.slice (some ⟨b5, o5, none⟩) n c5) ∧ W.cell? ⟨b, 6, none⟩ = some (.slice A6 n c6) ∧ W.cell? ⟨b0, o0 + m, none⟩ = some (.int .i64 (s.pl m))) V2.drew) := Lib.hid ⟨HS3.out.q.1, HS3.out.q.2.1, HS3.out.q.2.2.1, HS3.out.q.2.2.2.1, HS3.out.q.2.2.2.2.1, HS3.out.q.2.2.2.2.2.1, HS3.out.q.2.2.2.2.2.2, gA⟩
  have HST : Hid ((fun W : World => W.cell? ⟨b, 0, none⟩ = some (.slice (some ⟨b0, o0, none⟩) 8 c0) ∧ W.cell? ⟨b, 1, none⟩ = some (.int .i64 ((s.T : Nat) : Int)) ∧ W.cell? ⟨b, 2, none⟩ = some (.int .i64 s.B) ∧ W.cell? ⟨b, 3, none⟩ = some (.slice E1 n e1) ∧ W.cell? ⟨b, 4, none⟩ = some (.slice E2 n e2) ∧ W.cell? ⟨b, 5, none⟩ = some (.slice (some ⟨b5, o5, none⟩) n c5) ∧ W.cell? ⟨b, 6, none⟩ = some (.slice A6 n c6) ∧ W.cell? ⟨b0, o0 + m, none⟩ = some (.int .i64 (s.pl m))) (((((((V2.setCell ⟨b + 1, 0, none⟩ (.slice (some ⟨b0, o0, none⟩) 8 c0)).setCell ⟨b + 1, 1, none⟩ (.int .i64 ((s.T : Nat) : Int))).setCell ⟨b + 1, 2, none⟩ (.int .i64 s.B)).setCell ⟨b + 1, 3, none⟩ (.slice E1 n e1)).setCell ⟨b + 1, 4, none⟩ (.slice E2 n e2)).setCell ⟨b + 1, 5, none⟩ (.slice (some ⟨b5, o5, none⟩) n c5)).setCell ⟨b + 1, 6, none⟩ (.slice A6 n c6)).drew) := Lib.hid (have hf := far7 HS2.out.q; ⟨hf.1, hf.2.1, hf.2.2.1, hf.2.2.2.1, hf.2.2.2.2.1, hf.2.2.2.2.2.1, hf.2.2.2.2.2.2, gB⟩)
  clear gA gB
  refine wp_region_held_drew (S := (fun W : World => W.cell? ⟨b, 0, none⟩ = some (.slice (some ⟨b0, o0, none⟩) 8 c0) ∧ W.cell? ⟨b, 1, none⟩ = some (.int .i64 ((s.T : Nat) : Int)) ∧ W.cell? ⟨b, 2, none⟩ = some (.int .i64 s.B) ∧ W.cell? ⟨b, 3, none⟩ = some (.slice E1 n e1) ∧ W.cell? ⟨b, 4, none⟩ = some (.slice E2 n e2) ∧ W.cell? ⟨b, 5, none⟩ = some (.slice (some ⟨b5, o5, none⟩) n c5) ∧ W.cell? ⟨b, 6, none⟩ = some (.slice A6 n c6) ∧ W.cell? ⟨b0, o0 + m, none⟩ = some (.int .i64 (s.pl m)))) (by kernel_rfl) ?_ (fun hHeld => ?_)
  · exact HSS.out
  refine wpAnyH_take (i := 0) (oi := { dst := some 102, op := Op.load 31 (Operand.tmp 2), type := 31, pos := "far.go:98", after := #[], guard := none }) (v := .agg #[.slice (some ⟨b0, o0, none⟩) 8 c0, .int .i64 ((s.T : Nat) : Int), .int .i64 s.B, .slice E1 n e1, .slice E2 n e2, .slice (some ⟨b5, o5, none⟩) n c5, .slice A6 n c6]) rfl (by kernel_rfl) (by kernel_rfl) (by kernel_rfl) (fun _ _ _ h => h) (Or.inl ⟨by rfl, fun W hSw => by (try dsimp only at hSw); go_simp⟩) (by assumption) ?_
  try simp only [Act.put, List.setIfInBounds_toArray, List.set_cons_zero, List.set_cons_succ]
  refine wpAnyH_take (i := 1) (oi := { dst := some 103, op := Op.fieldAddr 31 (Operand.tmp 2) 0, type := 0, pos := "far.go:98", after := #[{ on := 8, ground := Ground.gcOnly Departure.lateStores }], guard := none }) (v := .pointer (some ⟨b, 0, none⟩)) rfl (by kernel_rfl) (by kernel_rfl) (by kernel_rfl) (fun _ _ _ h => h) (Or.inl ⟨by rfl, fun W hSw => by (try dsimp only at hSw); go_simp⟩) (by assumption) ?_
  try simp only [Act.put, List.setIfInBounds_toArray, List.set_cons_zero, List.set_cons_succ]
  refine wpAnyH_take (i := 2) (oi := { dst := some 104, op := Op.load 29 (Operand.tmp 103), type := 29, pos := "far.go:98", after := #[{ on := 1, ground := Ground.data }, { on := 8, ground := Ground.gcOnly Departure.lateStores }], guard := none }) (v := .slice (some ⟨b0, o0, none⟩) 8 c0) rfl (by kernel_rfl) (by kernel_rfl) (by kernel_rfl) (fun _ _ _ h => h) (Or.inl ⟨by rfl, fun W hSw => by (try dsimp only at hSw); go_simp⟩) (by assumption) ?_
  try simp only [Act.put, List.setIfInBounds_toArray, List.set_cons_zero, List.set_cons_succ]
  refine wpAnyH_take (i := 3) (oi := { dst := some 105, op := Op.move (Operand.tmp 10), type := 3, pos := "far.go:98", after := #[{ on := 8, ground := Ground.gcOnly Departure.lateStores }], guard := none }) (v := .int .i64 (z : Int)) rfl (by kernel_rfl) (by kernel_rfl) (by kernel_rfl) (fun _ _ _ h => h) (Or.inl ⟨by rfl, fun W hSw => by (try dsimp only at hSw); go_simp⟩) (by assumption) ?_
  try simp only [Act.put, List.setIfInBounds_toArray, List.set_cons_zero, List.set_cons_succ]
  refine wpAnyH_take (i := 4) (oi := { dst := some 106, op := Op.binOp BinOp.rem 3 (Operand.tmp 105) (Operand.const (Value.int IntKind.i64 8)) 3, type := 3, pos := "far.go:98", after := #[{ on := 3, ground := Ground.data }, { on := 8, ground := Ground.gcOnly Departure.lateStores }], guard := none }) (v := .int .i64 (m : Int)) rfl (by kernel_rfl) (by kernel_rfl) (by kernel_rfl) (fun _ _ _ h => h) (Or.inl ⟨by rfl, fun W hSw => by (try dsimp only at hSw); go_simp⟩) (by assumption) ?_
  try simp only [Act.put, List.setIfInBounds_toArray, List.set_cons_zero, List.set_cons_succ]
  refine wpAnyH_take (i := 5) (oi := { dst := some 107, op := Op.indexAddr 29 (Operand.tmp 104) (Operand.tmp 106), type := 0, pos := "far.go:98", after := #[{ on := 2, ground := Ground.data }, { on := 4, ground := Ground.data }, { on := 8, ground := Ground.gcOnly Departure.lateStores }], guard := none }) (v := .pointer (some ⟨b0, o0 + m, none⟩)) rfl (by kernel_rfl) (by kernel_rfl) (by kernel_rfl) (fun _ _ _ h => h) (Or.inl ⟨by rfl, fun W hSw => by (try dsimp only at hSw); go_simp⟩) (by assumption) ?_
  try simp only [Act.put, List.setIfInBounds_toArray, List.set_cons_zero, List.set_cons_succ]
  refine wpAnyH_take (i := 6) (oi := { dst := some 108, op := Op.load 3 (Operand.tmp 107), type := 3, pos := "far.go:98", after := #[{ on := 5, ground := Ground.data }, { on := 8, ground := Ground.gcOnly Departure.lateStores }], guard := none }) (v := .int .i64 (s.pl m)) rfl (by kernel_rfl) (by kernel_rfl) (by kernel_rfl) (fun _ _ _ h => h) (Or.inl ⟨by rfl, fun W hSw => by (try dsimp only at hSw); go_simp⟩) (by assumption) ?_
  try simp only [Act.put, List.setIfInBounds_toArray, List.set_cons_zero, List.set_cons_succ]
  refine held_any 7 (o := { dst := none, op := Op.store 31 (Operand.tmp 4) (Operand.tmp 102), type := 0, pos := "far.go:98", after := #[{ on := 0, ground := Ground.data }, { on := 0, ground := Ground.phase }, { on := 1, ground := Ground.textOnly Departure.lateStores }, { on := 2, ground := Ground.textOnly Departure.lateStores }, { on := 3, ground := Ground.textOnly Departure.lateStores }, { on := 4, ground := Ground.textOnly Departure.lateStores }, { on := 5, ground := Ground.textOnly Departure.lateStores }, { on := 6, ground := Ground.textOnly Departure.lateStores }], guard := none }) ?hr_2 ?ho_2 ?hw_2 undef (((((((V2.setCell ⟨b + 1, 0, none⟩ (.slice (some ⟨b0, o0, none⟩) 8 c0)).setCell ⟨b + 1, 1, none⟩ (.int .i64 ((s.T : Nat) : Int))).setCell ⟨b + 1, 2, none⟩ (.int .i64 s.B)).setCell ⟨b + 1, 3, none⟩ (.slice E1 n e1)).setCell ⟨b + 1, 4, none⟩ (.slice E2 n e2)).setCell ⟨b + 1, 5, none⟩ (.slice (some ⟨b5, o5, none⟩) n c5)).setCell ⟨b + 1, 6, none⟩ (.slice A6 n c6)).drew ?hy_2 ?hS_2 ?h_2
  case hr_2 => kernel_rfl
  case ho_2 => rfl
  case hw_2 => rfl
  case hy_2 => (intro K hK; go_simp; exact hK)
  case hS_2 => exact HST.out
  clear hHeld
  have hHeld := HST.out
  try simp only [Act.put]
  refine wpAnyH_take (i := 8) (oi := { dst := some 5, op := Op.assign (Operand.const (Value.bool true)), type := 4, pos := "far.go:98", after := #[{ on := 7, ground := Ground.chain }, { on := 0, ground := Ground.phase }, { on := 1, ground := Ground.textOnly Departure.lateStores }, { on := 2, ground := Ground.textOnly Departure.lateStores }, { on := 3, ground := Ground.textOnly Departure.lateStores }, { on := 4, ground := Ground.textOnly Departure.lateStores }, { on := 5, ground := Ground.textOnly Departure.lateStores }, { on := 6, ground := Ground.textOnly Departure.lateStores }, { on := 7, ground := Ground.phase }], guard := none }) (v := .bool true) rfl (by kernel_rfl) (by kernel_rfl) (by kernel_rfl) (fun _ _ _ h => h) (Or.inl ⟨by rfl, fun W hSw => by (try dsimp only at hSw); go_simp⟩) (by assumption) ?_
  try simp only [Act.put, List.setIfInBounds_toArray, List.set_cons_zero, List.set_cons_succ]
  refine wpAnyH_take (i := 9) (oi := { dst := some 6, op := Op.assign (Operand.tmp 108), type := 3, pos := "far.go:98", after := #[{ on := 6, ground := Ground.data }, { on := 8, ground := Ground.chain }, { on := 0, ground := Ground.phase }, { on := 1, ground := Ground.phase }, { on := 2, ground := Ground.phase }, { on := 3, ground := Ground.phase }, { on := 4, ground := Ground.phase }, { on := 5, ground := Ground.phase }, { on := 6, ground := Ground.phase }, { on := 7, ground := Ground.phase }, { on := 8, ground := Ground.phase }], guard := none }) (v := .int .i64 (s.pl m)) rfl (by kernel_rfl) (by kernel_rfl) (by kernel_rfl) (fun _ _ _ h => h) (Or.inl ⟨by rfl, fun W hSw => by (try dsimp only at hSw); go_simp⟩) (by assumption) ?_
  try simp only [Act.put, List.setIfInBounds_toArray, List.set_cons_zero, List.set_cons_succ]
  refine wpAnyH_take (i := 10) (oi := { dst := some 7, op := Op.assign (Operand.const (Value.int IntKind.i64 0)), type := 3, pos := "far.go:98", after := #[{ on := 9, ground := Ground.chain }, { on := 0, ground := Ground.phase }, { on := 1, ground := Ground.phase }, { on := 2, ground := Ground.phase }, { on := 3, ground := Ground.phase }, { on := 4, ground := Ground.phase }, { on := 5, ground := Ground.phase }, { on := 6, ground := Ground.phase }, { on := 7, ground := Ground.phase }, { on := 8, ground := Ground.phase }, { on := 9, ground := Ground.phase }], guard := none }) (v := .int .i64 0) rfl (by kernel_rfl) (by kernel_rfl) (by kernel_rfl) (fun _ _ _ h => h) (Or.inl ⟨by rfl, fun W hSw => by (try dsimp only at hSw); go_simp⟩) (by assumption) ?_
  try simp only [Act.put, List.setIfInBounds_toArray, List.set_cons_zero, List.set_cons_succ]
  refine wpAnyH_done (by kernel_rfl) ?_ _
  go_wp2_with fail
  refine bodyPost_ret (v := .tuple _) (results_cell4 rfl _ _ (b + 1) 31 _ (0, 0) _ rfl HTD.out.1 Tryd.underlying31 rfl (by kernel_rfl)) rfl (DpT.of ⟨_, _, _, _, _, _, _, rfl, ?rd, HTD.out.2.1⟩)
  case rd =>
    refine RD.mk' HTD.out.2.2 ?_ rfl rfl ?_ ?_ ?_ ?_
    all_goals first | (intro p _; rfl) | (intro p _; by_cases e : p = q; (subst e; simp only [dvto, rput_same, dput_same] <;> rfl); (simp only [dvto, rput_other e, dput_other e]))
end Go.Proofs.YtbicckeoidijpaaDoor.Dq
