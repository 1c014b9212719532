/-
  The reference of package deque: StepDeque: d2, d11.
-/
import Derived.Test.YtbicckeoidijpaaDoorDqRef
namespace Go.Proofs.YtbicckeoidijpaaDoor.Dq
open Go.RowKit Rf

set_option maxHeartbeats 8000000 in
set_option maxRecDepth 100000 in
theorem d2 {F : Nat → Prop} {n : Nat} {s : DV} {v0 v1 v2 v3 v4 v5 v6 : Value} (w : World) (h : RD F w n s v0 v1 v2 v3 v4 v5 v6) (hF : ∀ b, F b → b < w.heap.size) (h4 : n ≤ 4) {q : Nat} (hq : q < n) (ha : s.a q = 2) (hB : 0 ≤ s.B) :
    Calls Tryd.prog 12 #[.agg #[v0, v1, v2, v3, v4, v5, v6], .int .i64 (q : Int)] w fun e w' => DpT F w w' n (dvstp s q) false (0) (0) e := by
  have e1 : v1 = .int .i64 ((s.T : Nat) : Int) := h.p1
  have e2 : v2 = .int .i64 s.B := h.p2
  subst e1 e2
  obtain ⟨A0, c0, rfl⟩ := SL.form h.p0
  obtain ⟨A3, c3, rfl⟩ := SL.form h.p3
  obtain ⟨A4, c4, rfl⟩ := SL.form h.p4
  obtain ⟨A5, c5, rfl⟩ := SL.form h.p5
  obtain ⟨A6, c6, rfl⟩ := SL.form h.p6
  have hst := RS.start h hF
  obtain ⟨b, hb⟩ : ∃ b, b = w.heap.size := ⟨_, rfl⟩
  obtain ⟨W0, hW0⟩ : ∃ W0, W0 = (w.alloc (.cells #[.slice A0 8 c0, .int .i64 ((s.T : Nat) : Int), .int .i64 s.B, .slice A3 n c3, .slice A4 n c4, .slice A5 n c5, .slice A6 n c6] 31)).alloc (.cells #[.slice none 0 0, .int .i64 0, .int .i64 0, .slice none 0 0, .slice none 0 0, .slice none 0 0, .slice none 0 0] 31) := ⟨_, rfl⟩
  rw [← hW0, ← hb] at hst
  have hwn : IntKind.i64.wrap ((n : Int) - 1) = (n : Int) - 1 := IntWalk.i64_in _ (by omega)
  have HS0 := Lib.hid hst
  have HW0 := Lib.hid hW0
  have HBW := Lib.hid hb.symm
  clear hst h hF hb hW0
  rw [(v2 (s := s) ha).1]
  obtain ⟨z, hz⟩ : ∃ z : Nat, s.B = (z : Int) := ⟨s.B.toNat, by omega⟩
  have hzt : s.B.toNat = z := by omega
  rw [hzt]
  obtain ⟨m, hm⟩ : ∃ m, m = z % 8 := ⟨_, rfl⟩
  have hm8 : m < 8 := by omega
  have hr : ((z : Int) : Int).tmod 8 = (m : Int) := by rw [hm]; exact rem_eight _
  have hwm : IntKind.i64.wrap (m : Int) = (m : Int) := IntWalk.i64_in _ (by omega)
  have hmI : (m : Int) < 8 := by omega
  have hm0 : (0 : Int) ≤ (m : Int) := by omega
  rw [← hm]
  have HI1 := Lib.hid (inW_any q 0 ((n : Int) - 1) true (decide_eq_true (by omega)))
  have hqI : (q : Int) < n := by omega
  obtain ⟨b3, o3, rfl, _, _, hct⟩ := nm_at HS0.out.v.p3 hq
  rw [ha] at hct
  obtain ⟨b4, o4, rfl, _, _, _⟩ := nm_at HS0.out.v.p4 hq
  obtain ⟨b5, o5, rfl, _, _, _⟩ := nm_at HS0.out.v.p5 hq
  have hw2 : IntKind.i64.wrap (2 + 1) = 3 := by rfl
  clear ha
  obtain ⟨b6, o6, rfl, _, _, _⟩ := nm_at HS0.out.v.p6 hq
  have HZ := Lib.hid hz
  clear hB hzt hm hz
  go_enter Tryd.func12, Tryd.ntmps12
  go_upto_region 1 with fail
  rw [← HW0.out, HBW.out]
  obtain ⟨q0, q1, q2, q3, q4, q5, q6⟩ := HS0.out.q
  have fq0 := HS0.out.box.free 0
  have fq1 := HS0.out.box.free 1
  have fq2 := HS0.out.box.free 2
  have fq3 := HS0.out.box.free 3
  have fq4 := HS0.out.box.free 4
  have fq5 := HS0.out.box.free 5
  have fq6 := HS0.out.box.free 6
  obtain ⟨r0, r1, r2, r3, r4, r5, r6⟩ := HS0.out.r
  have fr0 := HS0.out.res.free 0
  have fr1 := HS0.out.res.free 1
  have fr2 := HS0.out.res.free 2
  have fr3 := HS0.out.res.free 3
  have fr4 := HS0.out.res.free 4
  have fr5 := HS0.out.res.free 5
  have fr6 := HS0.out.res.free 6
  go_upto_region 7 with (first | (go_at_call 22; (with_reducible refine (HI1.out _).mono ?_); rintro e w' ⟨rfl, rfl⟩) | (go_at_call 19; (with_reducible refine (set_nm 0 HS0.out.hF HS0.out.v.p3 hq (by omega)).mono ?_); rintro e w1 ⟨E1, e1, rfl, hn, hb⟩; have HN1 := Lib.hid hn; have HC1 := Lib.hid (HS0.out.call hb); have qd := HC1.out.q.2.2.2.1; have fd1 := HC1.out.box.free 3; clear hn hb))
  clear hct
  clear q0 fq0 r0 fr0 q1 fq1 r1 fr1 q2 fq2 r2 fr2 q3 fq3 r3 fr3 q4 fq4 r4 fr4 q5 fq5 r5 fr5 q6 fq6 r6 fr6
  clear qd fd1
  have hs1 := HC1.out.put3 (nm_stb _ _) HN1.out
  obtain ⟨V1, hV1⟩ : ∃ V, V = w1.setCell ⟨b, 3, none⟩ (.slice E1 n e1) := ⟨_, rfl⟩
  rw [← hV1] at hs1 ⊢
  have HS1 := Lib.hid hs1
  clear hs1 hV1 HC1 HN1
  obtain ⟨q0, q1, q2, q3, q4, q5, q6⟩ := HS1.out.q
  have fq0 := HS1.out.box.free 0
  have fq1 := HS1.out.box.free 1
  have fq2 := HS1.out.box.free 2
  have fq3 := HS1.out.box.free 3
  have fq4 := HS1.out.box.free 4
  have fq5 := HS1.out.box.free 5
  have fq6 := HS1.out.box.free 6
  obtain ⟨r0, r1, r2, r3, r4, r5, r6⟩ := HS1.out.r
  have fr0 := HS1.out.res.free 0
  have fr1 := HS1.out.res.free 1
  have fr2 := HS1.out.res.free 2
  have fr3 := HS1.out.res.free 3
  have fr4 := HS1.out.res.free 4
  have fr5 := HS1.out.res.free 5
  have fr6 := HS1.out.res.free 6
  obtain ⟨xg4, yg4, eeg4, _, _, g4⟩ := nm_at HS1.out.v.p4 hq
  injection eeg4 with eeg4
  injection eeg4 with eeg4 ffg4 _
  subst eeg4 ffg4
  obtain ⟨xg5, yg5, eeg5, _, _, g5⟩ := nm_at HS1.out.v.p5 hq
  injection eeg5 with eeg5
  injection eeg5 with eeg5 ffg5 _
  subst eeg5 ffg5
  rw [HZ.out] at q2
  obtain ⟨xg6, yg6, eeg6, _, _, g6⟩ := nm_at HS1.out.v.p6 hq
  injection eeg6 with eeg6
  injection eeg6 with eeg6 ffg6 _
  subst eeg6 ffg6
  go_upto_region 15 with fail
  have HSD := Lib.hid (HS1.out.call (Below.refl V1.heap.size V1).drew)
  have HSET := Lib.hid (set_nm (s.v q) (fun z hz => HSD.out.hF z hz) HSD.out.v.p0 hm8 (by omega))
  refine heldZ_begin (S := (fun W : World => W.cell? ⟨b, 0, none⟩ = some (.slice A0 8 c0) ∧ W.cell? ⟨b, 2, none⟩ = some (.int .i64 (z : Int)) ∧ W.cell? ⟨b, 6, none⟩ = some (.slice (some ⟨b6, o6, none⟩) n c6) ∧ W.cell? ⟨b6, o6 + q, none⟩ = some (.int .i64 (s.v q)))) 12 (by kernel_rfl) ?_ (fun hHeld => ?_)
  · exact ⟨HSD.out.q.1, by have h := HSD.out.q.2.2.1; rwa [HZ.out] at h, HSD.out.q.2.2.2.2.2.2, g6⟩
  refine heldZ_take (i := 0) (oi := { dst := some 57, op := Op.fieldAddr 31 (Operand.tmp 2) 0, type := 0, pos := "far.go:88", after := #[], guard := none }) (v := .pointer (some ⟨b, 0, none⟩)) rfl (by kernel_rfl) (by kernel_rfl) (by kernel_rfl) (by kernel_rfl) (by decide) (fun _ _ _ h => h) (Or.inl ⟨by rfl, fun W hSw => by (try dsimp only at hSw); go_simp⟩) (by assumption) ?_
  try simp only [Act.put, List.setIfInBounds_toArray, List.set_cons_zero, List.set_cons_succ]
  refine heldZ_take (i := 1) (oi := { dst := some 58, op := Op.load 29 (Operand.tmp 57), type := 29, pos := "far.go:88", after := #[{ on := 0, ground := Ground.data }], guard := none }) (v := .slice A0 8 c0) rfl (by kernel_rfl) (by kernel_rfl) (by kernel_rfl) (by kernel_rfl) (by decide) (fun _ _ _ h => h) (Or.inl ⟨by rfl, fun W hSw => by (try dsimp only at hSw); go_simp⟩) (by assumption) ?_
  try simp only [Act.put, List.setIfInBounds_toArray, List.set_cons_zero, List.set_cons_succ]
  refine heldZ_take (i := 2) (oi := { dst := some 59, op := Op.fieldAddr 31 (Operand.tmp 2) 2, type := 0, pos := "far.go:88", after := #[], guard := none }) (v := .pointer (some ⟨b, 2, none⟩)) rfl (by kernel_rfl) (by kernel_rfl) (by kernel_rfl) (by kernel_rfl) (by decide) (fun _ _ _ h => h) (Or.inl ⟨by rfl, fun W hSw => by (try dsimp only at hSw); go_simp⟩) (by assumption) ?_
  try simp only [Act.put, List.setIfInBounds_toArray, List.set_cons_zero, List.set_cons_succ]
  refine heldZ_take (i := 3) (oi := { dst := some 60, op := Op.load 3 (Operand.tmp 59), type := 3, pos := "far.go:88", after := #[{ on := 2, ground := Ground.data }], guard := none }) (v := .int .i64 (z : Int)) rfl (by kernel_rfl) (by kernel_rfl) (by kernel_rfl) (by kernel_rfl) (by decide) (fun _ _ _ h => h) (Or.inl ⟨by rfl, fun W hSw => by (try dsimp only at hSw); go_simp⟩) (by assumption) ?_
  try simp only [Act.put, List.setIfInBounds_toArray, List.set_cons_zero, List.set_cons_succ]
  refine heldZ_take (i := 4) (oi := { dst := some 61, op := Op.binOp BinOp.rem 3 (Operand.tmp 60) (Operand.const (Value.int IntKind.i64 8)) 3, type := 3, pos := "far.go:88", after := #[{ on := 3, ground := Ground.data }], guard := none }) (v := .int .i64 (m : Int)) rfl (by kernel_rfl) (by kernel_rfl) (by kernel_rfl) (by kernel_rfl) (by decide) (fun _ _ _ h => h) (Or.inl ⟨by rfl, fun W hSw => by (try dsimp only at hSw); go_simp⟩) (by assumption) ?_
  try simp only [Act.put, List.setIfInBounds_toArray, List.set_cons_zero, List.set_cons_succ]
  refine heldZ_take (i := 5) (oi := { dst := some 62, op := Op.fieldAddr 31 (Operand.tmp 2) 6, type := 0, pos := "far.go:88", after := #[], guard := none }) (v := .pointer (some ⟨b, 6, none⟩)) rfl (by kernel_rfl) (by kernel_rfl) (by kernel_rfl) (by kernel_rfl) (by decide) (fun _ _ _ h => h) (Or.inl ⟨by rfl, fun W hSw => by (try dsimp only at hSw); go_simp⟩) (by assumption) ?_
  try simp only [Act.put, List.setIfInBounds_toArray, List.set_cons_zero, List.set_cons_succ]
  refine heldZ_take (i := 6) (oi := { dst := some 63, op := Op.load 29 (Operand.tmp 62), type := 29, pos := "far.go:88", after := #[{ on := 5, ground := Ground.data }], guard := none }) (v := .slice (some ⟨b6, o6, none⟩) n c6) rfl (by kernel_rfl) (by kernel_rfl) (by kernel_rfl) (by kernel_rfl) (by decide) (fun _ _ _ h => h) (Or.inl ⟨by rfl, fun W hSw => by (try dsimp only at hSw); go_simp⟩) (by assumption) ?_
  try simp only [Act.put, List.setIfInBounds_toArray, List.set_cons_zero, List.set_cons_succ]
  refine heldZ_take (i := 7) (oi := { dst := some 64, op := Op.move (Operand.tmp 1), type := 3, pos := "far.go:88", after := #[], guard := none }) (v := .int .i64 (q : Int)) rfl (by kernel_rfl) (by kernel_rfl) (by kernel_rfl) (by kernel_rfl) (by decide) (fun _ _ _ h => h) (Or.inl ⟨by rfl, fun W hSw => by (try dsimp only at hSw); go_simp⟩) (by assumption) ?_
  try simp only [Act.put, List.setIfInBounds_toArray, List.set_cons_zero, List.set_cons_succ]
  refine heldZ_take (i := 8) (oi := { dst := some 65, op := Op.indexAddr 29 (Operand.tmp 63) (Operand.tmp 64), type := 0, pos := "far.go:88", after := #[{ on := 6, ground := Ground.data }, { on := 7, ground := Ground.data }], guard := none }) (v := .pointer (some ⟨b6, o6 + q, none⟩)) rfl (by kernel_rfl) (by kernel_rfl) (by kernel_rfl) (by kernel_rfl) (by decide) (fun _ _ _ h => h) (Or.inl ⟨by rfl, fun W hSw => by (try dsimp only at hSw); go_simp⟩) (by assumption) ?_
  try simp only [Act.put, List.setIfInBounds_toArray, List.set_cons_zero, List.set_cons_succ]
  refine heldZ_take (i := 9) (oi := { dst := some 66, op := Op.load 3 (Operand.tmp 65), type := 3, pos := "far.go:88", after := #[{ on := 8, ground := Ground.data }], guard := none }) (v := .int .i64 (s.v q)) rfl (by kernel_rfl) (by kernel_rfl) (by kernel_rfl) (by kernel_rfl) (by decide) (fun _ _ _ h => h) (Or.inl ⟨by rfl, fun W hSw => by (try dsimp only at hSw); go_simp⟩) (by assumption) ?_
  try simp only [Act.put, List.setIfInBounds_toArray, List.set_cons_zero, List.set_cons_succ]
  refine heldZ_call 10 (o := { dst := some 67, op := Op.call { callee := Callee.value (Operand.func 19), args := #[Operand.tmp 58, Operand.tmp 61, Operand.tmp 66], argTypes := #[29, 3, 3] }, type := 29, pos := "far.go:88", after := #[{ on := 1, ground := Ground.data }, { on := 4, ground := Ground.data }, { on := 9, ground := Ground.data }], guard := none }) ?hr1 ?ho1 ?hw1 19 #[.slice A0 8 c0, .int .i64 (m : Int), .int .i64 (s.v q)] ?hx1 _ HSET.out ?h1
  case hr1 => kernel_rfl
  case ho1 => rfl
  case hw1 => rfl
  case hx1 => (go_simp; try rfl)
  case h1 =>
  rintro e w7 ⟨E7, e7, rfl, hn, hb⟩
  have HN7 := Lib.hid hn
  have HC7 := Lib.hid (HSD.out.call hb)
  have qd := HC7.out.q.1
  have fd7 := HC7.out.box.free 0
  clear hn hb hHeld
  obtain ⟨xg7, yg7, eeg7, _, _, g7⟩ := nm_at HC7.out.v.p6 hq
  injection eeg7 with eeg7
  injection eeg7 with eeg7 ffg7 _
  subst eeg7 ffg7
  refine ⟨_, rfl, fun _ => ⟨HC7.out.q.1, by have h := HC7.out.q.2.2.1; rwa [HZ.out] at h, HC7.out.q.2.2.2.2.2.2, g7⟩, ?_⟩
  have hHeld : (fun W : World => W.cell? ⟨b, 0, none⟩ = some (.slice A0 8 c0) ∧ W.cell? ⟨b, 2, none⟩ = some (.int .i64 (z : Int)) ∧ W.cell? ⟨b, 6, none⟩ = some (.slice (some ⟨b6, o6, none⟩) n c6) ∧ W.cell? ⟨b6, o6 + q, none⟩ = some (.int .i64 (s.v q))) w7 := ⟨HC7.out.q.1, by have h := HC7.out.q.2.2.1; rwa [HZ.out] at h, HC7.out.q.2.2.2.2.2.2, g7⟩
  try simp only [Act.put, List.setIfInBounds_toArray, List.set_cons_zero, List.set_cons_succ]
  refine heldZ_take (i := 11) (oi := { dst := some 68, op := Op.fieldAddr 31 (Operand.tmp 2) 0, type := 0, pos := "far.go:88", after := #[{ on := 0, ground := Ground.phase }, { on := 1, ground := Ground.phase }, { on := 2, ground := Ground.phase }, { on := 3, ground := Ground.phase }, { on := 4, ground := Ground.phase }, { on := 5, ground := Ground.phase }, { on := 6, ground := Ground.phase }, { on := 7, ground := Ground.phase }, { on := 8, ground := Ground.phase }, { on := 9, ground := Ground.phase }, { on := 10, ground := Ground.phase }], guard := none }) (v := .pointer (some ⟨b, 0, none⟩)) rfl (by kernel_rfl) (by kernel_rfl) (by kernel_rfl) (by kernel_rfl) (by decide) (fun _ _ _ h => h) (Or.inl ⟨by rfl, fun W hSw => by (try dsimp only at hSw); go_simp⟩) (by assumption) ?_
  try simp only [Act.put, List.setIfInBounds_toArray, List.set_cons_zero, List.set_cons_succ]
  clear hHeld q0 fq0 r0 fr0 q1 fq1 r1 fr1 q2 fq2 r2 fr2 q3 fq3 r3 fr3 q4 fq4 r4 fr4 q5 fq5 r5 fr5 q6 fq6 r6 fr6 g6 g7
  refine heldZ_last rfl (o := { dst := none, op := Op.store 29 (Operand.tmp 68) (Operand.tmp 67), type := 0, pos := "far.go:88", after := #[{ on := 11, ground := Ground.data }, { on := 10, ground := Ground.data }, { on := 10, ground := Ground.chain }, { on := 0, ground := Ground.phase }, { on := 1, ground := Ground.phase }, { on := 2, ground := Ground.phase }, { on := 3, ground := Ground.phase }, { on := 4, ground := Ground.phase }, { on := 5, ground := Ground.phase }, { on := 6, ground := Ground.phase }, { on := 7, ground := Ground.phase }, { on := 8, ground := Ground.phase }, { on := 9, ground := Ground.phase }, { on := 10, ground := Ground.phase }], guard := none }) (by kernel_rfl) rfl (by kernel_rfl) rfl ?_
  intro K hK
  go_simp
  refine hK _ _ ?_
  clear hK
  clear qd fd7
  have hs7 := HC7.out.put0 (nm_stb _ _) HN7.out
  obtain ⟨V2, hV7⟩ : ∃ V, V = w7.setCell ⟨b, 0, none⟩ (.slice E7 8 e7) := ⟨_, rfl⟩
  rw [← hV7] at hs7 ⊢
  have HS2 := Lib.hid hs7
  clear hs7 hV7 HC7 HN7 HSD HSET
  obtain ⟨q0, q1, q2, q3, q4, q5, q6⟩ := HS2.out.q
  have fq0 := HS2.out.box.free 0
  have fq1 := HS2.out.box.free 1
  have fq2 := HS2.out.box.free 2
  have fq3 := HS2.out.box.free 3
  have fq4 := HS2.out.box.free 4
  have fq5 := HS2.out.box.free 5
  have fq6 := HS2.out.box.free 6
  obtain ⟨r0, r1, r2, r3, r4, r5, r6⟩ := HS2.out.r
  have fr0 := HS2.out.res.free 0
  have fr1 := HS2.out.res.free 1
  have fr2 := HS2.out.res.free 2
  have fr3 := HS2.out.res.free 3
  have fr4 := HS2.out.res.free 4
  have fr5 := HS2.out.res.free 5
  have fr6 := HS2.out.res.free 6
  go_upto_region 52 with (go_at_call 19; (with_reducible refine (set_nm 3 HS2.out.hF HS2.out.v.p3 hq (by omega)).mono ?_); rintro e w9 ⟨E9, e9, rfl, hn, hb⟩; have HN9 := Lib.hid hn; have HC9 := Lib.hid (HS2.out.call hb); have qd := HC9.out.q.2.2.2.1; have fd9 := HC9.out.box.free 3; clear hn hb)
  clear g4 g5
  clear q0 fq0 r0 fr0 q1 fq1 r1 fr1 q2 fq2 r2 fr2 q3 fq3 r3 fr3 q4 fq4 r4 fr4 q5 fq5 r5 fr5 q6 fq6 r6 fr6
  clear qd fd9
  have hs9 := HC9.out.put3 (nm_stb _ _) HN9.out
  obtain ⟨V9, hV9⟩ : ∃ V, V = w9.setCell ⟨b, 3, none⟩ (.slice E9 n e9) := ⟨_, rfl⟩
  rw [← hV9] at hs9 ⊢
  have HS9 := Lib.hid hs9
  clear hs9 hV9 HC9 HN9
  obtain ⟨q0, q1, q2, q3, q4, q5, q6⟩ := HS9.out.q
  have fq0 := HS9.out.box.free 0
  have fq1 := HS9.out.box.free 1
  have fq2 := HS9.out.box.free 2
  have fq3 := HS9.out.box.free 3
  have fq4 := HS9.out.box.free 4
  have fq5 := HS9.out.box.free 5
  have fq6 := HS9.out.box.free 6
  obtain ⟨r0, r1, r2, r3, r4, r5, r6⟩ := HS9.out.r
  have fr0 := HS9.out.res.free 0
  have fr1 := HS9.out.res.free 1
  have fr2 := HS9.out.res.free 2
  have fr3 := HS9.out.res.free 3
  have fr4 := HS9.out.res.free 4
  have fr5 := HS9.out.res.free 5
  have fr6 := HS9.out.res.free 6
  go_wp2
  have hrv := HS9.out.told.2.2
  refine bodyPost_ret (v := .tuple _) (results_cell4 rfl _ _ (b + 1) 31 _ (0, 0) _ rfl HS9.out.told.1 Tryd.underlying31 rfl (by kernel_rfl)) rfl (DpT.of ⟨_, _, _, _, _, _, _, rfl, ?rd, HS9.out.told.2.1⟩)
  case rd =>
    refine RD.mk' hrv ?_ rfl rfl ?_ ?_ ?_ ?_
    all_goals first | (intro p _; rfl) | (intro p _; by_cases e : p = q; (subst e; simp only [dvto, rput_same, dput_same] <;> rfl); (simp only [dvto, rput_other e, dput_other e]))
set_option maxHeartbeats 8000000 in
set_option maxRecDepth 100000 in
theorem d11 {F : Nat → Prop} {n : Nat} {s : DV} {v0 v1 v2 v3 v4 v5 v6 : Value} (w : World) (h : RD F w n s v0 v1 v2 v3 v4 v5 v6) (hF : ∀ b, F b → b < w.heap.size) (h4 : n ≤ 4) {q : Nat} (hq : q < n) (ha : s.a q = 11) :
    Calls Tryd.prog 12 #[.agg #[v0, v1, v2, v3, v4, v5, v6], .int .i64 (q : Int)] w fun e w' => DpT F w w' n (dvstp s q) false (0) (0) e := by
  have e1 : v1 = .int .i64 ((s.T : Nat) : Int) := h.p1
  have e2 : v2 = .int .i64 s.B := h.p2
  subst e1 e2
  obtain ⟨A0, c0, rfl⟩ := SL.form h.p0
  obtain ⟨A3, c3, rfl⟩ := SL.form h.p3
  obtain ⟨A4, c4, rfl⟩ := SL.form h.p4
  obtain ⟨A5, c5, rfl⟩ := SL.form h.p5
  obtain ⟨A6, c6, rfl⟩ := SL.form h.p6
  have hst := RS.start h hF
  obtain ⟨b, hb⟩ : ∃ b, b = w.heap.size := ⟨_, rfl⟩
  obtain ⟨W0, hW0⟩ : ∃ W0, W0 = (w.alloc (.cells #[.slice A0 8 c0, .int .i64 ((s.T : Nat) : Int), .int .i64 s.B, .slice A3 n c3, .slice A4 n c4, .slice A5 n c5, .slice A6 n c6] 31)).alloc (.cells #[.slice none 0 0, .int .i64 0, .int .i64 0, .slice none 0 0, .slice none 0 0, .slice none 0 0, .slice none 0 0] 31) := ⟨_, rfl⟩
  rw [← hW0, ← hb] at hst
  have hwn : IntKind.i64.wrap ((n : Int) - 1) = (n : Int) - 1 := IntWalk.i64_in _ (by omega)
  have HS0 := Lib.hid hst
  have HW0 := Lib.hid hW0
  have HBW := Lib.hid hb.symm
  clear hst h hF hb hW0
  rw [(v11 (s := s) ha).1]
  obtain ⟨m, hm⟩ : ∃ m, m = s.t q % 8 := ⟨_, rfl⟩
  have hm8 : m < 8 := by omega
  have hr : (((s.t q : Nat) : Int) : Int).tmod 8 = (m : Int) := by rw [hm]; exact rem_eight _
  have hwm : IntKind.i64.wrap (m : Int) = (m : Int) := IntWalk.i64_in _ (by omega)
  have hmI : (m : Int) < 8 := by omega
  have hm0 : (0 : Int) ≤ (m : Int) := by omega
  rw [← hm]
  have HI1 := Lib.hid (inW_any q 0 ((n : Int) - 1) true (decide_eq_true (by omega)))
  have hqI : (q : Int) < n := by omega
  obtain ⟨b3, o3, rfl, _, _, hct⟩ := nm_at HS0.out.v.p3 hq
  rw [ha] at hct
  obtain ⟨b4, o4, rfl, _, _, _⟩ := nm_at HS0.out.v.p4 hq
  obtain ⟨b5, o5, rfl, _, _, _⟩ := nm_at HS0.out.v.p5 hq
  have hw2 : IntKind.i64.wrap (11 + 1) = 12 := by rfl
  clear ha
  obtain ⟨b0, o0, rfl, _, _, _⟩ := nm_at HS0.out.v.p0 hm8
  clear hm
  go_enter Tryd.func12, Tryd.ntmps12
  go_upto_region 1 with fail
  rw [← HW0.out, HBW.out]
  obtain ⟨q0, q1, q2, q3, q4, q5, q6⟩ := HS0.out.q
  have fq0 := HS0.out.box.free 0
  have fq1 := HS0.out.box.free 1
  have fq2 := HS0.out.box.free 2
  have fq3 := HS0.out.box.free 3
  have fq4 := HS0.out.box.free 4
  have fq5 := HS0.out.box.free 5
  have fq6 := HS0.out.box.free 6
  obtain ⟨r0, r1, r2, r3, r4, r5, r6⟩ := HS0.out.r
  have fr0 := HS0.out.res.free 0
  have fr1 := HS0.out.res.free 1
  have fr2 := HS0.out.res.free 2
  have fr3 := HS0.out.res.free 3
  have fr4 := HS0.out.res.free 4
  have fr5 := HS0.out.res.free 5
  have fr6 := HS0.out.res.free 6
  go_upto_region 7 with (first | (go_at_call 22; (with_reducible refine (HI1.out _).mono ?_); rintro e w' ⟨rfl, rfl⟩) | (go_at_call 19; (with_reducible refine (set_nm 0 HS0.out.hF HS0.out.v.p3 hq (by omega)).mono ?_); rintro e w1 ⟨E1, e1, rfl, hn, hb⟩; have HN1 := Lib.hid hn; have HC1 := Lib.hid (HS0.out.call hb); have qd := HC1.out.q.2.2.2.1; have fd1 := HC1.out.box.free 3; clear hn hb))
  clear hct
  clear q0 fq0 r0 fr0 q1 fq1 r1 fr1 q2 fq2 r2 fr2 q3 fq3 r3 fr3 q4 fq4 r4 fr4 q5 fq5 r5 fr5 q6 fq6 r6 fr6
  clear qd fd1
  have hs1 := HC1.out.put3 (nm_stb _ _) HN1.out
  obtain ⟨V1, hV1⟩ : ∃ V, V = w1.setCell ⟨b, 3, none⟩ (.slice E1 n e1) := ⟨_, rfl⟩
  rw [← hV1] at hs1 ⊢
  have HS1 := Lib.hid hs1
  clear hs1 hV1 HC1 HN1
  obtain ⟨q0, q1, q2, q3, q4, q5, q6⟩ := HS1.out.q
  have fq0 := HS1.out.box.free 0
  have fq1 := HS1.out.box.free 1
  have fq2 := HS1.out.box.free 2
  have fq3 := HS1.out.box.free 3
  have fq4 := HS1.out.box.free 4
  have fq5 := HS1.out.box.free 5
  have fq6 := HS1.out.box.free 6
  obtain ⟨r0, r1, r2, r3, r4, r5, r6⟩ := HS1.out.r
  have fr0 := HS1.out.res.free 0
  have fr1 := HS1.out.res.free 1
  have fr2 := HS1.out.res.free 2
  have fr3 := HS1.out.res.free 3
  have fr4 := HS1.out.res.free 4
  have fr5 := HS1.out.res.free 5
  have fr6 := HS1.out.res.free 6
  obtain ⟨xg4, yg4, eeg4, _, _, g4⟩ := nm_at HS1.out.v.p4 hq
  injection eeg4 with eeg4
  injection eeg4 with eeg4 ffg4 _
  subst eeg4 ffg4
  obtain ⟨xg5, yg5, eeg5, _, _, g5⟩ := nm_at HS1.out.v.p5 hq
  injection eeg5 with eeg5
  injection eeg5 with eeg5 ffg5 _
  subst eeg5 ffg5
  obtain ⟨xg0, yg0, eeg0, _, _, g0⟩ := nm_at HS1.out.v.p0 hm8
  injection eeg0 with eeg0
  injection eeg0 with eeg0 ffg0 _
  subst eeg0 ffg0
  go_upto_region 45 with fail
  have HSD := Lib.hid (HS1.out.call (Below.refl V1.heap.size V1).drew)
  have HSET := Lib.hid (set_nm (s.pl m) (fun z hz => HSD.out.hF z hz) HSD.out.v.p6 hq (by omega))
  refine heldZ_begin (S := (fun W : World => W.cell? ⟨b, 6, none⟩ = some (.slice A6 n c6) ∧ W.cell? ⟨b, 0, none⟩ = some (.slice (some ⟨b0, o0, none⟩) 8 c0) ∧ W.cell? ⟨b0, o0 + m, none⟩ = some (.int .i64 (s.pl m)))) 11 (by kernel_rfl) ?_ (fun hHeld => ?_)
  · exact ⟨HSD.out.q.2.2.2.2.2.2, HSD.out.q.1, g0⟩
  refine heldZ_take (i := 0) (oi := { dst := some 172, op := Op.fieldAddr 31 (Operand.tmp 2) 6, type := 0, pos := "far.go:122", after := #[], guard := none }) (v := .pointer (some ⟨b, 6, none⟩)) rfl (by kernel_rfl) (by kernel_rfl) (by kernel_rfl) (by kernel_rfl) (by decide) (fun _ _ _ h => h) (Or.inl ⟨by rfl, fun W hSw => by (try dsimp only at hSw); go_simp⟩) (by assumption) ?_
  try simp only [Act.put, List.setIfInBounds_toArray, List.set_cons_zero, List.set_cons_succ]
  refine heldZ_take (i := 1) (oi := { dst := some 173, op := Op.load 29 (Operand.tmp 172), type := 29, pos := "far.go:122", after := #[{ on := 0, ground := Ground.data }], guard := none }) (v := .slice A6 n c6) rfl (by kernel_rfl) (by kernel_rfl) (by kernel_rfl) (by kernel_rfl) (by decide) (fun _ _ _ h => h) (Or.inl ⟨by rfl, fun W hSw => by (try dsimp only at hSw); go_simp⟩) (by assumption) ?_
  try simp only [Act.put, List.setIfInBounds_toArray, List.set_cons_zero, List.set_cons_succ]
  refine heldZ_take (i := 2) (oi := { dst := some 174, op := Op.move (Operand.tmp 1), type := 3, pos := "far.go:122", after := #[], guard := none }) (v := .int .i64 (q : Int)) rfl (by kernel_rfl) (by kernel_rfl) (by kernel_rfl) (by kernel_rfl) (by decide) (fun _ _ _ h => h) (Or.inl ⟨by rfl, fun W hSw => by (try dsimp only at hSw); go_simp⟩) (by assumption) ?_
  try simp only [Act.put, List.setIfInBounds_toArray, List.set_cons_zero, List.set_cons_succ]
  refine heldZ_take (i := 3) (oi := { dst := some 175, op := Op.fieldAddr 31 (Operand.tmp 2) 0, type := 0, pos := "far.go:122", after := #[], guard := none }) (v := .pointer (some ⟨b, 0, none⟩)) rfl (by kernel_rfl) (by kernel_rfl) (by kernel_rfl) (by kernel_rfl) (by decide) (fun _ _ _ h => h) (Or.inl ⟨by rfl, fun W hSw => by (try dsimp only at hSw); go_simp⟩) (by assumption) ?_
  try simp only [Act.put, List.setIfInBounds_toArray, List.set_cons_zero, List.set_cons_succ]
  refine heldZ_take (i := 4) (oi := { dst := some 176, op := Op.load 29 (Operand.tmp 175), type := 29, pos := "far.go:122", after := #[{ on := 3, ground := Ground.data }], guard := none }) (v := .slice (some ⟨b0, o0, none⟩) 8 c0) rfl (by kernel_rfl) (by kernel_rfl) (by kernel_rfl) (by kernel_rfl) (by decide) (fun _ _ _ h => h) (Or.inl ⟨by rfl, fun W hSw => by (try dsimp only at hSw); go_simp⟩) (by assumption) ?_
  try simp only [Act.put, List.setIfInBounds_toArray, List.set_cons_zero, List.set_cons_succ]
  refine heldZ_take (i := 5) (oi := { dst := some 177, op := Op.move (Operand.tmp 9), type := 3, pos := "far.go:122", after := #[], guard := none }) (v := .int .i64 ((s.t q : Nat) : Int)) rfl (by kernel_rfl) (by kernel_rfl) (by kernel_rfl) (by kernel_rfl) (by decide) (fun _ _ _ h => h) (Or.inl ⟨by rfl, fun W hSw => by (try dsimp only at hSw); go_simp⟩) (by assumption) ?_
  try simp only [Act.put, List.setIfInBounds_toArray, List.set_cons_zero, List.set_cons_succ]
  refine heldZ_take (i := 6) (oi := { dst := some 178, op := Op.binOp BinOp.rem 3 (Operand.tmp 177) (Operand.const (Value.int IntKind.i64 8)) 3, type := 3, pos := "far.go:122", after := #[{ on := 5, ground := Ground.data }], guard := none }) (v := .int .i64 (m : Int)) rfl (by kernel_rfl) (by kernel_rfl) (by kernel_rfl) (by kernel_rfl) (by decide) (fun _ _ _ h => h) (Or.inl ⟨by rfl, fun W hSw => by (try dsimp only at hSw); go_simp⟩) (by assumption) ?_
  try simp only [Act.put, List.setIfInBounds_toArray, List.set_cons_zero, List.set_cons_succ]
  refine heldZ_take (i := 7) (oi := { dst := some 179, op := Op.indexAddr 29 (Operand.tmp 176) (Operand.tmp 178), type := 0, pos := "far.go:122", after := #[{ on := 4, ground := Ground.data }, { on := 6, ground := Ground.data }], guard := none }) (v := .pointer (some ⟨b0, o0 + m, none⟩)) rfl (by kernel_rfl) (by kernel_rfl) (by kernel_rfl) (by kernel_rfl) (by decide) (fun _ _ _ h => h) (Or.inl ⟨by rfl, fun W hSw => by (try dsimp only at hSw); go_simp⟩) (by assumption) ?_
  try simp only [Act.put, List.setIfInBounds_toArray, List.set_cons_zero, List.set_cons_succ]
  refine heldZ_take (i := 8) (oi := { dst := some 180, op := Op.load 3 (Operand.tmp 179), type := 3, pos := "far.go:122", after := #[{ on := 7, ground := Ground.data }], guard := none }) (v := .int .i64 (s.pl m)) rfl (by kernel_rfl) (by kernel_rfl) (by kernel_rfl) (by kernel_rfl) (by decide) (fun _ _ _ h => h) (Or.inl ⟨by rfl, fun W hSw => by (try dsimp only at hSw); go_simp⟩) (by assumption) ?_
  try simp only [Act.put, List.setIfInBounds_toArray, List.set_cons_zero, List.set_cons_succ]
  refine heldZ_call 9 (o := { dst := some 181, op := Op.call { callee := Callee.value (Operand.func 19), args := #[Operand.tmp 173, Operand.tmp 174, Operand.tmp 180], argTypes := #[29, 3, 3] }, type := 29, pos := "far.go:122", after := #[{ on := 1, ground := Ground.data }, { on := 2, ground := Ground.data }, { on := 8, ground := Ground.data }], guard := none }) ?hr1 ?ho1 ?hw1 19 #[.slice A6 n c6, .int .i64 (q : Int), .int .i64 (s.pl m)] ?hx1 _ HSET.out ?h1
  case hr1 => kernel_rfl
  case ho1 => rfl
  case hw1 => rfl
  case hx1 => (go_simp; try rfl)
  case h1 =>
  rintro e w7 ⟨E7, e7, rfl, hn, hb⟩
  have HN7 := Lib.hid hn
  have HC7 := Lib.hid (HSD.out.call hb)
  have qd := HC7.out.q.2.2.2.2.2.2
  have fd7 := HC7.out.box.free 6
  clear hn hb hHeld
  obtain ⟨xg7, yg7, eeg7, _, _, g7⟩ := nm_at HC7.out.v.p0 hm8
  injection eeg7 with eeg7
  injection eeg7 with eeg7 ffg7 _
  subst eeg7 ffg7
  refine ⟨_, rfl, fun _ => ⟨HC7.out.q.2.2.2.2.2.2, HC7.out.q.1, g7⟩, ?_⟩
  have hHeld : (fun W : World => W.cell? ⟨b, 6, none⟩ = some (.slice A6 n c6) ∧ W.cell? ⟨b, 0, none⟩ = some (.slice (some ⟨b0, o0, none⟩) 8 c0) ∧ W.cell? ⟨b0, o0 + m, none⟩ = some (.int .i64 (s.pl m))) w7 := ⟨HC7.out.q.2.2.2.2.2.2, HC7.out.q.1, g7⟩
  try simp only [Act.put, List.setIfInBounds_toArray, List.set_cons_zero, List.set_cons_succ]
  refine heldZ_take (i := 10) (oi := { dst := some 182, op := Op.fieldAddr 31 (Operand.tmp 2) 6, type := 0, pos := "far.go:122", after := #[{ on := 0, ground := Ground.phase }, { on := 1, ground := Ground.phase }, { on := 2, ground := Ground.phase }, { on := 3, ground := Ground.phase }, { on := 4, ground := Ground.phase }, { on := 5, ground := Ground.phase }, { on := 6, ground := Ground.phase }, { on := 7, ground := Ground.phase }, { on := 8, ground := Ground.phase }, { on := 9, ground := Ground.phase }], guard := none }) (v := .pointer (some ⟨b, 6, none⟩)) rfl (by kernel_rfl) (by kernel_rfl) (by kernel_rfl) (by kernel_rfl) (by decide) (fun _ _ _ h => h) (Or.inl ⟨by rfl, fun W hSw => by (try dsimp only at hSw); go_simp⟩) (by assumption) ?_
  try simp only [Act.put, List.setIfInBounds_toArray, List.set_cons_zero, List.set_cons_succ]
  clear hHeld q0 fq0 r0 fr0 q1 fq1 r1 fr1 q2 fq2 r2 fr2 q3 fq3 r3 fr3 q4 fq4 r4 fr4 q5 fq5 r5 fr5 q6 fq6 r6 fr6 g0 g7
  refine heldZ_last rfl (o := { dst := none, op := Op.store 29 (Operand.tmp 182) (Operand.tmp 181), type := 0, pos := "far.go:122", after := #[{ on := 10, ground := Ground.data }, { on := 9, ground := Ground.data }, { on := 9, ground := Ground.chain }, { on := 0, ground := Ground.phase }, { on := 1, ground := Ground.phase }, { on := 2, ground := Ground.phase }, { on := 3, ground := Ground.phase }, { on := 4, ground := Ground.phase }, { on := 5, ground := Ground.phase }, { on := 6, ground := Ground.phase }, { on := 7, ground := Ground.phase }, { on := 8, ground := Ground.phase }, { on := 9, ground := Ground.phase }], guard := none }) (by kernel_rfl) rfl (by kernel_rfl) rfl ?_
  intro K hK
  go_simp
  refine hK _ _ ?_
  clear hK
  clear qd fd7
  have hs7 := HC7.out.put6 (nm_stb _ _) HN7.out
  obtain ⟨V2, hV7⟩ : ∃ V, V = w7.setCell ⟨b, 6, none⟩ (.slice E7 n e7) := ⟨_, rfl⟩
  rw [← hV7] at hs7 ⊢
  have HS2 := Lib.hid hs7
  clear hs7 hV7 HC7 HN7 HSD HSET
  obtain ⟨q0, q1, q2, q3, q4, q5, q6⟩ := HS2.out.q
  have fq0 := HS2.out.box.free 0
  have fq1 := HS2.out.box.free 1
  have fq2 := HS2.out.box.free 2
  have fq3 := HS2.out.box.free 3
  have fq4 := HS2.out.box.free 4
  have fq5 := HS2.out.box.free 5
  have fq6 := HS2.out.box.free 6
  obtain ⟨r0, r1, r2, r3, r4, r5, r6⟩ := HS2.out.r
  have fr0 := HS2.out.res.free 0
  have fr1 := HS2.out.res.free 1
  have fr2 := HS2.out.res.free 2
  have fr3 := HS2.out.res.free 3
  have fr4 := HS2.out.res.free 4
  have fr5 := HS2.out.res.free 5
  have fr6 := HS2.out.res.free 6
  go_upto_region 52 with (go_at_call 19; (with_reducible refine (set_nm 12 HS2.out.hF HS2.out.v.p3 hq (by omega)).mono ?_); rintro e w9 ⟨E9, e9, rfl, hn, hb⟩; have HN9 := Lib.hid hn; have HC9 := Lib.hid (HS2.out.call hb); have qd := HC9.out.q.2.2.2.1; have fd9 := HC9.out.box.free 3; clear hn hb)
  clear g4 g5
  clear q0 fq0 r0 fr0 q1 fq1 r1 fr1 q2 fq2 r2 fr2 q3 fq3 r3 fr3 q4 fq4 r4 fr4 q5 fq5 r5 fr5 q6 fq6 r6 fr6
  clear qd fd9
  have hs9 := HC9.out.put3 (nm_stb _ _) HN9.out
  obtain ⟨V9, hV9⟩ : ∃ V, V = w9.setCell ⟨b, 3, none⟩ (.slice E9 n e9) := ⟨_, rfl⟩
  rw [← hV9] at hs9 ⊢
  have HS9 := Lib.hid hs9
  clear hs9 hV9 HC9 HN9
  obtain ⟨q0, q1, q2, q3, q4, q5, q6⟩ := HS9.out.q
  have fq0 := HS9.out.box.free 0
  have fq1 := HS9.out.box.free 1
  have fq2 := HS9.out.box.free 2
  have fq3 := HS9.out.box.free 3
  have fq4 := HS9.out.box.free 4
  have fq5 := HS9.out.box.free 5
  have fq6 := HS9.out.box.free 6
  obtain ⟨r0, r1, r2, r3, r4, r5, r6⟩ := HS9.out.r
  have fr0 := HS9.out.res.free 0
  have fr1 := HS9.out.res.free 1
  have fr2 := HS9.out.res.free 2
  have fr3 := HS9.out.res.free 3
  have fr4 := HS9.out.res.free 4
  have fr5 := HS9.out.res.free 5
  have fr6 := HS9.out.res.free 6
  go_wp2
  have hrv := HS9.out.told.2.2
  refine bodyPost_ret (v := .tuple _) (results_cell4 rfl _ _ (b + 1) 31 _ (0, 0) _ rfl HS9.out.told.1 Tryd.underlying31 rfl (by kernel_rfl)) rfl (DpT.of ⟨_, _, _, _, _, _, _, rfl, ?rd, HS9.out.told.2.1⟩)
  case rd =>
    refine RD.mk' hrv ?_ rfl rfl ?_ ?_ ?_ ?_
    all_goals first | (intro p _; rfl) | (intro p _; by_cases e : p = q; (subst e; simp only [dvto, rput_same, dput_same] <;> rfl); (simp only [dvto, rput_other e, dput_other e]))
end Go.Proofs.YtbicckeoidijpaaDoor.Dq
