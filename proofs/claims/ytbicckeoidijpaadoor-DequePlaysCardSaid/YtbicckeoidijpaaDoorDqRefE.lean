/-
  The reference of package deque: StepDeque: d8, d12y.
-/
import Derived.Test.YtbicckeoidijpaaDoorDqRef
namespace Go.Proofs.YtbicckeoidijpaaDoor.Dq
open Go.RowKit Rf

set_option maxHeartbeats 8000000 in
set_option maxRecDepth 100000 in
theorem d8 {F : Nat → Prop} {n : Nat} {s : DV} {v0 v1 v2 v3 v4 v5 v6 : Value} (w : World) (h : RD F w n s v0 v1 v2 v3 v4 v5 v6) (hF : ∀ b, F b → b < w.heap.size) (h4 : n ≤ 4) {q : Nat} (hq : q < n) (ha : s.a q = 8) (ht : s.t q ≤ 1000000) :
    Calls Tryd.prog 12 #[.agg #[v0, v1, v2, v3, v4, v5, v6], .int .i64 (q : Int)] w fun e w' => DpT F w w' n (dvstp s q) true (s.v q) (0) e := by
  have e1 : v1 = .int .i64 ((s.T : Nat) : Int) := h.p1
  have e2 : v2 = .int .i64 s.B := h.p2
  subst e1 e2
  obtain ⟨A0, c0, rfl⟩ := SL.form h.p0
  obtain ⟨A3, c3, rfl⟩ := SL.form h.p3
  obtain ⟨A4, c4, rfl⟩ := SL.form h.p4
  obtain ⟨A5, c5, rfl⟩ := SL.form h.p5
  obtain ⟨A6, c6, rfl⟩ := SL.form h.p6
  have hst := RS.start h hF
  obtain ⟨b, hb⟩ : ∃ b, b = w.heap.size := ⟨_, rfl⟩
  obtain ⟨W0, hW0⟩ : ∃ W0, W0 = (w.alloc (.cells #[.slice A0 8 c0, .int .i64 ((s.T : Nat) : Int), .int .i64 s.B, .slice A3 n c3, .slice A4 n c4, .slice A5 n c5, .slice A6 n c6] 31)).alloc (.cells #[.slice none 0 0, .int .i64 0, .int .i64 0, .slice none 0 0, .slice none 0 0, .slice none 0 0, .slice none 0 0] 31) := ⟨_, rfl⟩
  rw [← hW0, ← hb] at hst
  have hwn : IntKind.i64.wrap ((n : Int) - 1) = (n : Int) - 1 := IntWalk.i64_in _ (by omega)
  have HS0 := Lib.hid hst
  have HW0 := Lib.hid hW0
  have HBW := Lib.hid hb.symm
  clear hst h hF hb hW0
  rw [(v8 (s := s) ha).1]
  obtain ⟨z, hz⟩ : ∃ z, z = ((s.t q : Nat) : Int) + 1 := ⟨_, rfl⟩
  have hw : IntKind.i64.wrap (((s.t q : Nat) : Int) + 1) = z := by rw [hz]; exact IntWalk.i64_in _ (by omega)
  rw [← hz]
  have HI1 := Lib.hid (inW_any q 0 ((n : Int) - 1) true (decide_eq_true (by omega)))
  have hqI : (q : Int) < n := by omega
  obtain ⟨b3, o3, rfl, _, _, hct⟩ := nm_at HS0.out.v.p3 hq
  rw [ha] at hct
  obtain ⟨b4, o4, rfl, _, _, _⟩ := nm_at HS0.out.v.p4 hq
  obtain ⟨b5, o5, rfl, _, _, _⟩ := nm_at HS0.out.v.p5 hq
  have hw2 : IntKind.i64.wrap (8 + 1) = 9 := by rfl
  clear ha
  obtain ⟨b6, o6, rfl, _, _, _⟩ := nm_at HS0.out.v.p6 hq
  clear ht hz
  go_enter Tryd.func12, Tryd.ntmps12
  go_upto_region 1 with fail
  rw [← HW0.out, HBW.out]
  obtain ⟨q0, q1, q2, q3, q4, q5, q6⟩ := HS0.out.q
  have fq0 := HS0.out.box.free 0
  have fq1 := HS0.out.box.free 1
  have fq2 := HS0.out.box.free 2
  have fq3 := HS0.out.box.free 3
  have fq4 := HS0.out.box.free 4
  have fq5 := HS0.out.box.free 5
  have fq6 := HS0.out.box.free 6
  obtain ⟨r0, r1, r2, r3, r4, r5, r6⟩ := HS0.out.r
  have fr0 := HS0.out.res.free 0
  have fr1 := HS0.out.res.free 1
  have fr2 := HS0.out.res.free 2
  have fr3 := HS0.out.res.free 3
  have fr4 := HS0.out.res.free 4
  have fr5 := HS0.out.res.free 5
  have fr6 := HS0.out.res.free 6
  go_upto_region 7 with (first | (go_at_call 22; (with_reducible refine (HI1.out _).mono ?_); rintro e w' ⟨rfl, rfl⟩) | (go_at_call 19; (with_reducible refine (set_nm 0 HS0.out.hF HS0.out.v.p3 hq (by omega)).mono ?_); rintro e w1 ⟨E1, e1, rfl, hn, hb⟩; have HN1 := Lib.hid hn; have HC1 := Lib.hid (HS0.out.call hb); have qd := HC1.out.q.2.2.2.1; have fd1 := HC1.out.box.free 3; clear hn hb))
  clear hct
  clear q0 fq0 r0 fr0 q1 fq1 r1 fr1 q2 fq2 r2 fr2 q3 fq3 r3 fr3 q4 fq4 r4 fr4 q5 fq5 r5 fr5 q6 fq6 r6 fr6
  clear qd fd1
  have hs1 := HC1.out.put3 (nm_stb _ _) HN1.out
  obtain ⟨V1, hV1⟩ : ∃ V, V = w1.setCell ⟨b, 3, none⟩ (.slice E1 n e1) := ⟨_, rfl⟩
  rw [← hV1] at hs1 ⊢
  have HS1 := Lib.hid hs1
  clear hs1 hV1 HC1 HN1
  obtain ⟨q0, q1, q2, q3, q4, q5, q6⟩ := HS1.out.q
  have fq0 := HS1.out.box.free 0
  have fq1 := HS1.out.box.free 1
  have fq2 := HS1.out.box.free 2
  have fq3 := HS1.out.box.free 3
  have fq4 := HS1.out.box.free 4
  have fq5 := HS1.out.box.free 5
  have fq6 := HS1.out.box.free 6
  obtain ⟨r0, r1, r2, r3, r4, r5, r6⟩ := HS1.out.r
  have fr0 := HS1.out.res.free 0
  have fr1 := HS1.out.res.free 1
  have fr2 := HS1.out.res.free 2
  have fr3 := HS1.out.res.free 3
  have fr4 := HS1.out.res.free 4
  have fr5 := HS1.out.res.free 5
  have fr6 := HS1.out.res.free 6
  obtain ⟨xg4, yg4, eeg4, _, _, g4⟩ := nm_at HS1.out.v.p4 hq
  injection eeg4 with eeg4
  injection eeg4 with eeg4 ffg4 _
  subst eeg4 ffg4
  obtain ⟨xg5, yg5, eeg5, _, _, g5⟩ := nm_at HS1.out.v.p5 hq
  injection eeg5 with eeg5
  injection eeg5 with eeg5 ffg5 _
  subst eeg5 ffg5
  go_upto_region 38 with fail
  clear g4 g5
  clear q0 fq0 r0 fr0 q1 fq1 r1 fr1 q2 fq2 r2 fr2 q3 fq3 r3 fr3 q4 fq4 r4 fr4 q5 fq5 r5 fr5 q6 fq6 r6 fr6
  have hpV2 := HS1.out.put2 (isInt_stb _) (u := .int .i64 z) (Q := isInt z) rfl
  obtain ⟨V2, hVV2⟩ : ∃ V, V = V1.setCell ⟨b, 2, none⟩ (.int .i64 z) := ⟨_, rfl⟩
  rw [← hVV2] at hpV2 ⊢
  have HS2 := Lib.hid hpV2
  clear hpV2 hVV2
  obtain ⟨q0, q1, q2, q3, q4, q5, q6⟩ := HS2.out.q
  have fq0 := HS2.out.box.free 0
  have fq1 := HS2.out.box.free 1
  have fq2 := HS2.out.box.free 2
  have fq3 := HS2.out.box.free 3
  have fq4 := HS2.out.box.free 4
  have fq5 := HS2.out.box.free 5
  have fq6 := HS2.out.box.free 6
  obtain ⟨r0, r1, r2, r3, r4, r5, r6⟩ := HS2.out.r
  have fr0 := HS2.out.res.free 0
  have fr1 := HS2.out.res.free 1
  have fr2 := HS2.out.res.free 2
  have fr3 := HS2.out.res.free 3
  have fr4 := HS2.out.res.free 4
  have fr5 := HS2.out.res.free 5
  have fr6 := HS2.out.res.free 6
  have HS3 := Lib.hid (HS2.out.call (Below.refl V2.heap.size V2).drew)
  have HTD := Lib.hid (told_drew HS2.out.told)
  obtain ⟨xgA, ygA, eegA, _, _, gA⟩ := nm_at HS3.out.v.p6 hq
  injection eegA with eegA
  injection eegA with eegA ffgA _
  subst eegA ffgA
  obtain ⟨xgB, ygB, eegB, _, _, gB⟩ := nm_at HTD.out.2.2.p6 hq
  injection eegB with eegB
  injection eegB with eegB ffgB _
  subst eegB ffgB
  have HSS : Hid ((fun W : World => W.cell? ⟨b, 0, none⟩ = some (.slice A0 8 c0) ∧ W.cell? ⟨b, 1, none⟩ = some (.int .i64 ((s.T : Nat) : Int)) ∧ W.cell? ⟨b, 2, none⟩ = some (.int .i64 z) ∧ W.cell? ⟨b, 3, none⟩ = some (.slice E1 n e1) ∧ W.cell? ⟨b, 4, none⟩ = some (.slice (some ⟨b4, o4, none⟩) n c4) ∧ W.cell? ⟨b, 5, none⟩ = some (.slice (some ⟨b5, o5, none⟩) n c5) ∧ W.cell? ⟨b, 6, none⟩ = some (.slice (some ⟨b6, o6, none⟩) n c6) ∧ W.cell? ⟨b6, o6 + q, none⟩ = some (.int .i64 (s.v q))) V2.drew) := Lib.hid ⟨HS3.out.q.1, HS3.out.q.2.1, HS3.out.q.2.2.1, HS3.out.q.2.2.2.1, HS3.out.q.2.2.2.2.1, HS3.out.q.2.2.2.2.2.1, HS3.out.q.2.2.2.2.2.2, gA⟩
  have HST : Hid ((fun W : World => W.cell? ⟨b, 0, none⟩ = some (.slice A0 8 c0) ∧ W.cell? ⟨b, 1, none⟩ = some (.int .i64 ((s.T : Nat) : Int)) ∧ W.cell? ⟨b, 2, none⟩ = some (.int .i64 z) ∧ W.cell? ⟨b, 3, none⟩ = some (.slice E1 n e1) ∧ W.cell? ⟨b, 4, none⟩ = some (.slice (some ⟨b4, o4, none⟩) n c4) ∧ W.cell? ⟨b, 5, none⟩ = some (.slice (some ⟨b5, o5, none⟩) n c5) ∧ W.cell? ⟨b, 6, none⟩ = some (.slice (some ⟨b6, o6, none⟩) n c6) ∧ W.cell? ⟨b6, o6 + q, none⟩ = some (.int .i64 (s.v q))) (((((((V2.setCell ⟨b + 1, 0, none⟩ (.slice A0 8 c0)).setCell ⟨b + 1, 1, none⟩ (.int .i64 ((s.T : Nat) : Int))).setCell ⟨b + 1, 2, none⟩ (.int .i64 z)).setCell ⟨b + 1, 3, none⟩ (.slice E1 n e1)).setCell ⟨b + 1, 4, none⟩ (.slice (some ⟨b4, o4, none⟩) n c4)).setCell ⟨b + 1, 5, none⟩ (.slice (some ⟨b5, o5, none⟩) n c5)).setCell ⟨b + 1, 6, none⟩ (.slice (some ⟨b6, o6, none⟩) n c6)).drew) := Lib.hid (have hf := far7 HS2.out.q; ⟨hf.1, hf.2.1, hf.2.2.1, hf.2.2.2.1, hf.2.2.2.2.1, hf.2.2.2.2.2.1, hf.2.2.2.2.2.2, gB⟩)
  clear gA gB
  refine wp_region_held_drew (S := (fun W : World => W.cell? ⟨b, 0, none⟩ = some (.slice A0 8 c0) ∧ W.cell? ⟨b, 1, none⟩ = some (.int .i64 ((s.T : Nat) : Int)) ∧ W.cell? ⟨b, 2, none⟩ = some (.int .i64 z) ∧ W.cell? ⟨b, 3, none⟩ = some (.slice E1 n e1) ∧ W.cell? ⟨b, 4, none⟩ = some (.slice (some ⟨b4, o4, none⟩) n c4) ∧ W.cell? ⟨b, 5, none⟩ = some (.slice (some ⟨b5, o5, none⟩) n c5) ∧ W.cell? ⟨b, 6, none⟩ = some (.slice (some ⟨b6, o6, none⟩) n c6) ∧ W.cell? ⟨b6, o6 + q, none⟩ = some (.int .i64 (s.v q)))) (by kernel_rfl) ?_ (fun hHeld => ?_)
  · exact HSS.out
  refine wpAnyH_take (i := 0) (oi := { dst := some 148, op := Op.load 31 (Operand.tmp 2), type := 31, pos := "far.go:114", after := #[], guard := none }) (v := .agg #[.slice A0 8 c0, .int .i64 ((s.T : Nat) : Int), .int .i64 z, .slice E1 n e1, .slice (some ⟨b4, o4, none⟩) n c4, .slice (some ⟨b5, o5, none⟩) n c5, .slice (some ⟨b6, o6, none⟩) n c6]) rfl (by kernel_rfl) (by kernel_rfl) (by kernel_rfl) (fun _ _ _ h => h) (Or.inl ⟨by rfl, fun W hSw => by (try dsimp only at hSw); go_simp⟩) (by assumption) ?_
  try simp only [Act.put, List.setIfInBounds_toArray, List.set_cons_zero, List.set_cons_succ]
  refine wpAnyH_take (i := 1) (oi := { dst := some 149, op := Op.fieldAddr 31 (Operand.tmp 2) 6, type := 0, pos := "far.go:114", after := #[{ on := 7, ground := Ground.gcOnly Departure.lateStores }], guard := none }) (v := .pointer (some ⟨b, 6, none⟩)) rfl (by kernel_rfl) (by kernel_rfl) (by kernel_rfl) (fun _ _ _ h => h) (Or.inl ⟨by rfl, fun W hSw => by (try dsimp only at hSw); go_simp⟩) (by assumption) ?_
  try simp only [Act.put, List.setIfInBounds_toArray, List.set_cons_zero, List.set_cons_succ]
  refine wpAnyH_take (i := 2) (oi := { dst := some 150, op := Op.load 29 (Operand.tmp 149), type := 29, pos := "far.go:114", after := #[{ on := 1, ground := Ground.data }, { on := 7, ground := Ground.gcOnly Departure.lateStores }], guard := none }) (v := .slice (some ⟨b6, o6, none⟩) n c6) rfl (by kernel_rfl) (by kernel_rfl) (by kernel_rfl) (fun _ _ _ h => h) (Or.inl ⟨by rfl, fun W hSw => by (try dsimp only at hSw); go_simp⟩) (by assumption) ?_
  try simp only [Act.put, List.setIfInBounds_toArray, List.set_cons_zero, List.set_cons_succ]
  refine wpAnyH_take (i := 3) (oi := { dst := some 151, op := Op.move (Operand.tmp 1), type := 3, pos := "far.go:114", after := #[{ on := 7, ground := Ground.gcOnly Departure.lateStores }], guard := none }) (v := .int .i64 (q : Int)) rfl (by kernel_rfl) (by kernel_rfl) (by kernel_rfl) (fun _ _ _ h => h) (Or.inl ⟨by rfl, fun W hSw => by (try dsimp only at hSw); go_simp⟩) (by assumption) ?_
  try simp only [Act.put, List.setIfInBounds_toArray, List.set_cons_zero, List.set_cons_succ]
  refine wpAnyH_take (i := 4) (oi := { dst := some 152, op := Op.indexAddr 29 (Operand.tmp 150) (Operand.tmp 151), type := 0, pos := "far.go:114", after := #[{ on := 2, ground := Ground.data }, { on := 3, ground := Ground.data }, { on := 7, ground := Ground.gcOnly Departure.lateStores }], guard := none }) (v := .pointer (some ⟨b6, o6 + q, none⟩)) rfl (by kernel_rfl) (by kernel_rfl) (by kernel_rfl) (fun _ _ _ h => h) (Or.inl ⟨by rfl, fun W hSw => by (try dsimp only at hSw); go_simp⟩) (by assumption) ?_
  try simp only [Act.put, List.setIfInBounds_toArray, List.set_cons_zero, List.set_cons_succ]
  refine wpAnyH_take (i := 5) (oi := { dst := some 153, op := Op.load 3 (Operand.tmp 152), type := 3, pos := "far.go:114", after := #[{ on := 4, ground := Ground.data }, { on := 7, ground := Ground.gcOnly Departure.lateStores }], guard := none }) (v := .int .i64 (s.v q)) rfl (by kernel_rfl) (by kernel_rfl) (by kernel_rfl) (fun _ _ _ h => h) (Or.inl ⟨by rfl, fun W hSw => by (try dsimp only at hSw); go_simp⟩) (by assumption) ?_
  try simp only [Act.put, List.setIfInBounds_toArray, List.set_cons_zero, List.set_cons_succ]
  refine held_any 6 (o := { dst := none, op := Op.store 31 (Operand.tmp 4) (Operand.tmp 148), type := 0, pos := "far.go:114", after := #[{ on := 0, ground := Ground.data }, { on := 0, ground := Ground.phase }, { on := 1, ground := Ground.textOnly Departure.lateStores }, { on := 2, ground := Ground.textOnly Departure.lateStores }, { on := 3, ground := Ground.textOnly Departure.lateStores }, { on := 4, ground := Ground.textOnly Departure.lateStores }, { on := 5, ground := Ground.textOnly Departure.lateStores }], guard := none }) ?hr_2 ?ho_2 ?hw_2 undef (((((((V2.setCell ⟨b + 1, 0, none⟩ (.slice A0 8 c0)).setCell ⟨b + 1, 1, none⟩ (.int .i64 ((s.T : Nat) : Int))).setCell ⟨b + 1, 2, none⟩ (.int .i64 z)).setCell ⟨b + 1, 3, none⟩ (.slice E1 n e1)).setCell ⟨b + 1, 4, none⟩ (.slice (some ⟨b4, o4, none⟩) n c4)).setCell ⟨b + 1, 5, none⟩ (.slice (some ⟨b5, o5, none⟩) n c5)).setCell ⟨b + 1, 6, none⟩ (.slice (some ⟨b6, o6, none⟩) n c6)).drew ?hy_2 ?hS_2 ?h_2
  case hr_2 => kernel_rfl
  case ho_2 => rfl
  case hw_2 => rfl
  case hy_2 => (intro K hK; go_simp; exact hK)
  case hS_2 => exact HST.out
  clear hHeld
  have hHeld := HST.out
  try simp only [Act.put]
  refine wpAnyH_take (i := 7) (oi := { dst := some 5, op := Op.assign (Operand.const (Value.bool true)), type := 4, pos := "far.go:114", after := #[{ on := 6, ground := Ground.chain }, { on := 0, ground := Ground.phase }, { on := 1, ground := Ground.textOnly Departure.lateStores }, { on := 2, ground := Ground.textOnly Departure.lateStores }, { on := 3, ground := Ground.textOnly Departure.lateStores }, { on := 4, ground := Ground.textOnly Departure.lateStores }, { on := 5, ground := Ground.textOnly Departure.lateStores }, { on := 6, ground := Ground.phase }], guard := none }) (v := .bool true) rfl (by kernel_rfl) (by kernel_rfl) (by kernel_rfl) (fun _ _ _ h => h) (Or.inl ⟨by rfl, fun W hSw => by (try dsimp only at hSw); go_simp⟩) (by assumption) ?_
  try simp only [Act.put, List.setIfInBounds_toArray, List.set_cons_zero, List.set_cons_succ]
  refine wpAnyH_take (i := 8) (oi := { dst := some 6, op := Op.assign (Operand.tmp 153), type := 3, pos := "far.go:114", after := #[{ on := 5, ground := Ground.data }, { on := 7, ground := Ground.chain }, { on := 0, ground := Ground.phase }, { on := 1, ground := Ground.phase }, { on := 2, ground := Ground.phase }, { on := 3, ground := Ground.phase }, { on := 4, ground := Ground.phase }, { on := 5, ground := Ground.phase }, { on := 6, ground := Ground.phase }, { on := 7, ground := Ground.phase }], guard := none }) (v := .int .i64 (s.v q)) rfl (by kernel_rfl) (by kernel_rfl) (by kernel_rfl) (fun _ _ _ h => h) (Or.inl ⟨by rfl, fun W hSw => by (try dsimp only at hSw); go_simp⟩) (by assumption) ?_
  try simp only [Act.put, List.setIfInBounds_toArray, List.set_cons_zero, List.set_cons_succ]
  refine wpAnyH_take (i := 9) (oi := { dst := some 7, op := Op.assign (Operand.const (Value.int IntKind.i64 0)), type := 3, pos := "far.go:114", after := #[{ on := 8, ground := Ground.chain }, { on := 0, ground := Ground.phase }, { on := 1, ground := Ground.phase }, { on := 2, ground := Ground.phase }, { on := 3, ground := Ground.phase }, { on := 4, ground := Ground.phase }, { on := 5, ground := Ground.phase }, { on := 6, ground := Ground.phase }, { on := 7, ground := Ground.phase }, { on := 8, ground := Ground.phase }], guard := none }) (v := .int .i64 0) rfl (by kernel_rfl) (by kernel_rfl) (by kernel_rfl) (fun _ _ _ h => h) (Or.inl ⟨by rfl, fun W hSw => by (try dsimp only at hSw); go_simp⟩) (by assumption) ?_
  try simp only [Act.put, List.setIfInBounds_toArray, List.set_cons_zero, List.set_cons_succ]
  refine wpAnyH_done (by kernel_rfl) ?_ _
  go_wp2_with fail
  refine bodyPost_ret (v := .tuple _) (results_cell4 rfl _ _ (b + 1) 31 _ (0, 0) _ rfl HTD.out.1 Tryd.underlying31 rfl (by kernel_rfl)) rfl (DpT.of ⟨_, _, _, _, _, _, _, rfl, ?rd, HTD.out.2.1⟩)
  case rd =>
    refine RD.mk' HTD.out.2.2 ?_ rfl rfl ?_ ?_ ?_ ?_
    all_goals first | (intro p _; rfl) | (intro p _; by_cases e : p = q; (subst e; simp only [dvto, rput_same, dput_same] <;> rfl); (simp only [dvto, rput_other e, dput_other e]))
set_option maxHeartbeats 8000000 in
set_option maxRecDepth 100000 in
theorem d12y {F : Nat → Prop} {n : Nat} {s : DV} {v0 v1 v2 v3 v4 v5 v6 : Value} (w : World) (h : RD F w n s v0 v1 v2 v3 v4 v5 v6) (hF : ∀ b, F b → b < w.heap.size) (h4 : n ≤ 4) {q : Nat} (hq : q < n) (ha : s.a q = 12) (hT : s.T ≤ 1000000) (hf : s.T = s.t q) :
    Calls Tryd.prog 12 #[.agg #[v0, v1, v2, v3, v4, v5, v6], .int .i64 (q : Int)] w fun e w' => DpT F w w' n (dvstp s q) true (s.v q) (0) e := by
  have e1 : v1 = .int .i64 ((s.T : Nat) : Int) := h.p1
  have e2 : v2 = .int .i64 s.B := h.p2
  subst e1 e2
  obtain ⟨A0, c0, rfl⟩ := SL.form h.p0
  obtain ⟨A3, c3, rfl⟩ := SL.form h.p3
  obtain ⟨A4, c4, rfl⟩ := SL.form h.p4
  obtain ⟨A5, c5, rfl⟩ := SL.form h.p5
  obtain ⟨A6, c6, rfl⟩ := SL.form h.p6
  have hst := RS.start h hF
  obtain ⟨b, hb⟩ : ∃ b, b = w.heap.size := ⟨_, rfl⟩
  obtain ⟨W0, hW0⟩ : ∃ W0, W0 = (w.alloc (.cells #[.slice A0 8 c0, .int .i64 ((s.T : Nat) : Int), .int .i64 s.B, .slice A3 n c3, .slice A4 n c4, .slice A5 n c5, .slice A6 n c6] 31)).alloc (.cells #[.slice none 0 0, .int .i64 0, .int .i64 0, .slice none 0 0, .slice none 0 0, .slice none 0 0, .slice none 0 0] 31) := ⟨_, rfl⟩
  rw [← hW0, ← hb] at hst
  have hwn : IntKind.i64.wrap ((n : Int) - 1) = (n : Int) - 1 := IntWalk.i64_in _ (by omega)
  have HS0 := Lib.hid hst
  have HW0 := Lib.hid hW0
  have HBW := Lib.hid hb.symm
  clear hst h hF hb hW0
  rw [(v12y (s := s) ha hf).1]
  obtain ⟨t1, ht1⟩ : ∃ t1, t1 = s.t q + 1 := ⟨_, rfl⟩
  have hw : IntKind.i64.wrap (((s.t q : Nat) : Int) + 1) = (t1 : Int) := (IntWalk.i64_in _ (by omega)).trans (by omega)
  rw [← ht1]
  have hfI : (((s.T : Nat) : Int) != ((s.t q : Nat) : Int)) = false := by simp; omega
  have hfN : (s.T != s.t q) = false := by simp [hf]
  have HI1 := Lib.hid (inW_any q 0 ((n : Int) - 1) true (decide_eq_true (by omega)))
  have hqI : (q : Int) < n := by omega
  obtain ⟨b3, o3, rfl, _, _, hct⟩ := nm_at HS0.out.v.p3 hq
  rw [ha] at hct
  obtain ⟨b4, o4, rfl, _, _, _⟩ := nm_at HS0.out.v.p4 hq
  obtain ⟨b5, o5, rfl, _, _, _⟩ := nm_at HS0.out.v.p5 hq
  have hw2 : IntKind.i64.wrap (12 + 1) = 13 := by rfl
  clear ha
  obtain ⟨b6, o6, rfl, _, _, _⟩ := nm_at HS0.out.v.p6 hq
  clear hT hf ht1
  go_enter Tryd.func12, Tryd.ntmps12
  go_upto_region 1 with fail
  rw [← HW0.out, HBW.out]
  obtain ⟨q0, q1, q2, q3, q4, q5, q6⟩ := HS0.out.q
  have fq0 := HS0.out.box.free 0
  have fq1 := HS0.out.box.free 1
  have fq2 := HS0.out.box.free 2
  have fq3 := HS0.out.box.free 3
  have fq4 := HS0.out.box.free 4
  have fq5 := HS0.out.box.free 5
  have fq6 := HS0.out.box.free 6
  obtain ⟨r0, r1, r2, r3, r4, r5, r6⟩ := HS0.out.r
  have fr0 := HS0.out.res.free 0
  have fr1 := HS0.out.res.free 1
  have fr2 := HS0.out.res.free 2
  have fr3 := HS0.out.res.free 3
  have fr4 := HS0.out.res.free 4
  have fr5 := HS0.out.res.free 5
  have fr6 := HS0.out.res.free 6
  go_upto_region 7 with (first | (go_at_call 22; (with_reducible refine (HI1.out _).mono ?_); rintro e w' ⟨rfl, rfl⟩) | (go_at_call 19; (with_reducible refine (set_nm 0 HS0.out.hF HS0.out.v.p3 hq (by omega)).mono ?_); rintro e w1 ⟨E1, e1, rfl, hn, hb⟩; have HN1 := Lib.hid hn; have HC1 := Lib.hid (HS0.out.call hb); have qd := HC1.out.q.2.2.2.1; have fd1 := HC1.out.box.free 3; clear hn hb))
  clear hct
  clear q0 fq0 r0 fr0 q1 fq1 r1 fr1 q2 fq2 r2 fr2 q3 fq3 r3 fr3 q4 fq4 r4 fr4 q5 fq5 r5 fr5 q6 fq6 r6 fr6
  clear qd fd1
  have hs1 := HC1.out.put3 (nm_stb _ _) HN1.out
  obtain ⟨V1, hV1⟩ : ∃ V, V = w1.setCell ⟨b, 3, none⟩ (.slice E1 n e1) := ⟨_, rfl⟩
  rw [← hV1] at hs1 ⊢
  have HS1 := Lib.hid hs1
  clear hs1 hV1 HC1 HN1
  obtain ⟨q0, q1, q2, q3, q4, q5, q6⟩ := HS1.out.q
  have fq0 := HS1.out.box.free 0
  have fq1 := HS1.out.box.free 1
  have fq2 := HS1.out.box.free 2
  have fq3 := HS1.out.box.free 3
  have fq4 := HS1.out.box.free 4
  have fq5 := HS1.out.box.free 5
  have fq6 := HS1.out.box.free 6
  obtain ⟨r0, r1, r2, r3, r4, r5, r6⟩ := HS1.out.r
  have fr0 := HS1.out.res.free 0
  have fr1 := HS1.out.res.free 1
  have fr2 := HS1.out.res.free 2
  have fr3 := HS1.out.res.free 3
  have fr4 := HS1.out.res.free 4
  have fr5 := HS1.out.res.free 5
  have fr6 := HS1.out.res.free 6
  obtain ⟨xg4, yg4, eeg4, _, _, g4⟩ := nm_at HS1.out.v.p4 hq
  injection eeg4 with eeg4
  injection eeg4 with eeg4 ffg4 _
  subst eeg4 ffg4
  obtain ⟨xg5, yg5, eeg5, _, _, g5⟩ := nm_at HS1.out.v.p5 hq
  injection eeg5 with eeg5
  injection eeg5 with eeg5 ffg5 _
  subst eeg5 ffg5
  go_upto_region 50 with fail
  clear g4 g5
  clear q0 fq0 r0 fr0 q1 fq1 r1 fr1 q2 fq2 r2 fr2 q3 fq3 r3 fr3 q4 fq4 r4 fr4 q5 fq5 r5 fr5 q6 fq6 r6 fr6
  have hpV2 := HS1.out.put1 (isInt_stb _) (u := .int .i64 ((t1 : Nat) : Int)) (Q := isInt ((t1 : Nat) : Int)) rfl
  obtain ⟨V2, hVV2⟩ : ∃ V, V = V1.setCell ⟨b, 1, none⟩ (.int .i64 ((t1 : Nat) : Int)) := ⟨_, rfl⟩
  rw [← hVV2] at hpV2 ⊢
  have HS2 := Lib.hid hpV2
  clear hpV2 hVV2
  obtain ⟨q0, q1, q2, q3, q4, q5, q6⟩ := HS2.out.q
  have fq0 := HS2.out.box.free 0
  have fq1 := HS2.out.box.free 1
  have fq2 := HS2.out.box.free 2
  have fq3 := HS2.out.box.free 3
  have fq4 := HS2.out.box.free 4
  have fq5 := HS2.out.box.free 5
  have fq6 := HS2.out.box.free 6
  obtain ⟨r0, r1, r2, r3, r4, r5, r6⟩ := HS2.out.r
  have fr0 := HS2.out.res.free 0
  have fr1 := HS2.out.res.free 1
  have fr2 := HS2.out.res.free 2
  have fr3 := HS2.out.res.free 3
  have fr4 := HS2.out.res.free 4
  have fr5 := HS2.out.res.free 5
  have fr6 := HS2.out.res.free 6
  have HS3 := Lib.hid (HS2.out.call (Below.refl V2.heap.size V2).drew)
  have HTD := Lib.hid (told_drew HS2.out.told)
  obtain ⟨xgA, ygA, eegA, _, _, gA⟩ := nm_at HS3.out.v.p6 hq
  injection eegA with eegA
  injection eegA with eegA ffgA _
  subst eegA ffgA
  obtain ⟨xgB, ygB, eegB, _, _, gB⟩ := nm_at HTD.out.2.2.p6 hq
  injection eegB with eegB
  injection eegB with eegB ffgB _
  subst eegB ffgB
  have HSS : Hid ((fun W : World => W.cell? ⟨b, 0, none⟩ = some (.slice A0 8 c0) ∧ W.cell? ⟨b, 1, none⟩ = some (.int .i64 ((t1 : Nat) : Int)) ∧ W.cell? ⟨b, 2, none⟩ = some (.int .i64 s.B) ∧ W.cell? ⟨b, 3, none⟩ = some (.slice E1 n e1) ∧ W.cell? ⟨b, 4, none⟩ = some (.slice (some ⟨b4, o4, none⟩) n c4) ∧ W.cell? ⟨b, 5, none⟩ = some (.slice (some ⟨b5, o5, none⟩) n c5) ∧ W.cell? ⟨b, 6, none⟩ = some (.slice (some ⟨b6, o6, none⟩) n c6) ∧ W.cell? ⟨b6, o6 + q, none⟩ = some (.int .i64 (s.v q))) V2.drew) := Lib.hid ⟨HS3.out.q.1, HS3.out.q.2.1, HS3.out.q.2.2.1, HS3.out.q.2.2.2.1, HS3.out.q.2.2.2.2.1, HS3.out.q.2.2.2.2.2.1, HS3.out.q.2.2.2.2.2.2, gA⟩
  have HST : Hid ((fun W : World => W.cell? ⟨b, 0, none⟩ = some (.slice A0 8 c0) ∧ W.cell? ⟨b, 1, none⟩ = some (.int .i64 ((t1 : Nat) : Int)) ∧ W.cell? ⟨b, 2, none⟩ = some (.int .i64 s.B) ∧ W.cell? ⟨b, 3, none⟩ = some (.slice E1 n e1) ∧ W.cell? ⟨b, 4, none⟩ = some (.slice (some ⟨b4, o4, none⟩) n c4) ∧ W.cell? ⟨b, 5, none⟩ = some (.slice (some ⟨b5, o5, none⟩) n c5) ∧ W.cell? ⟨b, 6, none⟩ = some (.slice (some ⟨b6, o6, none⟩) n c6) ∧ W.cell? ⟨b6, o6 + q, none⟩ = some (.int .i64 (s.v q))) (((((((V2.setCell ⟨b + 1, 0, none⟩ (.slice A0 8 c0)).setCell ⟨b + 1, 1, none⟩ (.int .i64 ((t1 : Nat) : Int))).setCell ⟨b + 1, 2, none⟩ (.int .i64 s.B)).setCell ⟨b + 1, 3, none⟩ (.slice E1 n e1)).setCell ⟨b + 1, 4, none⟩ (.slice (some ⟨b4, o4, none⟩) n c4)).setCell ⟨b + 1, 5, none⟩ (.slice (some ⟨b5, o5, none⟩) n c5)).setCell ⟨b + 1, 6, none⟩ (.slice (some ⟨b6, o6, none⟩) n c6)).drew) := Lib.hid (have hf := far7 HS2.out.q; ⟨hf.1, hf.2.1, hf.2.2.1, hf.2.2.2.1, hf.2.2.2.2.1, hf.2.2.2.2.2.1, hf.2.2.2.2.2.2, gB⟩)
  clear gA gB
  refine wp_region_held_drew (S := (fun W : World => W.cell? ⟨b, 0, none⟩ = some (.slice A0 8 c0) ∧ W.cell? ⟨b, 1, none⟩ = some (.int .i64 ((t1 : Nat) : Int)) ∧ W.cell? ⟨b, 2, none⟩ = some (.int .i64 s.B) ∧ W.cell? ⟨b, 3, none⟩ = some (.slice E1 n e1) ∧ W.cell? ⟨b, 4, none⟩ = some (.slice (some ⟨b4, o4, none⟩) n c4) ∧ W.cell? ⟨b, 5, none⟩ = some (.slice (some ⟨b5, o5, none⟩) n c5) ∧ W.cell? ⟨b, 6, none⟩ = some (.slice (some ⟨b6, o6, none⟩) n c6) ∧ W.cell? ⟨b6, o6 + q, none⟩ = some (.int .i64 (s.v q)))) (by kernel_rfl) ?_ (fun hHeld => ?_)
  · exact HSS.out
  refine wpAnyH_take (i := 0) (oi := { dst := some 193, op := Op.load 31 (Operand.tmp 2), type := 31, pos := "far.go:128", after := #[], guard := none }) (v := .agg #[.slice A0 8 c0, .int .i64 ((t1 : Nat) : Int), .int .i64 s.B, .slice E1 n e1, .slice (some ⟨b4, o4, none⟩) n c4, .slice (some ⟨b5, o5, none⟩) n c5, .slice (some ⟨b6, o6, none⟩) n c6]) rfl (by kernel_rfl) (by kernel_rfl) (by kernel_rfl) (fun _ _ _ h => h) (Or.inl ⟨by rfl, fun W hSw => by (try dsimp only at hSw); go_simp⟩) (by assumption) ?_
  try simp only [Act.put, List.setIfInBounds_toArray, List.set_cons_zero, List.set_cons_succ]
  refine wpAnyH_take (i := 1) (oi := { dst := some 194, op := Op.fieldAddr 31 (Operand.tmp 2) 6, type := 0, pos := "far.go:128", after := #[{ on := 7, ground := Ground.gcOnly Departure.lateStores }], guard := none }) (v := .pointer (some ⟨b, 6, none⟩)) rfl (by kernel_rfl) (by kernel_rfl) (by kernel_rfl) (fun _ _ _ h => h) (Or.inl ⟨by rfl, fun W hSw => by (try dsimp only at hSw); go_simp⟩) (by assumption) ?_
  try simp only [Act.put, List.setIfInBounds_toArray, List.set_cons_zero, List.set_cons_succ]
  refine wpAnyH_take (i := 2) (oi := { dst := some 195, op := Op.load 29 (Operand.tmp 194), type := 29, pos := "far.go:128", after := #[{ on := 1, ground := Ground.data }, { on := 7, ground := Ground.gcOnly Departure.lateStores }], guard := none }) (v := .slice (some ⟨b6, o6, none⟩) n c6) rfl (by kernel_rfl) (by kernel_rfl) (by kernel_rfl) (fun _ _ _ h => h) (Or.inl ⟨by rfl, fun W hSw => by (try dsimp only at hSw); go_simp⟩) (by assumption) ?_
  try simp only [Act.put, List.setIfInBounds_toArray, List.set_cons_zero, List.set_cons_succ]
  refine wpAnyH_take (i := 3) (oi := { dst := some 196, op := Op.move (Operand.tmp 1), type := 3, pos := "far.go:128", after := #[{ on := 7, ground := Ground.gcOnly Departure.lateStores }], guard := none }) (v := .int .i64 (q : Int)) rfl (by kernel_rfl) (by kernel_rfl) (by kernel_rfl) (fun _ _ _ h => h) (Or.inl ⟨by rfl, fun W hSw => by (try dsimp only at hSw); go_simp⟩) (by assumption) ?_
  try simp only [Act.put, List.setIfInBounds_toArray, List.set_cons_zero, List.set_cons_succ]
  refine wpAnyH_take (i := 4) (oi := { dst := some 197, op := Op.indexAddr 29 (Operand.tmp 195) (Operand.tmp 196), type := 0, pos := "far.go:128", after := #[{ on := 2, ground := Ground.data }, { on := 3, ground := Ground.data }, { on := 7, ground := Ground.gcOnly Departure.lateStores }], guard := none }) (v := .pointer (some ⟨b6, o6 + q, none⟩)) rfl (by kernel_rfl) (by kernel_rfl) (by kernel_rfl) (fun _ _ _ h => h) (Or.inl ⟨by rfl, fun W hSw => by (try dsimp only at hSw); go_simp⟩) (by assumption) ?_
  try simp only [Act.put, List.setIfInBounds_toArray, List.set_cons_zero, List.set_cons_succ]
  refine wpAnyH_take (i := 5) (oi := { dst := some 198, op := Op.load 3 (Operand.tmp 197), type := 3, pos := "far.go:128", after := #[{ on := 4, ground := Ground.data }, { on := 7, ground := Ground.gcOnly Departure.lateStores }], guard := none }) (v := .int .i64 (s.v q)) rfl (by kernel_rfl) (by kernel_rfl) (by kernel_rfl) (fun _ _ _ h => h) (Or.inl ⟨by rfl, fun W hSw => by (try dsimp only at hSw); go_simp⟩) (by assumption) ?_
  try simp only [Act.put, List.setIfInBounds_toArray, List.set_cons_zero, List.set_cons_succ]
  refine held_any 6 (o := { dst := none, op := Op.store 31 (Operand.tmp 4) (Operand.tmp 193), type := 0, pos := "far.go:128", after := #[{ on := 0, ground := Ground.data }, { on := 0, ground := Ground.phase }, { on := 1, ground := Ground.textOnly Departure.lateStores }, { on := 2, ground := Ground.textOnly Departure.lateStores }, { on := 3, ground := Ground.textOnly Departure.lateStores }, { on := 4, ground := Ground.textOnly Departure.lateStores }, { on := 5, ground := Ground.textOnly Departure.lateStores }], guard := none }) ?hr_2 ?ho_2 ?hw_2 undef (((((((V2.setCell ⟨b + 1, 0, none⟩ (.slice A0 8 c0)).setCell ⟨b + 1, 1, none⟩ (.int .i64 ((t1 : Nat) : Int))).setCell ⟨b + 1, 2, none⟩ (.int .i64 s.B)).setCell ⟨b + 1, 3, none⟩ (.slice E1 n e1)).setCell ⟨b + 1, 4, none⟩ (.slice (some ⟨b4, o4, none⟩) n c4)).setCell ⟨b + 1, 5, none⟩ (.slice (some ⟨b5, o5, none⟩) n c5)).setCell ⟨b + 1, 6, none⟩ (.slice (some ⟨b6, o6, none⟩) n c6)).drew ?hy_2 ?hS_2 ?h_2
  case hr_2 => kernel_rfl
  case ho_2 => rfl
  case hw_2 => rfl
  case hy_2 => (intro K hK; go_simp; exact hK)
  case hS_2 => exact HST.out
  clear hHeld
  have hHeld := HST.out
  try simp only [Act.put]
  refine wpAnyH_take (i := 7) (oi := { dst := some 5, op := Op.assign (Operand.const (Value.bool true)), type := 4, pos := "far.go:128", after := #[{ on := 6, ground := Ground.chain }, { on := 0, ground := Ground.phase }, { on := 1, ground := Ground.textOnly Departure.lateStores }, { on := 2, ground := Ground.textOnly Departure.lateStores }, { on := 3, ground := Ground.textOnly Departure.lateStores }, { on := 4, ground := Ground.textOnly Departure.lateStores }, { on := 5, ground := Ground.textOnly Departure.lateStores }, { on := 6, ground := Ground.phase }], guard := none }) (v := .bool true) rfl (by kernel_rfl) (by kernel_rfl) (by kernel_rfl) (fun _ _ _ h => h) (Or.inl ⟨by rfl, fun W hSw => by (try dsimp only at hSw); go_simp⟩) (by assumption) ?_
  try simp only [Act.put, List.setIfInBounds_toArray, List.set_cons_zero, List.set_cons_succ]
  refine wpAnyH_take (i := 8) (oi := { dst := some 6, op := Op.assign (Operand.tmp 198), type := 3, pos := "far.go:128", after := #[{ on := 5, ground := Ground.data }, { on := 7, ground := Ground.chain }, { on := 0, ground := Ground.phase }, { on := 1, ground := Ground.phase }, { on := 2, ground := Ground.phase }, { on := 3, ground := Ground.phase }, { on := 4, ground := Ground.phase }, { on := 5, ground := Ground.phase }, { on := 6, ground := Ground.phase }, { on := 7, ground := Ground.phase }], guard := none }) (v := .int .i64 (s.v q)) rfl (by kernel_rfl) (by kernel_rfl) (by kernel_rfl) (fun _ _ _ h => h) (Or.inl ⟨by rfl, fun W hSw => by (try dsimp only at hSw); go_simp⟩) (by assumption) ?_
  try simp only [Act.put, List.setIfInBounds_toArray, List.set_cons_zero, List.set_cons_succ]
  refine wpAnyH_take (i := 9) (oi := { dst := some 7, op := Op.assign (Operand.const (Value.int IntKind.i64 0)), type := 3, pos := "far.go:128", after := #[{ on := 8, ground := Ground.chain }, { on := 0, ground := Ground.phase }, { on := 1, ground := Ground.phase }, { on := 2, ground := Ground.phase }, { on := 3, ground := Ground.phase }, { on := 4, ground := Ground.phase }, { on := 5, ground := Ground.phase }, { on := 6, ground := Ground.phase }, { on := 7, ground := Ground.phase }, { on := 8, ground := Ground.phase }], guard := none }) (v := .int .i64 0) rfl (by kernel_rfl) (by kernel_rfl) (by kernel_rfl) (fun _ _ _ h => h) (Or.inl ⟨by rfl, fun W hSw => by (try dsimp only at hSw); go_simp⟩) (by assumption) ?_
  try simp only [Act.put, List.setIfInBounds_toArray, List.set_cons_zero, List.set_cons_succ]
  refine wpAnyH_done (by kernel_rfl) ?_ _
  go_wp2_with fail
  refine bodyPost_ret (v := .tuple _) (results_cell4 rfl _ _ (b + 1) 31 _ (0, 0) _ rfl HTD.out.1 Tryd.underlying31 rfl (by kernel_rfl)) rfl (DpT.of ⟨_, _, _, _, _, _, _, rfl, ?rd, HTD.out.2.1⟩)
  case rd =>
    refine RD.mk' HTD.out.2.2 ?_ rfl rfl ?_ ?_ ?_ ?_
    all_goals first | (intro p _; rfl) | (intro p _; by_cases e : p = q; (subst e; simp only [dvto, rput_same, dput_same] <;> rfl); (simp only [dvto, rput_other e, dput_other e]))
end Go.Proofs.YtbicckeoidijpaaDoor.Dq
