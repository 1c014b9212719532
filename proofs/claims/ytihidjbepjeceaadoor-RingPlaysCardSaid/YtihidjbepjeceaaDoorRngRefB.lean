/-
  The reference of package ring: sp2.
-/
import Derived.Test.YtihidjbepjeceaaDoorRngRefH
namespace Go.Proofs.YtihidjbepjeceaaDoor.Ring
open Go.RowKit Rf

set_option maxHeartbeats 8000000 in
set_option maxRecDepth 100000 in
theorem sp2 {F : Nat → Prop} {n : Nat} {s : RGS} {A0 : Option Addr} {c0 : Nat} (w : World) (h : pn n s F w (.slice A0 n c0)) (hF : ∀ b, F b → b < w.heap.size) (ha : s.pa = 2) (h1 : 1 ≤ n) (h8 : n ≤ 8) :
    Calls Tryd.prog 6 #[.agg #[.slice A0 n c0, .int .i64 ((s.hd : Nat) : Int), .int .i64 ((s.tl : Nat) : Int), .int .i64 ((s.pa : Nat) : Int), .int .i64 ((s.ga : Nat) : Int), .int .i64 ((s.pv : Nat) : Int), .int .i64 ((s.gv : Nat) : Int)]] w fun e w' => SpT F w w' n ⟨3, s.pv, s.ga, s.gv, s.hd, s.tl, gup s.pl (s.tl % n) s.pv, s.puts, s.out, s.have'⟩ (.bool false) (.bool false) (.int .i64 0) e := by
  have hst := RS.start (start_ring h) hF
  obtain ⟨b, hb⟩ : ∃ b, b = w.heap.size := ⟨_, rfl⟩
  obtain ⟨W0, hW0⟩ : ∃ W0, W0 = (w.alloc (.cells #[.slice A0 n c0, .int .i64 ((s.hd : Nat) : Int), .int .i64 ((s.tl : Nat) : Int), .int .i64 ((s.pa : Nat) : Int), .int .i64 ((s.ga : Nat) : Int), .int .i64 ((s.pv : Nat) : Int), .int .i64 ((s.gv : Nat) : Int)] 30)).alloc (.cells #[.slice none 0 0, .int .i64 0, .int .i64 0, .int .i64 0, .int .i64 0, .int .i64 0, .int .i64 0] 30) := ⟨_, rfl⟩
  rw [← hW0, ← hb] at hst
  have haI : ((s.pa : Nat) : Int) = 2 := by omega
  rw [haI] at hst hW0 ⊢
  obtain ⟨m, hm⟩ : ∃ m, m = s.tl % n := ⟨_, rfl⟩
  have hmn : m < n := by have := Nat.mod_lt s.tl (show 0 < n by omega); omega
  have hr : (s.tl : Int).tmod (n : Int) = (m : Int) := by rw [hm]; exact rem_of _ _
  have hwm : IntKind.i64.wrap (m : Int) = (m : Int) := IntWalk.i64_in _ (by omega)
  have hn0 : ((n : Int) == 0) = false := by simp; omega
  have hnz : ¬ (n : Int) = 0 := by omega
  have hnzN : ¬ n = 0 := by omega
  rw [← hm]
  have HSD := Lib.hid (hst.call (Below.refl W0.heap.size W0).drew)
  have HSET := Lib.hid (set_pn (s' := ⟨3, s.pv, s.ga, s.gv, s.hd, s.tl, gup s.pl m s.pv, s.puts, s.out, s.have'⟩) (fun z hz => HSD.out.hF z hz) HSD.out.v.p0 hmn (by omega) (fun _ => rfl))
  have hw2 : IntKind.i64.wrap (2 + 1) = 3 := by rfl
  have HS0 := Lib.hid hst
  have HW0 := Lib.hid hW0
  have HBW := Lib.hid hb.symm
  clear hst h hF hb hW0 ha haI h1 h8 hm hmn
  go_enter Tryd.func6, Tryd.ntmps6
  go_upto_region 1 with fail
  rw [← HW0.out, HBW.out]
  obtain ⟨q0, q1, q2, q3, q4, q5, q6⟩ := HS0.out.q
  have fq0 := HS0.out.box.free 0
  have fq1 := HS0.out.box.free 1
  have fq2 := HS0.out.box.free 2
  have fq3 := HS0.out.box.free 3
  have fq4 := HS0.out.box.free 4
  have fq5 := HS0.out.box.free 5
  have fq6 := HS0.out.box.free 6
  obtain ⟨r0, r1, r2, r3, r4, r5, r6⟩ := HS0.out.r
  have fr0 := HS0.out.res.free 0
  have fr1 := HS0.out.res.free 1
  have fr2 := HS0.out.res.free 2
  have fr3 := HS0.out.res.free 3
  have fr4 := HS0.out.res.free 4
  have fr5 := HS0.out.res.free 5
  have fr6 := HS0.out.res.free 6
  go_upto_region 7 with fail
  refine heldZ_begin (S := (fun W : World => W.cell? ⟨b, 0, none⟩ = some (.slice A0 n c0) ∧ W.cell? ⟨b, 2, none⟩ = some (.int .i64 ((s.tl : Nat) : Int)) ∧ W.cell? ⟨b, 5, none⟩ = some (.int .i64 ((s.pv : Nat) : Int)))) 12 (by kernel_rfl) ?_ (fun hHeld => ?_)
  · exact ⟨HSD.out.q.1, HSD.out.q.2.2.1, HSD.out.q.2.2.2.2.2.1⟩
  refine heldZ_take (i := 0) (oi := { dst := some 29, op := Op.fieldAddr 30 (Operand.tmp 1) 0, type := 0, pos := "mach.go:421", after := #[], guard := none }) (v := .pointer (some ⟨b, 0, none⟩)) rfl (by kernel_rfl) (by kernel_rfl) (by kernel_rfl) (by kernel_rfl) (by decide) (fun _ _ _ h => h) (Or.inl ⟨by rfl, fun W hSw => by (try dsimp only at hSw); go_simp; try exact hnzN⟩) (by assumption) ?_
  try simp only [Act.put, List.setIfInBounds_toArray, List.set_cons_zero, List.set_cons_succ]
  refine heldZ_take (i := 1) (oi := { dst := some 30, op := Op.load 22 (Operand.tmp 29), type := 22, pos := "mach.go:421", after := #[{ on := 0, ground := Ground.data }], guard := none }) (v := .slice A0 n c0) rfl (by kernel_rfl) (by kernel_rfl) (by kernel_rfl) (by kernel_rfl) (by decide) (fun _ _ _ h => h) (Or.inl ⟨by rfl, fun W hSw => by (try dsimp only at hSw); go_simp; try exact hnzN⟩) (by assumption) ?_
  try simp only [Act.put, List.setIfInBounds_toArray, List.set_cons_zero, List.set_cons_succ]
  refine heldZ_take (i := 2) (oi := { dst := some 31, op := Op.fieldAddr 30 (Operand.tmp 1) 2, type := 0, pos := "mach.go:421", after := #[], guard := none }) (v := .pointer (some ⟨b, 2, none⟩)) rfl (by kernel_rfl) (by kernel_rfl) (by kernel_rfl) (by kernel_rfl) (by decide) (fun _ _ _ h => h) (Or.inl ⟨by rfl, fun W hSw => by (try dsimp only at hSw); go_simp; try exact hnzN⟩) (by assumption) ?_
  try simp only [Act.put, List.setIfInBounds_toArray, List.set_cons_zero, List.set_cons_succ]
  refine heldZ_take (i := 3) (oi := { dst := some 32, op := Op.load 3 (Operand.tmp 31), type := 3, pos := "mach.go:421", after := #[{ on := 2, ground := Ground.data }], guard := none }) (v := .int .i64 ((s.tl : Nat) : Int)) rfl (by kernel_rfl) (by kernel_rfl) (by kernel_rfl) (by kernel_rfl) (by decide) (fun _ _ _ h => h) (Or.inl ⟨by rfl, fun W hSw => by (try dsimp only at hSw); go_simp; try exact hnzN⟩) (by assumption) ?_
  try simp only [Act.put, List.setIfInBounds_toArray, List.set_cons_zero, List.set_cons_succ]
  refine heldZ_take (i := 4) (oi := { dst := some 33, op := Op.fieldAddr 30 (Operand.tmp 1) 0, type := 0, pos := "mach.go:421", after := #[], guard := none }) (v := .pointer (some ⟨b, 0, none⟩)) rfl (by kernel_rfl) (by kernel_rfl) (by kernel_rfl) (by kernel_rfl) (by decide) (fun _ _ _ h => h) (Or.inl ⟨by rfl, fun W hSw => by (try dsimp only at hSw); go_simp; try exact hnzN⟩) (by assumption) ?_
  try simp only [Act.put, List.setIfInBounds_toArray, List.set_cons_zero, List.set_cons_succ]
  refine heldZ_take (i := 5) (oi := { dst := some 34, op := Op.load 22 (Operand.tmp 33), type := 22, pos := "mach.go:421", after := #[{ on := 4, ground := Ground.data }], guard := none }) (v := .slice A0 n c0) rfl (by kernel_rfl) (by kernel_rfl) (by kernel_rfl) (by kernel_rfl) (by decide) (fun _ _ _ h => h) (Or.inl ⟨by rfl, fun W hSw => by (try dsimp only at hSw); go_simp; try exact hnzN⟩) (by assumption) ?_
  try simp only [Act.put, List.setIfInBounds_toArray, List.set_cons_zero, List.set_cons_succ]
  refine heldZ_take (i := 6) (oi := { dst := some 35, op := Op.call { callee := Callee.builtin Builtin.len, args := #[Operand.tmp 34], argTypes := #[22] }, type := 3, pos := "mach.go:421", after := #[{ on := 5, ground := Ground.data }], guard := none }) (v := .int .i64 ((n : Nat) : Int)) rfl (by kernel_rfl) (by kernel_rfl) (by kernel_rfl) (by kernel_rfl) (by decide) (fun _ _ _ h => h) (Or.inl ⟨by rfl, fun W hSw => by (try dsimp only at hSw); go_simp; try exact hnzN⟩) (by assumption) ?_
  try simp only [Act.put, List.setIfInBounds_toArray, List.set_cons_zero, List.set_cons_succ]
  refine heldZ_take (i := 7) (oi := { dst := some 36, op := Op.binOp BinOp.rem 3 (Operand.tmp 32) (Operand.tmp 35) 3, type := 3, pos := "mach.go:421", after := #[{ on := 3, ground := Ground.data }, { on := 6, ground := Ground.data }], guard := none }) (v := .int .i64 ((m : Nat) : Int)) rfl (by kernel_rfl) (by kernel_rfl) (by kernel_rfl) (by kernel_rfl) (by decide) (fun _ _ _ h => h) (Or.inl ⟨by rfl, fun W hSw => by (try dsimp only at hSw); go_simp; try exact hnzN⟩) (by assumption) ?_
  try simp only [Act.put, List.setIfInBounds_toArray, List.set_cons_zero, List.set_cons_succ]
  refine heldZ_take (i := 8) (oi := { dst := some 37, op := Op.fieldAddr 30 (Operand.tmp 1) 5, type := 0, pos := "mach.go:421", after := #[], guard := none }) (v := .pointer (some ⟨b, 5, none⟩)) rfl (by kernel_rfl) (by kernel_rfl) (by kernel_rfl) (by kernel_rfl) (by decide) (fun _ _ _ h => h) (Or.inl ⟨by rfl, fun W hSw => by (try dsimp only at hSw); go_simp; try exact hnzN⟩) (by assumption) ?_
  try simp only [Act.put, List.setIfInBounds_toArray, List.set_cons_zero, List.set_cons_succ]
  refine heldZ_take (i := 9) (oi := { dst := some 38, op := Op.load 3 (Operand.tmp 37), type := 3, pos := "mach.go:421", after := #[{ on := 8, ground := Ground.data }], guard := none }) (v := .int .i64 ((s.pv : Nat) : Int)) rfl (by kernel_rfl) (by kernel_rfl) (by kernel_rfl) (by kernel_rfl) (by decide) (fun _ _ _ h => h) (Or.inl ⟨by rfl, fun W hSw => by (try dsimp only at hSw); go_simp; try exact hnzN⟩) (by assumption) ?_
  try simp only [Act.put, List.setIfInBounds_toArray, List.set_cons_zero, List.set_cons_succ]
  refine heldZ_call 10 (o := { dst := some 39, op := Op.call { callee := Callee.value (Operand.func 17), args := #[Operand.tmp 30, Operand.tmp 36, Operand.tmp 38], argTypes := #[22, 3, 3] }, type := 22, pos := "mach.go:421", after := #[{ on := 1, ground := Ground.data }, { on := 7, ground := Ground.data }, { on := 9, ground := Ground.data }], guard := none }) ?hr1 ?ho1 ?hw1 17 #[.slice A0 n c0, .int .i64 ((m : Nat) : Int), .int .i64 ((s.pv : Nat) : Int)] ?hx1 _ HSET.out ?h1
  case hr1 => kernel_rfl
  case ho1 => rfl
  case hw1 => rfl
  case hx1 => (go_simp; try rfl)
  case h1 =>
  rintro e w1 ⟨E1, e1, rfl, hn, hb⟩
  have HN1 := Lib.hid hn
  have HC1 := Lib.hid (HSD.out.call hb)
  have qd := HC1.out.q.1
  have fd1 := HC1.out.box.free 0
  clear hn hb hHeld
  refine ⟨_, rfl, fun _ => ⟨HC1.out.q.1, HC1.out.q.2.2.1, HC1.out.q.2.2.2.2.2.1⟩, ?_⟩
  have hHeld : (fun W : World => W.cell? ⟨b, 0, none⟩ = some (.slice A0 n c0) ∧ W.cell? ⟨b, 2, none⟩ = some (.int .i64 ((s.tl : Nat) : Int)) ∧ W.cell? ⟨b, 5, none⟩ = some (.int .i64 ((s.pv : Nat) : Int))) w1 := ⟨HC1.out.q.1, HC1.out.q.2.2.1, HC1.out.q.2.2.2.2.2.1⟩
  try simp only [Act.put, List.setIfInBounds_toArray, List.set_cons_zero, List.set_cons_succ]
  refine heldZ_take (i := 11) (oi := { dst := some 40, op := Op.fieldAddr 30 (Operand.tmp 1) 0, type := 0, pos := "mach.go:421", after := #[{ on := 0, ground := Ground.phase }, { on := 1, ground := Ground.phase }, { on := 2, ground := Ground.phase }, { on := 3, ground := Ground.phase }, { on := 4, ground := Ground.phase }, { on := 5, ground := Ground.phase }, { on := 6, ground := Ground.phase }, { on := 7, ground := Ground.phase }, { on := 8, ground := Ground.phase }, { on := 9, ground := Ground.phase }, { on := 10, ground := Ground.phase }], guard := none }) (v := .pointer (some ⟨b, 0, none⟩)) rfl (by kernel_rfl) (by kernel_rfl) (by kernel_rfl) (by kernel_rfl) (by decide) (fun _ _ _ h => h) (Or.inl ⟨by rfl, fun W hSw => by (try dsimp only at hSw); go_simp; try exact hnzN⟩) (by assumption) ?_
  try simp only [Act.put, List.setIfInBounds_toArray, List.set_cons_zero, List.set_cons_succ]
  clear hHeld q0 fq0 r0 fr0 q1 fq1 r1 fr1 q2 fq2 r2 fr2 q3 fq3 r3 fr3 q4 fq4 r4 fr4 q5 fq5 r5 fr5 q6 fq6 r6 fr6
  refine heldZ_last rfl (o := { dst := none, op := Op.store 22 (Operand.tmp 40) (Operand.tmp 39), type := 0, pos := "mach.go:421", after := #[{ on := 11, ground := Ground.data }, { on := 10, ground := Ground.data }, { on := 10, ground := Ground.chain }, { on := 0, ground := Ground.phase }, { on := 1, ground := Ground.phase }, { on := 2, ground := Ground.phase }, { on := 3, ground := Ground.phase }, { on := 4, ground := Ground.phase }, { on := 5, ground := Ground.phase }, { on := 6, ground := Ground.phase }, { on := 7, ground := Ground.phase }, { on := 8, ground := Ground.phase }, { on := 9, ground := Ground.phase }, { on := 10, ground := Ground.phase }], guard := none }) (by kernel_rfl) rfl (by kernel_rfl) rfl ?_
  intro K hK
  go_simp
  refine hK _ _ ?_
  clear hK
  clear qd fd1
  have hs1 := HC1.out.put0 (pn_stb _ _) HN1.out
  obtain ⟨V1, hV1⟩ : ∃ V, V = w1.setCell ⟨b, 0, none⟩ (.slice E1 n e1) := ⟨_, rfl⟩
  rw [← hV1] at hs1 ⊢
  have HS1 := Lib.hid hs1
  clear hs1 hV1 HC1 HN1
  obtain ⟨q0, q1, q2, q3, q4, q5, q6⟩ := HS1.out.q
  have fq0 := HS1.out.box.free 0
  have fq1 := HS1.out.box.free 1
  have fq2 := HS1.out.box.free 2
  have fq3 := HS1.out.box.free 3
  have fq4 := HS1.out.box.free 4
  have fq5 := HS1.out.box.free 5
  have fq6 := HS1.out.box.free 6
  obtain ⟨r0, r1, r2, r3, r4, r5, r6⟩ := HS1.out.r
  have fr0 := HS1.out.res.free 0
  have fr1 := HS1.out.res.free 1
  have fr2 := HS1.out.res.free 2
  have fr3 := HS1.out.res.free 3
  have fr4 := HS1.out.res.free 4
  have fr5 := HS1.out.res.free 5
  have fr6 := HS1.out.res.free 6
  go_upto_region 13 with fail
  clear q0 fq0 r0 fr0 q1 fq1 r1 fr1 q2 fq2 r2 fr2 q3 fq3 r3 fr3 q4 fq4 r4 fr4 q5 fq5 r5 fr5 q6 fq6 r6 fr6
  have hpV2 := HS1.out.put3 (isInt_stb _) (u := .int .i64 3) (Q := isInt 3) rfl
  obtain ⟨V2, hVV2⟩ : ∃ V, V = V1.setCell ⟨b, 3, none⟩ (.int .i64 3) := ⟨_, rfl⟩
  rw [← hVV2] at hpV2 ⊢
  have HS2 := Lib.hid hpV2
  clear hpV2 hVV2
  obtain ⟨q0, q1, q2, q3, q4, q5, q6⟩ := HS2.out.q
  have fq0 := HS2.out.box.free 0
  have fq1 := HS2.out.box.free 1
  have fq2 := HS2.out.box.free 2
  have fq3 := HS2.out.box.free 3
  have fq4 := HS2.out.box.free 4
  have fq5 := HS2.out.box.free 5
  have fq6 := HS2.out.box.free 6
  obtain ⟨r0, r1, r2, r3, r4, r5, r6⟩ := HS2.out.r
  have fr0 := HS2.out.res.free 0
  have fr1 := HS2.out.res.free 1
  have fr2 := HS2.out.res.free 2
  have fr3 := HS2.out.res.free 3
  have fr4 := HS2.out.res.free 4
  have fr5 := HS2.out.res.free 5
  have fr6 := HS2.out.res.free 6
  go_wp2_with fail
  refine bodyPost_ret (v := .tuple _) (results_cell4 rfl _ _ (b + 1) 30 _ (0, 0) _ rfl HS2.out.told.1 Tryd.underlying30 rfl (by kernel_rfl)) rfl (SpT.of ⟨_, _, rfl, HS2.out.told.2.2.p0, HS2.out.told.2.1⟩)
end Go.Proofs.YtihidjbepjeceaaDoor.Ring
