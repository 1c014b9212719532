/-
  The reference of package ring: sg6.
-/
import Derived.Test.YtihidjbepjeceaaDoorRngRefH
namespace Go.Proofs.YtihidjbepjeceaaDoor.Ring
open Go.RowKit Rf

set_option maxHeartbeats 8000000 in
set_option maxRecDepth 100000 in
theorem sg6 {F : Nat → Prop} {n : Nat} {s : RGS} {A0 : Option Addr} {c0 : Nat} (w : World) (h : pn n s F w (.slice A0 n c0)) (hF : ∀ b, F b → b < w.heap.size) {t1 : Nat} (ha : s.ga = 6) (ht : t1 = s.hd + 1) (hb6 : s.hd ≤ 1000000) :
    Calls Tryd.prog 8 #[.agg #[.slice A0 n c0, .int .i64 ((s.hd : Nat) : Int), .int .i64 ((s.tl : Nat) : Int), .int .i64 ((s.pa : Nat) : Int), .int .i64 ((s.ga : Nat) : Int), .int .i64 ((s.pv : Nat) : Int), .int .i64 ((s.gv : Nat) : Int)]] w fun e w' => SpT F w w' n ⟨s.pa, s.pv, 0, s.gv, t1, s.tl, s.pl, s.puts, s.out, s.have'⟩ (.bool true) (.int .i64 ((s.gv : Nat) : Int)) (.int .i64 0) e := by
  have hst := RS.start (start_ring h) hF
  obtain ⟨b, hb⟩ : ∃ b, b = w.heap.size := ⟨_, rfl⟩
  obtain ⟨W0, hW0⟩ : ∃ W0, W0 = (w.alloc (.cells #[.slice A0 n c0, .int .i64 ((s.hd : Nat) : Int), .int .i64 ((s.tl : Nat) : Int), .int .i64 ((s.pa : Nat) : Int), .int .i64 ((s.ga : Nat) : Int), .int .i64 ((s.pv : Nat) : Int), .int .i64 ((s.gv : Nat) : Int)] 30)).alloc (.cells #[.slice none 0 0, .int .i64 0, .int .i64 0, .int .i64 0, .int .i64 0, .int .i64 0, .int .i64 0] 30) := ⟨_, rfl⟩
  rw [← hW0, ← hb] at hst
  have haI : ((s.ga : Nat) : Int) = 6 := by omega
  rw [haI] at hst hW0 ⊢
  have hw : IntKind.i64.wrap ((s.hd : Int) + 1) = (t1 : Int) := (IntWalk.i64_in _ (by omega)).trans (by omega)
  have HS0 := Lib.hid hst
  have HW0 := Lib.hid hW0
  have HBW := Lib.hid hb.symm
  clear hst h hF hb hW0 ha haI ht hb6
  go_enter Tryd.func8, Tryd.ntmps8
  go_upto_region 1 with fail
  rw [← HW0.out, HBW.out]
  obtain ⟨q0, q1, q2, q3, q4, q5, q6⟩ := HS0.out.q
  have fq0 := HS0.out.box.free 0
  have fq1 := HS0.out.box.free 1
  have fq2 := HS0.out.box.free 2
  have fq3 := HS0.out.box.free 3
  have fq4 := HS0.out.box.free 4
  have fq5 := HS0.out.box.free 5
  have fq6 := HS0.out.box.free 6
  obtain ⟨r0, r1, r2, r3, r4, r5, r6⟩ := HS0.out.r
  have fr0 := HS0.out.res.free 0
  have fr1 := HS0.out.res.free 1
  have fr2 := HS0.out.res.free 2
  have fr3 := HS0.out.res.free 3
  have fr4 := HS0.out.res.free 4
  have fr5 := HS0.out.res.free 5
  have fr6 := HS0.out.res.free 6
  go_upto_region 10 with fail
  clear q0 fq0 r0 fr0 q1 fq1 r1 fr1 q2 fq2 r2 fr2 q3 fq3 r3 fr3 q4 fq4 r4 fr4 q5 fq5 r5 fr5 q6 fq6 r6 fr6
  have hpV1 := HS0.out.put1 (isInt_stb _) (u := .int .i64 (t1 : Int)) (Q := isInt (t1 : Int)) rfl
  obtain ⟨V1, hVV1⟩ : ∃ V, V = W0.setCell ⟨b, 1, none⟩ (.int .i64 (t1 : Int)) := ⟨_, rfl⟩
  rw [← hVV1] at hpV1 ⊢
  have HS1 := Lib.hid hpV1
  clear hpV1 hVV1
  obtain ⟨q0, q1, q2, q3, q4, q5, q6⟩ := HS1.out.q
  have fq0 := HS1.out.box.free 0
  have fq1 := HS1.out.box.free 1
  have fq2 := HS1.out.box.free 2
  have fq3 := HS1.out.box.free 3
  have fq4 := HS1.out.box.free 4
  have fq5 := HS1.out.box.free 5
  have fq6 := HS1.out.box.free 6
  obtain ⟨r0, r1, r2, r3, r4, r5, r6⟩ := HS1.out.r
  have fr0 := HS1.out.res.free 0
  have fr1 := HS1.out.res.free 1
  have fr2 := HS1.out.res.free 2
  have fr3 := HS1.out.res.free 3
  have fr4 := HS1.out.res.free 4
  have fr5 := HS1.out.res.free 5
  have fr6 := HS1.out.res.free 6
  go_upto_region 11 with fail
  clear q0 fq0 r0 fr0 q1 fq1 r1 fr1 q2 fq2 r2 fr2 q3 fq3 r3 fr3 q4 fq4 r4 fr4 q5 fq5 r5 fr5 q6 fq6 r6 fr6
  have hpV2 := HS1.out.put4 (isInt_stb _) (u := .int .i64 0) (Q := isInt 0) rfl
  obtain ⟨V2, hVV2⟩ : ∃ V, V = V1.setCell ⟨b, 4, none⟩ (.int .i64 0) := ⟨_, rfl⟩
  rw [← hVV2] at hpV2 ⊢
  have HS2 := Lib.hid hpV2
  clear hpV2 hVV2
  obtain ⟨q0, q1, q2, q3, q4, q5, q6⟩ := HS2.out.q
  have fq0 := HS2.out.box.free 0
  have fq1 := HS2.out.box.free 1
  have fq2 := HS2.out.box.free 2
  have fq3 := HS2.out.box.free 3
  have fq4 := HS2.out.box.free 4
  have fq5 := HS2.out.box.free 5
  have fq6 := HS2.out.box.free 6
  obtain ⟨r0, r1, r2, r3, r4, r5, r6⟩ := HS2.out.r
  have fr0 := HS2.out.res.free 0
  have fr1 := HS2.out.res.free 1
  have fr2 := HS2.out.res.free 2
  have fr3 := HS2.out.res.free 3
  have fr4 := HS2.out.res.free 4
  have fr5 := HS2.out.res.free 5
  have fr6 := HS2.out.res.free 6
  have HS3 := Lib.hid (HS2.out.call (Below.refl V2.heap.size V2).drew)
  have HSS : Hid ((fun W : World => W.cell? ⟨b, 0, none⟩ = some (.slice A0 n c0) ∧ W.cell? ⟨b, 1, none⟩ = some (.int .i64 ((t1 : Nat) : Int)) ∧ W.cell? ⟨b, 2, none⟩ = some (.int .i64 ((s.tl : Nat) : Int)) ∧ W.cell? ⟨b, 3, none⟩ = some (.int .i64 ((s.pa : Nat) : Int)) ∧ W.cell? ⟨b, 4, none⟩ = some (.int .i64 0) ∧ W.cell? ⟨b, 5, none⟩ = some (.int .i64 ((s.pv : Nat) : Int)) ∧ W.cell? ⟨b, 6, none⟩ = some (.int .i64 ((s.gv : Nat) : Int))) V2.drew) := Lib.hid HS3.out.q
  have HST : Hid ((fun W : World => W.cell? ⟨b, 0, none⟩ = some (.slice A0 n c0) ∧ W.cell? ⟨b, 1, none⟩ = some (.int .i64 ((t1 : Nat) : Int)) ∧ W.cell? ⟨b, 2, none⟩ = some (.int .i64 ((s.tl : Nat) : Int)) ∧ W.cell? ⟨b, 3, none⟩ = some (.int .i64 ((s.pa : Nat) : Int)) ∧ W.cell? ⟨b, 4, none⟩ = some (.int .i64 0) ∧ W.cell? ⟨b, 5, none⟩ = some (.int .i64 ((s.pv : Nat) : Int)) ∧ W.cell? ⟨b, 6, none⟩ = some (.int .i64 ((s.gv : Nat) : Int))) (((((((V2.setCell ⟨b + 1, 0, none⟩ (.slice A0 n c0)).setCell ⟨b + 1, 1, none⟩ (.int .i64 ((t1 : Nat) : Int))).setCell ⟨b + 1, 2, none⟩ (.int .i64 ((s.tl : Nat) : Int))).setCell ⟨b + 1, 3, none⟩ (.int .i64 ((s.pa : Nat) : Int))).setCell ⟨b + 1, 4, none⟩ (.int .i64 0)).setCell ⟨b + 1, 5, none⟩ (.int .i64 ((s.pv : Nat) : Int))).setCell ⟨b + 1, 6, none⟩ (.int .i64 ((s.gv : Nat) : Int))).drew) := Lib.hid (far7 HS2.out.q)
  have HTD := Lib.hid (told_drew HS2.out.told)
  refine wp_region_held_drew (S := (fun W : World => W.cell? ⟨b, 0, none⟩ = some (.slice A0 n c0) ∧ W.cell? ⟨b, 1, none⟩ = some (.int .i64 ((t1 : Nat) : Int)) ∧ W.cell? ⟨b, 2, none⟩ = some (.int .i64 ((s.tl : Nat) : Int)) ∧ W.cell? ⟨b, 3, none⟩ = some (.int .i64 ((s.pa : Nat) : Int)) ∧ W.cell? ⟨b, 4, none⟩ = some (.int .i64 0) ∧ W.cell? ⟨b, 5, none⟩ = some (.int .i64 ((s.pv : Nat) : Int)) ∧ W.cell? ⟨b, 6, none⟩ = some (.int .i64 ((s.gv : Nat) : Int)))) (by kernel_rfl) ?_ (fun hHeld => ?_)
  · exact HSS.out
  refine wpAnyH_take (i := 0) (oi := { dst := some 44, op := Op.load 30 (Operand.tmp 1), type := 30, pos := "mach.go:447", after := #[], guard := none }) (v := .agg #[.slice A0 n c0, .int .i64 ((t1 : Nat) : Int), .int .i64 ((s.tl : Nat) : Int), .int .i64 ((s.pa : Nat) : Int), .int .i64 0, .int .i64 ((s.pv : Nat) : Int), .int .i64 ((s.gv : Nat) : Int)]) rfl (by kernel_rfl) (by kernel_rfl) (by kernel_rfl) (fun _ _ _ h => h) (Or.inl ⟨by rfl, fun W hSw => by (try dsimp only at hSw); go_simp⟩) (by assumption) ?_
  try simp only [Act.put, List.setIfInBounds_toArray, List.set_cons_zero, List.set_cons_succ]
  refine wpAnyH_take (i := 1) (oi := { dst := some 45, op := Op.fieldAddr 30 (Operand.tmp 1) 6, type := 0, pos := "mach.go:447", after := #[{ on := 4, ground := Ground.gcOnly Departure.lateStores }], guard := none }) (v := .pointer (some ⟨b, 6, none⟩)) rfl (by kernel_rfl) (by kernel_rfl) (by kernel_rfl) (fun _ _ _ h => h) (Or.inl ⟨by rfl, fun W hSw => by (try dsimp only at hSw); go_simp⟩) (by assumption) ?_
  try simp only [Act.put, List.setIfInBounds_toArray, List.set_cons_zero, List.set_cons_succ]
  refine wpAnyH_take (i := 2) (oi := { dst := some 46, op := Op.load 3 (Operand.tmp 45), type := 3, pos := "mach.go:447", after := #[{ on := 1, ground := Ground.data }, { on := 4, ground := Ground.gcOnly Departure.lateStores }], guard := none }) (v := .int .i64 ((s.gv : Nat) : Int)) rfl (by kernel_rfl) (by kernel_rfl) (by kernel_rfl) (fun _ _ _ h => h) (Or.inl ⟨by rfl, fun W hSw => by (try dsimp only at hSw); go_simp⟩) (by assumption) ?_
  try simp only [Act.put, List.setIfInBounds_toArray, List.set_cons_zero, List.set_cons_succ]
  refine held_any 3 (o := { dst := none, op := Op.store 30 (Operand.tmp 2) (Operand.tmp 44), type := 0, pos := "mach.go:447", after := #[{ on := 0, ground := Ground.data }, { on := 0, ground := Ground.phase }, { on := 1, ground := Ground.textOnly Departure.lateStores }, { on := 2, ground := Ground.textOnly Departure.lateStores }], guard := none }) ?hr_2 ?ho_2 ?hw_2 undef (((((((V2.setCell ⟨b + 1, 0, none⟩ (.slice A0 n c0)).setCell ⟨b + 1, 1, none⟩ (.int .i64 ((t1 : Nat) : Int))).setCell ⟨b + 1, 2, none⟩ (.int .i64 ((s.tl : Nat) : Int))).setCell ⟨b + 1, 3, none⟩ (.int .i64 ((s.pa : Nat) : Int))).setCell ⟨b + 1, 4, none⟩ (.int .i64 0)).setCell ⟨b + 1, 5, none⟩ (.int .i64 ((s.pv : Nat) : Int))).setCell ⟨b + 1, 6, none⟩ (.int .i64 ((s.gv : Nat) : Int))).drew ?hy_2 ?hS_2 ?h_2
  case hr_2 => kernel_rfl
  case ho_2 => rfl
  case hw_2 => rfl
  case hy_2 => (intro K hK; go_simp; exact hK)
  case hS_2 => exact HST.out
  clear hHeld
  have hHeld := HST.out
  try simp only [Act.put]
  refine wpAnyH_take (i := 4) (oi := { dst := some 3, op := Op.assign (Operand.const (Value.bool true)), type := 4, pos := "mach.go:447", after := #[{ on := 3, ground := Ground.chain }, { on := 0, ground := Ground.phase }, { on := 1, ground := Ground.textOnly Departure.lateStores }, { on := 2, ground := Ground.textOnly Departure.lateStores }, { on := 3, ground := Ground.phase }], guard := none }) (v := .bool true) rfl (by kernel_rfl) (by kernel_rfl) (by kernel_rfl) (fun _ _ _ h => h) (Or.inl ⟨by rfl, fun W hSw => by (try dsimp only at hSw); go_simp⟩) (by assumption) ?_
  try simp only [Act.put, List.setIfInBounds_toArray, List.set_cons_zero, List.set_cons_succ]
  refine wpAnyH_take (i := 5) (oi := { dst := some 4, op := Op.assign (Operand.tmp 46), type := 3, pos := "mach.go:447", after := #[{ on := 2, ground := Ground.data }, { on := 4, ground := Ground.chain }, { on := 0, ground := Ground.phase }, { on := 1, ground := Ground.phase }, { on := 2, ground := Ground.phase }, { on := 3, ground := Ground.phase }, { on := 4, ground := Ground.phase }], guard := none }) (v := .int .i64 ((s.gv : Nat) : Int)) rfl (by kernel_rfl) (by kernel_rfl) (by kernel_rfl) (fun _ _ _ h => h) (Or.inl ⟨by rfl, fun W hSw => by (try dsimp only at hSw); go_simp⟩) (by assumption) ?_
  try simp only [Act.put, List.setIfInBounds_toArray, List.set_cons_zero, List.set_cons_succ]
  refine wpAnyH_take (i := 6) (oi := { dst := some 5, op := Op.assign (Operand.const (Value.int IntKind.i64 0)), type := 3, pos := "mach.go:447", after := #[{ on := 5, ground := Ground.chain }, { on := 0, ground := Ground.phase }, { on := 1, ground := Ground.phase }, { on := 2, ground := Ground.phase }, { on := 3, ground := Ground.phase }, { on := 4, ground := Ground.phase }, { on := 5, ground := Ground.phase }], guard := none }) (v := .int .i64 0) rfl (by kernel_rfl) (by kernel_rfl) (by kernel_rfl) (fun _ _ _ h => h) (Or.inl ⟨by rfl, fun W hSw => by (try dsimp only at hSw); go_simp⟩) (by assumption) ?_
  try simp only [Act.put, List.setIfInBounds_toArray, List.set_cons_zero, List.set_cons_succ]
  refine wpAnyH_done (by kernel_rfl) ?_ _
  go_wp2_with fail
  refine bodyPost_ret (v := .tuple _) (results_cell4 rfl _ _ (b + 1) 30 _ (0, 0) _ rfl HTD.out.1 Tryd.underlying30 rfl (by kernel_rfl)) rfl (SpT.of ⟨_, _, rfl, HTD.out.2.2.p0, HTD.out.2.1⟩)
end Go.Proofs.YtihidjbepjeceaaDoor.Ring
