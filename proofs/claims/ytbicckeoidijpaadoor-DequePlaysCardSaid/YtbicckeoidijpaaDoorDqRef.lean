/-
  The reference of package deque: how its slices hold chapter 18's machine; BeginDeque.
-/
import Derived.Test.YtbicckeoidijpaaDoorDqRS
import Derived.Test.YtbicckeoidijpaaDoorRefSet6
import Derived.Test.YtbicckeoidijpaaDoorDequeLkN
import Derived.Test.YtbicckeoidijpaaDoorHeldZ
import Derived.Test.YtbicckeoidijpaaDoorHeldA
import Derived.StillTailTactics
import Derived.Deep.RegionHeld3
namespace Go.Proofs.YtbicckeoidijpaaDoor.Dq
open Go.RowKit Rf

/-- The reference's deque: its cells are as s says. -/
def RD (F : Nat → Prop) (W : World) (n : Nat) (s : DV) (v0 v1 v2 v3 v4 v5 v6 : Value) : Prop := RV F W v0 v1 v2 v3 v4 v5 v6 (nm 8 s.pl) (isInt ((s.T : Nat) : Int)) (isInt s.B) (nm n fun p => ((s.a p : Nat) : Int)) (nm n fun p => ((s.t p : Nat) : Int)) (nm n s.b) (nm n s.v)
theorem RD.mk' {F : Nat → Prop} {W : World} {n : Nat} {s : DV} {v0 v1 v2 v3 v4 v5 v6 : Value} {y1 y2 : Int} {f0 f3 f4 f5 f6 : Nat → Int}
    (rv : RV F W v0 v1 v2 v3 v4 v5 v6 (nm 8 f0) (isInt y1) (isInt y2) (nm n f3) (nm n f4) (nm n f5) (nm n f6)) (e0 : ∀ i, i < 8 → f0 i = s.pl i) (e1 : y1 = ((s.T : Nat) : Int)) (e2 : y2 = s.B)
    (e3 : ∀ p, p < n → f3 p = ((s.a p : Nat) : Int)) (e4 : ∀ p, p < n → f4 p = ((s.t p : Nat) : Int)) (e5 : ∀ p, p < n → f5 p = s.b p) (e6 : ∀ p, p < n → f6 p = s.v p) : RD F W n s v0 v1 v2 v3 v4 v5 v6 := by
  subst e1 e2
  exact ⟨nm_congr rv.p0 fun i hi => (e0 i hi).symm, rv.p1, rv.p2, nm_congr rv.p3 fun i hi => (e3 i hi).symm, nm_congr rv.p4 fun i hi => (e4 i hi).symm, nm_congr rv.p5 fun i hi => (e5 i hi).symm, nm_congr rv.p6 fun i hi => (e6 i hi).symm,
    nm_stb _ _, isInt_stb _, isInt_stb _, nm_stb _ _, nm_stb _ _, nm_stb _ _, nm_stb _ _⟩
/-- What BeginDeque, and StepDeque, hand back. -/
def BgT (F : Nat → Prop) (w w' : World) (n : Nat) (s : DV) (E : Int) (e : Ending) : Prop := ∃ u0 u1 u2 u3 u4 u5 u6, e = .returned (.tuple #[.agg #[u0, u1, u2, u3, u4, u5, u6], .int .i64 E]) ∧ RD F w' n s u0 u1 u2 u3 u4 u5 u6 ∧ Below w.heap.size w w'
theorem BgT.of {F : Nat → Prop} {w w' : World} {n : Nat} {s : DV} {E : Int} {e : Ending} (h : ∃ u0 u1 u2 u3 u4 u5 u6, e = .returned (.tuple #[.agg #[u0, u1, u2, u3, u4, u5, u6], .int .i64 E]) ∧ RD F w' n s u0 u1 u2 u3 u4 u5 u6 ∧ Below w.heap.size w w') : BgT F w w' n s E e := h
def DpT (F : Nat → Prop) (w w' : World) (n : Nat) (s : DV) (D : Bool) (G E : Int) (e : Ending) : Prop := ∃ u0 u1 u2 u3 u4 u5 u6, e = .returned (.tuple #[.agg #[u0, u1, u2, u3, u4, u5, u6], .bool D, .int .i64 G, .int .i64 E]) ∧ RD F w' n s u0 u1 u2 u3 u4 u5 u6 ∧ Below w.heap.size w w'
theorem DpT.of {F : Nat → Prop} {w w' : World} {n : Nat} {s : DV} {D : Bool} {G E : Int} {e : Ending} (h : ∃ u0 u1 u2 u3 u4 u5 u6, e = .returned (.tuple #[.agg #[u0, u1, u2, u3, u4, u5, u6], .bool D, .int .i64 G, .int .i64 E]) ∧ RD F w' n s u0 u1 u2 u3 u4 u5 u6 ∧ Below w.heap.size w w') : DpT F w w' n s D G E e := h
theorem far7 {W : World} {b : Nat} {u0 u1 u2 u3 u4 u5 u6 x0 x1 x2 x3 x4 x5 x6 : Value} (h : W.cell? ⟨b, 0, none⟩ = some u0 ∧ W.cell? ⟨b, 1, none⟩ = some u1 ∧ W.cell? ⟨b, 2, none⟩ = some u2 ∧ W.cell? ⟨b, 3, none⟩ = some u3 ∧ W.cell? ⟨b, 4, none⟩ = some u4 ∧ W.cell? ⟨b, 5, none⟩ = some u5 ∧ W.cell? ⟨b, 6, none⟩ = some u6) : (((((((W.setCell ⟨b + 1, 0, none⟩ x0).setCell ⟨b + 1, 1, none⟩ x1).setCell ⟨b + 1, 2, none⟩ x2).setCell ⟨b + 1, 3, none⟩ x3).setCell ⟨b + 1, 4, none⟩ x4).setCell ⟨b + 1, 5, none⟩ x5).setCell ⟨b + 1, 6, none⟩ x6).drew.cell? ⟨b, 0, none⟩ = some u0 ∧ (((((((W.setCell ⟨b + 1, 0, none⟩ x0).setCell ⟨b + 1, 1, none⟩ x1).setCell ⟨b + 1, 2, none⟩ x2).setCell ⟨b + 1, 3, none⟩ x3).setCell ⟨b + 1, 4, none⟩ x4).setCell ⟨b + 1, 5, none⟩ x5).setCell ⟨b + 1, 6, none⟩ x6).drew.cell? ⟨b, 1, none⟩ = some u1 ∧ (((((((W.setCell ⟨b + 1, 0, none⟩ x0).setCell ⟨b + 1, 1, none⟩ x1).setCell ⟨b + 1, 2, none⟩ x2).setCell ⟨b + 1, 3, none⟩ x3).setCell ⟨b + 1, 4, none⟩ x4).setCell ⟨b + 1, 5, none⟩ x5).setCell ⟨b + 1, 6, none⟩ x6).drew.cell? ⟨b, 2, none⟩ = some u2 ∧ (((((((W.setCell ⟨b + 1, 0, none⟩ x0).setCell ⟨b + 1, 1, none⟩ x1).setCell ⟨b + 1, 2, none⟩ x2).setCell ⟨b + 1, 3, none⟩ x3).setCell ⟨b + 1, 4, none⟩ x4).setCell ⟨b + 1, 5, none⟩ x5).setCell ⟨b + 1, 6, none⟩ x6).drew.cell? ⟨b, 3, none⟩ = some u3 ∧ (((((((W.setCell ⟨b + 1, 0, none⟩ x0).setCell ⟨b + 1, 1, none⟩ x1).setCell ⟨b + 1, 2, none⟩ x2).setCell ⟨b + 1, 3, none⟩ x3).setCell ⟨b + 1, 4, none⟩ x4).setCell ⟨b + 1, 5, none⟩ x5).setCell ⟨b + 1, 6, none⟩ x6).drew.cell? ⟨b, 4, none⟩ = some u4 ∧ (((((((W.setCell ⟨b + 1, 0, none⟩ x0).setCell ⟨b + 1, 1, none⟩ x1).setCell ⟨b + 1, 2, none⟩ x2).setCell ⟨b + 1, 3, none⟩ x3).setCell ⟨b + 1, 4, none⟩ x4).setCell ⟨b + 1, 5, none⟩ x5).setCell ⟨b + 1, 6, none⟩ x6).drew.cell? ⟨b, 5, none⟩ = some u5 ∧ (((((((W.setCell ⟨b + 1, 0, none⟩ x0).setCell ⟨b + 1, 1, none⟩ x1).setCell ⟨b + 1, 2, none⟩ x2).setCell ⟨b + 1, 3, none⟩ x3).setCell ⟨b + 1, 4, none⟩ x4).setCell ⟨b + 1, 5, none⟩ x5).setCell ⟨b + 1, 6, none⟩ x6).drew.cell? ⟨b, 6, none⟩ = some u6 := by
  have hne : b ≠ b + 1 := by omega
  have f : ∀ (V : World) (i j : Nat) (x : Value), (V.setCell ⟨b + 1, j, none⟩ x).cell? ⟨b, i, none⟩ = V.cell? ⟨b, i, none⟩ := fun V i j x => World.cell?_of_block (w := V) (Below.heap_setCell V ⟨b + 1, j, none⟩ x b hne)
  obtain ⟨h0, h1, h2, h3, h4, h5, h6⟩ := h
  refine ⟨?_, ?_, ?_, ?_, ?_, ?_, ?_⟩
  all_goals rw [World.cell?_drew, f, f, f, f, f, f, f]; assumption
theorem told_drew {F : Nat → Prop} {w X : World} {k : Nat} {t : TypeId} {cs : Array Value} {v0 v1 v2 v3 v4 v5 v6 : Value} {P0 P1 P2 P3 P4 P5 P6 : Pd} (h : Block X k t cs ∧ Below w.heap.size w X ∧ RV F X v0 v1 v2 v3 v4 v5 v6 P0 P1 P2 P3 P4 P5 P6) : Block X.drew k t cs ∧ Below w.heap.size w X.drew ∧ RV F X.drew v0 v1 v2 v3 v4 v5 v6 P0 P1 P2 P3 P4 P5 P6 := ⟨h.1, h.2.1.drew, h.2.2.below (Below.refl _ _).drew⟩
set_option maxHeartbeats 8000000 in
set_option maxRecDepth 100000 in
theorem refbegin_some {F : Nat → Prop} {n : Nat} {s : DV} {v0 v1 v2 v3 v4 v5 v6 : Value} (w : World) (h : RD F w n s v0 v1 v2 v3 v4 v5 v6) (hF : ∀ b, F b → b < w.heap.size) (h4 : n ≤ 4) {q : Nat} (hq : q < n) (ha : s.a q = 0) (l : Nat) (x : Int) :
    Calls Tryd.prog 8 #[.agg #[v0, v1, v2, v3, v4, v5, v6], .int .i64 (q : Int), .int .i64 (l : Int), .int .i64 x] w fun e w' => BgT F w w' n (dvbeg s q l x) 0 e := by
  have e1 : v1 = .int .i64 ((s.T : Nat) : Int) := h.p1
  have e2 : v2 = .int .i64 s.B := h.p2
  subst e1 e2
  obtain ⟨A0, c0, rfl⟩ := SL.form h.p0
  obtain ⟨A3, c3, rfl⟩ := SL.form h.p3
  obtain ⟨A4, c4, rfl⟩ := SL.form h.p4
  obtain ⟨A5, c5, rfl⟩ := SL.form h.p5
  obtain ⟨A6, c6, rfl⟩ := SL.form h.p6
  have hst := RS.start h hF
  obtain ⟨b, hb⟩ : ∃ b, b = w.heap.size := ⟨_, rfl⟩
  obtain ⟨W0, hW0⟩ : ∃ W0, W0 = (w.alloc (.cells #[.slice A0 8 c0, .int .i64 ((s.T : Nat) : Int), .int .i64 s.B, .slice A3 n c3, .slice A4 n c4, .slice A5 n c5, .slice A6 n c6] 31)).alloc (.cells #[.slice none 0 0, .int .i64 0, .int .i64 0, .slice none 0 0, .slice none 0 0, .slice none 0 0, .slice none 0 0] 31) := ⟨_, rfl⟩
  rw [← hW0, ← hb] at hst
  have hwn : IntKind.i64.wrap ((n : Int) - 1) = (n : Int) - 1 := IntWalk.i64_in _ (by omega)
  have HS0 := Lib.hid hst
  have HW0 := Lib.hid hW0
  have HBW := Lib.hid hb.symm
  clear hst h hF hb hW0
  have hqI : (q : Int) < n := by omega
  obtain ⟨b3, o3, rfl, _, _, hct⟩ := nm_at HS0.out.v.p3 hq
  rw [ha] at hct
  go_enter Tryd.func8, Tryd.ntmps8
  go_upto_region 1 with fail
  rw [← HW0.out, HBW.out]
  obtain ⟨q0, q1, q2, q3, q4, q5, q6⟩ := HS0.out.q
  have fq0 := HS0.out.box.free 0
  have fq1 := HS0.out.box.free 1
  have fq2 := HS0.out.box.free 2
  have fq3 := HS0.out.box.free 3
  have fq4 := HS0.out.box.free 4
  have fq5 := HS0.out.box.free 5
  have fq6 := HS0.out.box.free 6
  obtain ⟨r0, r1, r2, r3, r4, r5, r6⟩ := HS0.out.r
  have fr0 := HS0.out.res.free 0
  have fr1 := HS0.out.res.free 1
  have fr2 := HS0.out.res.free 2
  have fr3 := HS0.out.res.free 3
  have fr4 := HS0.out.res.free 4
  have fr5 := HS0.out.res.free 5
  have fr6 := HS0.out.res.free 6
  go_upto_region 4 with (go_at_call 19; (with_reducible refine (set_nm (l : Int) HS0.out.hF HS0.out.v.p3 hq (by omega)).mono ?_); rintro e w1 ⟨E1, e1, rfl, hn, hb⟩; have HN1 := Lib.hid hn; have HC1 := Lib.hid (HS0.out.call hb); have qd := HC1.out.q.2.2.2.1; have fd1 := HC1.out.box.free 3; clear hn hb)
  clear hct
  clear q0 fq0 r0 fr0 q1 fq1 r1 fr1 q2 fq2 r2 fr2 q3 fq3 r3 fr3 q4 fq4 r4 fr4 q5 fq5 r5 fr5 q6 fq6 r6 fr6
  clear qd fd1
  have hs1 := HC1.out.put3 (nm_stb _ _) HN1.out
  obtain ⟨V1, hV1⟩ : ∃ V, V = w1.setCell ⟨b, 3, none⟩ (.slice E1 n e1) := ⟨_, rfl⟩
  rw [← hV1] at hs1 ⊢
  have HS1 := Lib.hid hs1
  clear hs1 hV1 HC1 HN1
  obtain ⟨q0, q1, q2, q3, q4, q5, q6⟩ := HS1.out.q
  have fq0 := HS1.out.box.free 0
  have fq1 := HS1.out.box.free 1
  have fq2 := HS1.out.box.free 2
  have fq3 := HS1.out.box.free 3
  have fq4 := HS1.out.box.free 4
  have fq5 := HS1.out.box.free 5
  have fq6 := HS1.out.box.free 6
  obtain ⟨r0, r1, r2, r3, r4, r5, r6⟩ := HS1.out.r
  have fr0 := HS1.out.res.free 0
  have fr1 := HS1.out.res.free 1
  have fr2 := HS1.out.res.free 2
  have fr3 := HS1.out.res.free 3
  have fr4 := HS1.out.res.free 4
  have fr5 := HS1.out.res.free 5
  have fr6 := HS1.out.res.free 6
  go_upto_region 5 with (go_at_call 19; (with_reducible refine (set_nm x HS1.out.hF HS1.out.v.p6 hq (by omega)).mono ?_); rintro e w2 ⟨E2, e2, rfl, hn, hb⟩; have HN2 := Lib.hid hn; have HC2 := Lib.hid (HS1.out.call hb); have qd := HC2.out.q.2.2.2.2.2.2; have fd2 := HC2.out.box.free 6; clear hn hb)
  clear q0 fq0 r0 fr0 q1 fq1 r1 fr1 q2 fq2 r2 fr2 q3 fq3 r3 fr3 q4 fq4 r4 fr4 q5 fq5 r5 fr5 q6 fq6 r6 fr6
  clear qd fd2
  have hs2 := HC2.out.put6 (nm_stb _ _) HN2.out
  obtain ⟨V2, hV2⟩ : ∃ V, V = w2.setCell ⟨b, 6, none⟩ (.slice E2 n e2) := ⟨_, rfl⟩
  rw [← hV2] at hs2 ⊢
  have HS2 := Lib.hid hs2
  clear hs2 hV2 HC2 HN2
  obtain ⟨q0, q1, q2, q3, q4, q5, q6⟩ := HS2.out.q
  have fq0 := HS2.out.box.free 0
  have fq1 := HS2.out.box.free 1
  have fq2 := HS2.out.box.free 2
  have fq3 := HS2.out.box.free 3
  have fq4 := HS2.out.box.free 4
  have fq5 := HS2.out.box.free 5
  have fq6 := HS2.out.box.free 6
  obtain ⟨r0, r1, r2, r3, r4, r5, r6⟩ := HS2.out.r
  have fr0 := HS2.out.res.free 0
  have fr1 := HS2.out.res.free 1
  have fr2 := HS2.out.res.free 2
  have fr3 := HS2.out.res.free 3
  have fr4 := HS2.out.res.free 4
  have fr5 := HS2.out.res.free 5
  have fr6 := HS2.out.res.free 6
  go_wp2
  have hrv := HS2.out.told.2.2
  refine bodyPost_ret (v := .tuple _) (results_cell2 rfl _ _ (b + 1) 31 _ (0, 0) _ rfl HS2.out.told.1 Tryd.underlying31 rfl (by kernel_rfl)) rfl (BgT.of ⟨_, _, _, _, _, _, _, rfl, ?rd, HS2.out.told.2.1⟩)
  case rd =>
    refine RD.mk' hrv ?_ rfl rfl ?_ ?_ ?_ ?_
    all_goals first | (intro p _; rfl) | (intro p _; by_cases e : p = q; (subst e; simp only [dvbeg, rput_same, dput_same] <;> rfl); (simp only [dvbeg, rput_other e, dput_other e]))
set_option maxHeartbeats 8000000 in
set_option maxRecDepth 100000 in
theorem refbegin_busy {F : Nat → Prop} {n : Nat} {s : DV} {v0 v1 v2 v3 v4 v5 v6 : Value} (w : World) (h : RD F w n s v0 v1 v2 v3 v4 v5 v6) (hF : ∀ b, F b → b < w.heap.size) (h4 : n ≤ 4) {q : Nat} (hq : q < n) (ha : s.a q ≠ 0) (l : Nat) (x : Int) :
    Calls Tryd.prog 8 #[.agg #[v0, v1, v2, v3, v4, v5, v6], .int .i64 (q : Int), .int .i64 (l : Int), .int .i64 x] w fun e w' => BgT F w w' n s 7 e := by
  have e1 : v1 = .int .i64 ((s.T : Nat) : Int) := h.p1
  have e2 : v2 = .int .i64 s.B := h.p2
  subst e1 e2
  obtain ⟨A0, c0, rfl⟩ := SL.form h.p0
  obtain ⟨A3, c3, rfl⟩ := SL.form h.p3
  obtain ⟨A4, c4, rfl⟩ := SL.form h.p4
  obtain ⟨A5, c5, rfl⟩ := SL.form h.p5
  obtain ⟨A6, c6, rfl⟩ := SL.form h.p6
  have hst := RS.start h hF
  obtain ⟨b, hb⟩ : ∃ b, b = w.heap.size := ⟨_, rfl⟩
  obtain ⟨W0, hW0⟩ : ∃ W0, W0 = (w.alloc (.cells #[.slice A0 8 c0, .int .i64 ((s.T : Nat) : Int), .int .i64 s.B, .slice A3 n c3, .slice A4 n c4, .slice A5 n c5, .slice A6 n c6] 31)).alloc (.cells #[.slice none 0 0, .int .i64 0, .int .i64 0, .slice none 0 0, .slice none 0 0, .slice none 0 0, .slice none 0 0] 31) := ⟨_, rfl⟩
  rw [← hW0, ← hb] at hst
  have hwn : IntKind.i64.wrap ((n : Int) - 1) = (n : Int) - 1 := IntWalk.i64_in _ (by omega)
  have HS0 := Lib.hid hst
  have HW0 := Lib.hid hW0
  have HBW := Lib.hid hb.symm
  clear hst h hF hb hW0
  have hqI : (q : Int) < n := by omega
  obtain ⟨b3, o3, rfl, _, _, hct⟩ := nm_at HS0.out.v.p3 hq
  have hI : (((s.a q : Nat) : Int) != 0) = true := by simp; omega
  clear ha
  go_enter Tryd.func8, Tryd.ntmps8
  go_upto_region 1 with fail
  rw [← HW0.out, HBW.out]
  obtain ⟨q0, q1, q2, q3, q4, q5, q6⟩ := HS0.out.q
  have fq0 := HS0.out.box.free 0
  have fq1 := HS0.out.box.free 1
  have fq2 := HS0.out.box.free 2
  have fq3 := HS0.out.box.free 3
  have fq4 := HS0.out.box.free 4
  have fq5 := HS0.out.box.free 5
  have fq6 := HS0.out.box.free 6
  obtain ⟨r0, r1, r2, r3, r4, r5, r6⟩ := HS0.out.r
  have fr0 := HS0.out.res.free 0
  have fr1 := HS0.out.res.free 1
  have fr2 := HS0.out.res.free 2
  have fr3 := HS0.out.res.free 3
  have fr4 := HS0.out.res.free 4
  have fr5 := HS0.out.res.free 5
  have fr6 := HS0.out.res.free 6
  go_wp2_with fail
  refine bodyPost_ret (v := .tuple _) (results_cell2 rfl _ _ (b + 1) 31 _ (0, 0) _ rfl HS0.out.told.1 Tryd.underlying31 rfl (by kernel_rfl)) rfl (BgT.of ⟨_, _, _, _, _, _, _, rfl, HS0.out.told.2.2, HS0.out.told.2.1⟩)
end Go.Proofs.YtbicckeoidijpaaDoor.Dq
