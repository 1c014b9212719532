/-
  The reference of package fifo: at, BeginFifo.
-/
import Derived.Test.YtnplhjbbkccdnaaDoorFifRef
import Derived.Test.YtnplhjbbkccdnaaDoorFifoLkN
import Derived.Deep.RegionHeld3
namespace Go.Proofs.YtnplhjbbkccdnaaDoor.Fif
open Go.RowKit Rf

theorem RS.told2 {F : Nat → Prop} {w W : World} {b : Nat} {v0 v1 v2 v3 v4 v5 v6 v7 v8 u0 u1 u2 u3 u4 u5 u6 u7 u8 : Value} {P0 P1 P2 P3 P4 P5 P6 P7 P8 Q0 Q1 Q2 Q3 Q4 Q5 Q6 Q7 Q8 : Pd} (h : RS F w W b v0 v1 v2 v3 v4 v5 v6 v7 v8 P0 P1 P2 P3 P4 P5 P6 P7 P8) (hu : RV (FB F b) W u0 u1 u2 u3 u4 u5 u6 u7 u8 Q0 Q1 Q2 Q3 Q4 Q5 Q6 Q7 Q8) : Block (((((((((W.setCell ⟨b + 1, 0, none⟩ u0).setCell ⟨b + 1, 1, none⟩ u1).setCell ⟨b + 1, 2, none⟩ u2).setCell ⟨b + 1, 3, none⟩ u3).setCell ⟨b + 1, 4, none⟩ u4).setCell ⟨b + 1, 5, none⟩ u5).setCell ⟨b + 1, 6, none⟩ u6).setCell ⟨b + 1, 7, none⟩ u7).setCell ⟨b + 1, 8, none⟩ u8) (b + 1) 54 #[u0, u1, u2, u3, u4, u5, u6, u7, u8] ∧ Below w.heap.size w (((((((((W.setCell ⟨b + 1, 0, none⟩ u0).setCell ⟨b + 1, 1, none⟩ u1).setCell ⟨b + 1, 2, none⟩ u2).setCell ⟨b + 1, 3, none⟩ u3).setCell ⟨b + 1, 4, none⟩ u4).setCell ⟨b + 1, 5, none⟩ u5).setCell ⟨b + 1, 6, none⟩ u6).setCell ⟨b + 1, 7, none⟩ u7).setCell ⟨b + 1, 8, none⟩ u8) ∧ RV F (((((((((W.setCell ⟨b + 1, 0, none⟩ u0).setCell ⟨b + 1, 1, none⟩ u1).setCell ⟨b + 1, 2, none⟩ u2).setCell ⟨b + 1, 3, none⟩ u3).setCell ⟨b + 1, 4, none⟩ u4).setCell ⟨b + 1, 5, none⟩ u5).setCell ⟨b + 1, 6, none⟩ u6).setCell ⟨b + 1, 7, none⟩ u7).setCell ⟨b + 1, 8, none⟩ u8) u0 u1 u2 u3 u4 u5 u6 u7 u8 Q0 Q1 Q2 Q3 Q4 Q5 Q6 Q7 Q8 := by
  have hlo := h.lo
  have hb : w.heap.size ≤ b + 1 := by omega
  have hp : FB F b (b + 1) := Or.inr (Or.inr rfl)
  refine ⟨?_, (((((((((h.bel.setCell hb _).setCell hb _).setCell hb _).setCell hb _).setCell hb _).setCell hb _).setCell hb _).setCell hb _).setCell hb _), ?_⟩
  · have := (((((((((h.res.put 0 u0).put 1 u1).put 2 u2).put 3 u3).put 4 u4).put 5 u5).put 6 u6).put 7 u7).put 8 u8)
    simpa using this
  · exact (⟨hu.s0.put (p := ⟨b + 1, 8, none⟩) hp u8 (hu.s0.put (p := ⟨b + 1, 7, none⟩) hp u7 (hu.s0.put (p := ⟨b + 1, 6, none⟩) hp u6 (hu.s0.put (p := ⟨b + 1, 5, none⟩) hp u5 (hu.s0.put (p := ⟨b + 1, 4, none⟩) hp u4 (hu.s0.put (p := ⟨b + 1, 3, none⟩) hp u3 (hu.s0.put (p := ⟨b + 1, 2, none⟩) hp u2 (hu.s0.put (p := ⟨b + 1, 1, none⟩) hp u1 (hu.s0.put (p := ⟨b + 1, 0, none⟩) hp u0 (hu.p0))))))))), hu.s1.put (p := ⟨b + 1, 8, none⟩) hp u8 (hu.s1.put (p := ⟨b + 1, 7, none⟩) hp u7 (hu.s1.put (p := ⟨b + 1, 6, none⟩) hp u6 (hu.s1.put (p := ⟨b + 1, 5, none⟩) hp u5 (hu.s1.put (p := ⟨b + 1, 4, none⟩) hp u4 (hu.s1.put (p := ⟨b + 1, 3, none⟩) hp u3 (hu.s1.put (p := ⟨b + 1, 2, none⟩) hp u2 (hu.s1.put (p := ⟨b + 1, 1, none⟩) hp u1 (hu.s1.put (p := ⟨b + 1, 0, none⟩) hp u0 (hu.p1))))))))), hu.s2.put (p := ⟨b + 1, 8, none⟩) hp u8 (hu.s2.put (p := ⟨b + 1, 7, none⟩) hp u7 (hu.s2.put (p := ⟨b + 1, 6, none⟩) hp u6 (hu.s2.put (p := ⟨b + 1, 5, none⟩) hp u5 (hu.s2.put (p := ⟨b + 1, 4, none⟩) hp u4 (hu.s2.put (p := ⟨b + 1, 3, none⟩) hp u3 (hu.s2.put (p := ⟨b + 1, 2, none⟩) hp u2 (hu.s2.put (p := ⟨b + 1, 1, none⟩) hp u1 (hu.s2.put (p := ⟨b + 1, 0, none⟩) hp u0 (hu.p2))))))))), hu.s3.put (p := ⟨b + 1, 8, none⟩) hp u8 (hu.s3.put (p := ⟨b + 1, 7, none⟩) hp u7 (hu.s3.put (p := ⟨b + 1, 6, none⟩) hp u6 (hu.s3.put (p := ⟨b + 1, 5, none⟩) hp u5 (hu.s3.put (p := ⟨b + 1, 4, none⟩) hp u4 (hu.s3.put (p := ⟨b + 1, 3, none⟩) hp u3 (hu.s3.put (p := ⟨b + 1, 2, none⟩) hp u2 (hu.s3.put (p := ⟨b + 1, 1, none⟩) hp u1 (hu.s3.put (p := ⟨b + 1, 0, none⟩) hp u0 (hu.p3))))))))), hu.s4.put (p := ⟨b + 1, 8, none⟩) hp u8 (hu.s4.put (p := ⟨b + 1, 7, none⟩) hp u7 (hu.s4.put (p := ⟨b + 1, 6, none⟩) hp u6 (hu.s4.put (p := ⟨b + 1, 5, none⟩) hp u5 (hu.s4.put (p := ⟨b + 1, 4, none⟩) hp u4 (hu.s4.put (p := ⟨b + 1, 3, none⟩) hp u3 (hu.s4.put (p := ⟨b + 1, 2, none⟩) hp u2 (hu.s4.put (p := ⟨b + 1, 1, none⟩) hp u1 (hu.s4.put (p := ⟨b + 1, 0, none⟩) hp u0 (hu.p4))))))))), hu.s5.put (p := ⟨b + 1, 8, none⟩) hp u8 (hu.s5.put (p := ⟨b + 1, 7, none⟩) hp u7 (hu.s5.put (p := ⟨b + 1, 6, none⟩) hp u6 (hu.s5.put (p := ⟨b + 1, 5, none⟩) hp u5 (hu.s5.put (p := ⟨b + 1, 4, none⟩) hp u4 (hu.s5.put (p := ⟨b + 1, 3, none⟩) hp u3 (hu.s5.put (p := ⟨b + 1, 2, none⟩) hp u2 (hu.s5.put (p := ⟨b + 1, 1, none⟩) hp u1 (hu.s5.put (p := ⟨b + 1, 0, none⟩) hp u0 (hu.p5))))))))), hu.s6.put (p := ⟨b + 1, 8, none⟩) hp u8 (hu.s6.put (p := ⟨b + 1, 7, none⟩) hp u7 (hu.s6.put (p := ⟨b + 1, 6, none⟩) hp u6 (hu.s6.put (p := ⟨b + 1, 5, none⟩) hp u5 (hu.s6.put (p := ⟨b + 1, 4, none⟩) hp u4 (hu.s6.put (p := ⟨b + 1, 3, none⟩) hp u3 (hu.s6.put (p := ⟨b + 1, 2, none⟩) hp u2 (hu.s6.put (p := ⟨b + 1, 1, none⟩) hp u1 (hu.s6.put (p := ⟨b + 1, 0, none⟩) hp u0 (hu.p6))))))))), hu.s7.put (p := ⟨b + 1, 8, none⟩) hp u8 (hu.s7.put (p := ⟨b + 1, 7, none⟩) hp u7 (hu.s7.put (p := ⟨b + 1, 6, none⟩) hp u6 (hu.s7.put (p := ⟨b + 1, 5, none⟩) hp u5 (hu.s7.put (p := ⟨b + 1, 4, none⟩) hp u4 (hu.s7.put (p := ⟨b + 1, 3, none⟩) hp u3 (hu.s7.put (p := ⟨b + 1, 2, none⟩) hp u2 (hu.s7.put (p := ⟨b + 1, 1, none⟩) hp u1 (hu.s7.put (p := ⟨b + 1, 0, none⟩) hp u0 (hu.p7))))))))), hu.s8.put (p := ⟨b + 1, 8, none⟩) hp u8 (hu.s8.put (p := ⟨b + 1, 7, none⟩) hp u7 (hu.s8.put (p := ⟨b + 1, 6, none⟩) hp u6 (hu.s8.put (p := ⟨b + 1, 5, none⟩) hp u5 (hu.s8.put (p := ⟨b + 1, 4, none⟩) hp u4 (hu.s8.put (p := ⟨b + 1, 3, none⟩) hp u3 (hu.s8.put (p := ⟨b + 1, 2, none⟩) hp u2 (hu.s8.put (p := ⟨b + 1, 1, none⟩) hp u1 (hu.s8.put (p := ⟨b + 1, 0, none⟩) hp u0 (hu.p8))))))))), hu.s0, hu.s1, hu.s2, hu.s3, hu.s4, hu.s5, hu.s6, hu.s7, hu.s8⟩ : RV (FB F b) _ u0 u1 u2 u3 u4 u5 u6 u7 u8 Q0 Q1 Q2 Q3 Q4 Q5 Q6 Q7 Q8).more fun _ _ h => Or.inl h
/-- A state whose hands, nodes and words are those. -/
theorem RK.mk' {F : Nat → Prop} {W : World} {n : Nat} {v0 v1 v2 v3 v4 v5 v6 v7 v8 : Value} {y0 y1 : Int} {K K3 : Nat} {f2 f3 f4 f5 f6 f7 f8 : Nat → Int} {s : FS} {vl : Nat → Int}
    (rv : RV F W v0 v1 v2 v3 v4 v5 v6 v7 v8 (isInt y0) (isInt y1) (nm K f2) (nm K3 f3) (nm n f4) (nm n f5) (nm n f6) (nm n f7) (nm n f8)) (e0 : y0 = ((s.hd : Nat) : Int)) (e1 : y1 = ((s.tl : Nat) : Int)) (eK : K = s.k) (eK3 : K3 = s.k)
    (e2 : ∀ i, i < s.k → f2 i = vl i) (e3 : ∀ i, i < s.k → f3 i = fi (s.nx i)) (e4 : ∀ p, p < n → f4 p = (((s.h p).a : Nat) : Int)) (e5 : ∀ p, p < n → f5 p = (((s.h p).e : Nat) : Int)) (e6 : ∀ p, p < n → f6 p = (((s.h p).t : Nat) : Int)) (e7 : ∀ p, p < n → f7 p = (((s.h p).h : Nat) : Int))
    (e8 : ∀ p, p < n → (s.h p).a = 4 ∨ (s.h p).a = 9 ∨ (s.h p).a = 10 → f8 p = fi (s.h p).x) : RK F W n s vl v0 v1 v2 v3 v4 v5 v6 v7 v8 f8 := by
  subst e0 e1 eK eK3
  exact ⟨⟨rv.p0, rv.p1, nm_congr rv.p2 fun i hi => (e2 i hi).symm, nm_congr rv.p3 fun i hi => (e3 i hi).symm, nm_congr rv.p4 fun i hi => (e4 i hi).symm, nm_congr rv.p5 fun i hi => (e5 i hi).symm, nm_congr rv.p6 fun i hi => (e6 i hi).symm, nm_congr rv.p7 fun i hi => (e7 i hi).symm, rv.p8,
    isInt_stb _, isInt_stb _, nm_stb _ _, nm_stb _ _, nm_stb _ _, nm_stb _ _, nm_stb _ _, nm_stb _ _, nm_stb _ _⟩, e8⟩
/-- What BeginFifo hands back. -/
def BegT (F : Nat → Prop) (w w' : World) (n : Nat) (E : Int) (s : FS) (vl : Nat → Int) (e : Ending) : Prop := ∃ u0 u1 u2 u3 u4 u5 u6 u7 u8 gx, e = .returned (.tuple #[.agg #[u0, u1, u2, u3, u4, u5, u6, u7, u8], .int .i64 E]) ∧ RK F w' n s vl u0 u1 u2 u3 u4 u5 u6 u7 u8 gx ∧ Below w.heap.size w w'
theorem BegT.of {F : Nat → Prop} {w w' : World} {n : Nat} {E : Int} {s : FS} {vl : Nat → Int} {e : Ending} (h : ∃ u0 u1 u2 u3 u4 u5 u6 u7 u8 gx, e = .returned (.tuple #[.agg #[u0, u1, u2, u3, u4, u5, u6, u7, u8], .int .i64 E]) ∧ RK F w' n s vl u0 u1 u2 u3 u4 u5 u6 u7 u8 gx ∧ Below w.heap.size w w') : BegT F w w' n E s vl e := h
/-- What StepFifo hands back. -/
def StpT (F : Nat → Prop) (w w' : World) (n : Nat) (D : Bool) (G E : Int) (s : FS) (vl : Nat → Int) (e : Ending) : Prop := ∃ u0 u1 u2 u3 u4 u5 u6 u7 u8 gx, e = .returned (.tuple #[.agg #[u0, u1, u2, u3, u4, u5, u6, u7, u8], .bool D, .int .i64 G, .int .i64 E]) ∧ RK F w' n s vl u0 u1 u2 u3 u4 u5 u6 u7 u8 gx ∧ Below w.heap.size w w'
theorem StpT.of {F : Nat → Prop} {w w' : World} {n : Nat} {D : Bool} {G E : Int} {s : FS} {vl : Nat → Int} {e : Ending} (h : ∃ u0 u1 u2 u3 u4 u5 u6 u7 u8 gx, e = .returned (.tuple #[.agg #[u0, u1, u2, u3, u4, u5, u6, u7, u8], .bool D, .int .i64 G, .int .i64 E]) ∧ RK F w' n s vl u0 u1 u2 u3 u4 u5 u6 u7 u8 gx ∧ Below w.heap.size w w') : StpT F w w' n D G E s vl e := h
set_option maxHeartbeats 8000000 in
set_option maxRecDepth 100000 in
/-- One hand's line alone is another one. -/
theorem at_ref {F : Nat → Prop} {n : Nat} {z0 z1 : Int} {A2 A3 A4 A5 A6 A7 A8 : Option Addr} {K2 K3 K5 K6 K7 K8 c2 c3 c4 c5 c6 c7 c8 : Nat} {P0 P1 P2 P3 P5 P6 P7 P8 : Pd} {f : Nat → Int} (w : World) (hv : RV F w (.int .i64 z0) (.int .i64 z1) (.slice A2 K2 c2) (.slice A3 K3 c3) (.slice A4 n c4) (.slice A5 K5 c5) (.slice A6 K6 c6) (.slice A7 K7 c7) (.slice A8 K8 c8) P0 P1 P2 P3 (nm n f) P5 P6 P7 P8) (hF : ∀ b, F b → b < w.heap.size) (h4 : n ≤ 4) {q : Nat} (hq : q < n) (z : Int) :
    Calls Tryd.prog 40 #[.agg #[(.int .i64 z0), (.int .i64 z1), (.slice A2 K2 c2), (.slice A3 K3 c3), (.slice A4 n c4), (.slice A5 K5 c5), (.slice A6 K6 c6), (.slice A7 K7 c7), (.slice A8 K8 c8)], .int .i64 q, .int .i64 z] w fun e w' => ∃ E ce, e = .returned (.agg #[(.int .i64 z0), (.int .i64 z1), (.slice A2 K2 c2), (.slice A3 K3 c3), .slice E n ce, (.slice A5 K5 c5), (.slice A6 K6 c6), (.slice A7 K7 c7), (.slice A8 K8 c8)]) ∧ nm n (rput f q z) F w' (.slice E n ce) ∧ Below w.heap.size w w' := by
  have hst := RS.start hv hF
  obtain ⟨b, hb⟩ : ∃ b, b = w.heap.size := ⟨_, rfl⟩
  obtain ⟨W0, hW0⟩ : ∃ W0, W0 = (w.alloc (.cells #[(.int .i64 z0), (.int .i64 z1), (.slice A2 K2 c2), (.slice A3 K3 c3), (.slice A4 n c4), (.slice A5 K5 c5), (.slice A6 K6 c6), (.slice A7 K7 c7), (.slice A8 K8 c8)] 54)).alloc (.cells #[.int .i64 0, .int .i64 0, .slice none 0 0, .slice none 0 0, .slice none 0 0, .slice none 0 0, .slice none 0 0, .slice none 0 0, .slice none 0 0] 54) := ⟨_, rfl⟩
  rw [← hW0, ← hb] at hst
  have HS0 := Lib.hid hst
  have HW0 := Lib.hid hW0
  have HBW := Lib.hid hb.symm
  have hqI : (q : Int) < n := by omega
  clear hst hv hF hb hW0
  obtain ⟨b4, o4, rfl, _, _, _⟩ := nm_at HS0.out.v.p4 hq
  go_enter Tryd.func40, Tryd.ntmps40
  go_upto_region 1 with fail
  rw [← HW0.out, HBW.out]
  obtain ⟨q0, q1, q2, q3, q4, q5, q6, q7, q8⟩ := HS0.out.q
  have fq0 := HS0.out.box.free 0
  have fq1 := HS0.out.box.free 1
  have fq2 := HS0.out.box.free 2
  have fq3 := HS0.out.box.free 3
  have fq4 := HS0.out.box.free 4
  have fq5 := HS0.out.box.free 5
  have fq6 := HS0.out.box.free 6
  have fq7 := HS0.out.box.free 7
  have fq8 := HS0.out.box.free 8
  obtain ⟨r0, r1, r2, r3, r4, r5, r6, r7, r8⟩ := HS0.out.r
  have fr0 := HS0.out.res.free 0
  have fr1 := HS0.out.res.free 1
  have fr2 := HS0.out.res.free 2
  have fr3 := HS0.out.res.free 3
  have fr4 := HS0.out.res.free 4
  have fr5 := HS0.out.res.free 5
  have fr6 := HS0.out.res.free 6
  have fr7 := HS0.out.res.free 7
  have fr8 := HS0.out.res.free 8
  go_upto_region 2 with (go_at_call 27; (with_reducible refine (set_nm z HS0.out.hF HS0.out.v.p4 hq (by omega)).mono ?_); rintro e w1 ⟨E1, e1, rfl, hn, hb⟩; have HN1 := Lib.hid hn; have HC1 := Lib.hid (HS0.out.call hb); have qd := HC1.out.q.2.2.2.2.1; have fd1 := HC1.out.box.free 4; clear hn hb)
  clear q0 fq0 r0 fr0 q1 fq1 r1 fr1 q2 fq2 r2 fr2 q3 fq3 r3 fr3 q4 fq4 r4 fr4 q5 fq5 r5 fr5 q6 fq6 r6 fr6 q7 fq7 r7 fr7 q8 fq8 r8 fr8
  clear qd fd1
  have hs1 := HC1.out.put4 (nm_stb _ _) HN1.out
  obtain ⟨V1, hV1⟩ : ∃ V, V = w1.setCell ⟨b, 4, none⟩ (.slice E1 n e1) := ⟨_, rfl⟩
  rw [← hV1] at hs1 ⊢
  have HS1 := Lib.hid hs1
  clear hs1 hV1 HC1 HN1
  obtain ⟨q0, q1, q2, q3, q4, q5, q6, q7, q8⟩ := HS1.out.q
  have fq0 := HS1.out.box.free 0
  have fq1 := HS1.out.box.free 1
  have fq2 := HS1.out.box.free 2
  have fq3 := HS1.out.box.free 3
  have fq4 := HS1.out.box.free 4
  have fq5 := HS1.out.box.free 5
  have fq6 := HS1.out.box.free 6
  have fq7 := HS1.out.box.free 7
  have fq8 := HS1.out.box.free 8
  obtain ⟨r0, r1, r2, r3, r4, r5, r6, r7, r8⟩ := HS1.out.r
  have fr0 := HS1.out.res.free 0
  have fr1 := HS1.out.res.free 1
  have fr2 := HS1.out.res.free 2
  have fr3 := HS1.out.res.free 3
  have fr4 := HS1.out.res.free 4
  have fr5 := HS1.out.res.free 5
  have fr6 := HS1.out.res.free 6
  have fr7 := HS1.out.res.free 7
  have fr8 := HS1.out.res.free 8
  have hn4 := HS1.out.told.2.2.p4
  have HN4 := Lib.hid hn4
  clear hn4
  go_wp2
  refine bodyPost_ret (v := .agg _) (results_cell_row rfl _ _ (b + 1) 54 _ (0, 0) _ rfl HS1.out.told.1 Tryd.underlying54 rfl (by kernel_rfl)) rfl ⟨_, _, rfl, HN4.out, HS1.out.told.2.1⟩
set_option maxHeartbeats 8000000 in
set_option maxRecDepth 100000 in
theorem refbegin_any {F : Nat → Prop} {n : Nat} {s : FG} {vl : Nat → Int} {v0 v1 v2 v3 v4 v5 v6 v7 v8 : Value} {fx : Nat → Int} (w : World) (h : RK F w n s.v vl v0 v1 v2 v3 v4 v5 v6 v7 v8 fx) (hF : ∀ b, F b → b < w.heap.size) (ok : FOk n s) (_hk40 : s.v.k ≤ 40) (h1 : 1 ≤ n) (h4 : n ≤ 4) (p x : Int) :
    Calls Tryd.prog 19 #[.agg #[v0, v1, v2, v3, v4, v5, v6, v7, v8], .int .i64 p, .int .i64 x] w fun e w' => BegT F w w' n (sBegE n s p x) (sBegS n s p x).v (sBegV n s vl p x) e := by
  have e0 : v0 = .int .i64 s.v.hd := h.rv.p0
  have e1 : v1 = .int .i64 s.v.tl := h.rv.p1
  subst e0 e1
  obtain ⟨A2, c2, rfl⟩ := SL.form h.rv.p2
  obtain ⟨A3, c3, rfl⟩ := SL.form h.rv.p3
  obtain ⟨A4, c4, rfl⟩ := SL.form h.rv.p4
  obtain ⟨A5, c5, rfl⟩ := SL.form h.rv.p5
  obtain ⟨A6, c6, rfl⟩ := SL.form h.rv.p6
  obtain ⟨A7, c7, rfl⟩ := SL.form h.rv.p7
  obtain ⟨A8, c8, rfl⟩ := SL.form h.rv.p8
  have hst := RS.start h.rv hF
  obtain ⟨b, hb⟩ : ∃ b, b = w.heap.size := ⟨_, rfl⟩
  obtain ⟨W0, hW0⟩ : ∃ W0, W0 = (w.alloc (.cells #[.int .i64 s.v.hd, .int .i64 s.v.tl, .slice A2 s.v.k c2, .slice A3 s.v.k c3, .slice A4 n c4, .slice A5 n c5, .slice A6 n c6, .slice A7 n c7, .slice A8 n c8] 54)).alloc (.cells #[.int .i64 0, .int .i64 0, .slice none 0 0, .slice none 0 0, .slice none 0 0, .slice none 0 0, .slice none 0 0, .slice none 0 0, .slice none 0 0] 54) := ⟨_, rfl⟩
  rw [← hW0, ← hb] at hst
  have HS0 := Lib.hid hst
  have hwn : IntKind.i64.wrap ((n : Int) - 1) = (n : Int) - 1 := IntWalk.i64_in _ (by omega)
  have HW0 := Lib.hid hW0
  have HBW := Lib.hid hb.symm
  have HF := Lib.hid h.f
  have HOK := Lib.hid ok
  clear hst h hF hb hW0
  by_cases hp : 0 ≤ p ∧ p < n
  · have HI1 := Lib.hid (inW_any p 0 ((n : Int) - 1) true (decide_eq_true (by omega)))
    obtain ⟨q, rfl⟩ := Int.eq_ofNat_of_zero_le hp.1
    have hq : q < n := by omega
    have hqI : (q : Int) < n := by omega
    obtain ⟨bt, ot, rfl, _, _, hct⟩ := nm_at HS0.out.v.p4 hq
    by_cases ha : (s.v.h q).a = 0
    · have ha0 := ha
      rw [ha] at hct
      by_cases hx : x < 0
      · have he : sBegE n s q x = 0 := by unfold sBegE; rw [if_neg (show ¬ ¬ (0 ≤ (q : Int) ∧ (q : Int) < n) from fun h => h hp), if_neg (show ¬ (s.v.h (q : Int).toNat).a ≠ 0 by simpa using ha)]; rw [if_pos hx]
        have hs : sBegS n s q x = fgget s q := by unfold sBegS; rw [if_pos he, if_pos hx]; rfl
        have hv : sBegV n s vl q x = vl := by unfold sBegV; rw [if_pos he, if_pos hx]
        rw [he, hs, hv]
        clear hp he hs hv ha ha0
        go_enter Tryd.func19, Tryd.ntmps19
        go_upto_region 1 with fail
        rw [← HW0.out, HBW.out]
        obtain ⟨q0, q1, q2, q3, q4, q5, q6, q7, q8⟩ := HS0.out.q
        have fq0 := HS0.out.box.free 0
        have fq1 := HS0.out.box.free 1
        have fq2 := HS0.out.box.free 2
        have fq3 := HS0.out.box.free 3
        have fq4 := HS0.out.box.free 4
        have fq5 := HS0.out.box.free 5
        have fq6 := HS0.out.box.free 6
        have fq7 := HS0.out.box.free 7
        have fq8 := HS0.out.box.free 8
        obtain ⟨r0, r1, r2, r3, r4, r5, r6, r7, r8⟩ := HS0.out.r
        have fr0 := HS0.out.res.free 0
        have fr1 := HS0.out.res.free 1
        have fr2 := HS0.out.res.free 2
        have fr3 := HS0.out.res.free 3
        have fr4 := HS0.out.res.free 4
        have fr5 := HS0.out.res.free 5
        have fr6 := HS0.out.res.free 6
        have fr7 := HS0.out.res.free 7
        have fr8 := HS0.out.res.free 8
        go_upto_region 7 with (first | (go_at_call 26; (with_reducible refine (HI1.out _).mono ?_); rintro e w' ⟨rfl, rfl⟩) | (go_at_call 27; (with_reducible refine (set_nm 6 HS0.out.hF HS0.out.v.p4 hq (by omega)).mono ?_); rintro e w1 ⟨E1, e1, rfl, hn, hb⟩; have HN1 := Lib.hid hn; have HC1 := Lib.hid (HS0.out.call hb); have qd := HC1.out.q.2.2.2.2.1; have fd1 := HC1.out.box.free 4; clear hn hb))
        clear hct
        clear q0 fq0 r0 fr0 q1 fq1 r1 fr1 q2 fq2 r2 fr2 q3 fq3 r3 fr3 q4 fq4 r4 fr4 q5 fq5 r5 fr5 q6 fq6 r6 fr6 q7 fq7 r7 fr7 q8 fq8 r8 fr8
        clear qd fd1
        have hs1 := HC1.out.put4 (nm_stb _ _) HN1.out
        obtain ⟨V1, hV1⟩ : ∃ V, V = w1.setCell ⟨b, 4, none⟩ (.slice E1 n e1) := ⟨_, rfl⟩
        rw [← hV1] at hs1 ⊢
        have HS1 := Lib.hid hs1
        clear hs1 hV1 HC1 HN1
        obtain ⟨q0, q1, q2, q3, q4, q5, q6, q7, q8⟩ := HS1.out.q
        have fq0 := HS1.out.box.free 0
        have fq1 := HS1.out.box.free 1
        have fq2 := HS1.out.box.free 2
        have fq3 := HS1.out.box.free 3
        have fq4 := HS1.out.box.free 4
        have fq5 := HS1.out.box.free 5
        have fq6 := HS1.out.box.free 6
        have fq7 := HS1.out.box.free 7
        have fq8 := HS1.out.box.free 8
        obtain ⟨r0, r1, r2, r3, r4, r5, r6, r7, r8⟩ := HS1.out.r
        have fr0 := HS1.out.res.free 0
        have fr1 := HS1.out.res.free 1
        have fr2 := HS1.out.res.free 2
        have fr3 := HS1.out.res.free 3
        have fr4 := HS1.out.res.free 4
        have fr5 := HS1.out.res.free 5
        have fr6 := HS1.out.res.free 6
        have fr7 := HS1.out.res.free 7
        have fr8 := HS1.out.res.free 8
        go_wp2
        have hrv := HS1.out.told.2.2
        refine bodyPost_ret (v := .tuple _) (results_cell2 rfl _ _ (b + 1) 54 _ (0, 0) _ rfl HS1.out.told.1 Tryd.underlying54 rfl (by kernel_rfl)) rfl (BegT.of ⟨_, _, _, _, _, _, _, _, _, _, rfl, RK.mk' hrv rfl rfl rfl rfl (fun _ _ => rfl) (fun _ _ => rfl) ?_ ?_ ?_ ?_ ?_, HS1.out.told.2.1⟩)
        · intro p _
          show _ = (((fput s.v.h q _ p).a : Nat) : Int)
          by_cases e : p = q
          · subst e; first | (rw [rput_same, fput_same]; done) | (rw [rput_same, fput_same]; rfl) | (rw [fput_same])
          · first | rw [rput_other e, fput_other e] | rw [fput_other e]
        · intro p _
          show _ = (((fput s.v.h q _ p).e : Nat) : Int)
          by_cases e : p = q
          · subst e; first | (rw [rput_same, fput_same]; done) | (rw [rput_same, fput_same]; rfl) | (rw [fput_same])
          · first | rw [rput_other e, fput_other e] | rw [fput_other e]
        · intro p _
          show _ = (((fput s.v.h q _ p).t : Nat) : Int)
          by_cases e : p = q
          · subst e; first | (rw [rput_same, fput_same]; done) | (rw [rput_same, fput_same]; rfl) | (rw [fput_same])
          · first | rw [rput_other e, fput_other e] | rw [fput_other e]
        · intro p _
          show _ = (((fput s.v.h q _ p).h : Nat) : Int)
          by_cases e : p = q
          · subst e; first | (rw [rput_same, fput_same]; done) | (rw [rput_same, fput_same]; rfl) | (rw [fput_same])
          · first | rw [rput_other e, fput_other e] | rw [fput_other e]
        · intro p hp h
          replace h : (fput s.v.h q _ p).a = 4 ∨ (fput s.v.h q _ p).a = 9 ∨ (fput s.v.h q _ p).a = 10 := h
          show _ = fi (fput s.v.h q _ p).x
          by_cases e : p = q
          · subst e; rw [fput_same] at h ⊢; (have h : 6 = 4 ∨ 6 = 9 ∨ 6 = 10 := h); omega
          · rw [fput_other e] at h ⊢; first | (rw [rput_other e]; exact HF.out p hp h) | exact HF.out p hp h
      · by_cases hf : s.v.k = 40
        · have he : sBegE n s q x = 4 := by unfold sBegE; rw [if_neg (show ¬ ¬ (0 ≤ (q : Int) ∧ (q : Int) < n) from fun h => h hp), if_neg (show ¬ (s.v.h (q : Int).toNat).a ≠ 0 by simpa using ha)]; rw [if_neg hx, if_pos hf]
          have hs : sBegS n s q x = s := by unfold sBegS; rw [he]; rfl
          have hv : sBegV n s vl q x = vl := by unfold sBegV; rw [he]; rfl
          rw [he, hs, hv]
          have hfb : decide ((40 : Int) ≤ ((s.v.k : Nat) : Int)) = true := decide_eq_true (by omega)
          have hfb2 : (40 : Int) ≤ ((s.v.k : Nat) : Int) := by omega
          clear hp he hs hv ha ha0 hf
          go_enter Tryd.func19, Tryd.ntmps19
          go_upto_region 1 with fail
          rw [← HW0.out, HBW.out]
          obtain ⟨q0, q1, q2, q3, q4, q5, q6, q7, q8⟩ := HS0.out.q
          have fq0 := HS0.out.box.free 0
          have fq1 := HS0.out.box.free 1
          have fq2 := HS0.out.box.free 2
          have fq3 := HS0.out.box.free 3
          have fq4 := HS0.out.box.free 4
          have fq5 := HS0.out.box.free 5
          have fq6 := HS0.out.box.free 6
          have fq7 := HS0.out.box.free 7
          have fq8 := HS0.out.box.free 8
          obtain ⟨r0, r1, r2, r3, r4, r5, r6, r7, r8⟩ := HS0.out.r
          have fr0 := HS0.out.res.free 0
          have fr1 := HS0.out.res.free 1
          have fr2 := HS0.out.res.free 2
          have fr3 := HS0.out.res.free 3
          have fr4 := HS0.out.res.free 4
          have fr5 := HS0.out.res.free 5
          have fr6 := HS0.out.res.free 6
          have fr7 := HS0.out.res.free 7
          have fr8 := HS0.out.res.free 8
          go_wp2_with (go_at_call 26; (with_reducible refine (HI1.out _).mono ?_); rintro e w' ⟨rfl, rfl⟩)
          refine bodyPost_ret (v := .tuple _) (results_cell2 rfl _ _ (b + 1) 54 _ (0, 0) _ rfl HS0.out.told.1 Tryd.underlying54 rfl (by kernel_rfl)) rfl (BegT.of ⟨_, _, _, _, _, _, _, _, _, _, rfl, ⟨HS0.out.told.2.2, HF.out⟩, HS0.out.told.2.1⟩)
        · have he : sBegE n s q x = 0 := by unfold sBegE; rw [if_neg (show ¬ ¬ (0 ≤ (q : Int) ∧ (q : Int) < n) from fun h => h hp), if_neg (show ¬ (s.v.h (q : Int).toNat).a ≠ 0 by simpa using ha)]; rw [if_neg hx, if_neg hf]
          have hs : sBegS n s q x = fgput s q := by unfold sBegS; rw [if_pos he, if_neg hx]; rfl
          have hv : sBegV n s vl q x = rput vl s.v.k x := by unfold sBegV; rw [if_pos he, if_neg hx]
          rw [he, hs, hv]
          have hfb : decide ((40 : Int) ≤ ((s.v.k : Nat) : Int)) = false := decide_eq_false (by omega)
          have hfb2 : ¬ (40 : Int) ≤ ((s.v.k : Nat) : Int) := by omega
          have hk1 := ok.k1
          clear hp he hs hv ha ha0 hf
          go_enter Tryd.func19, Tryd.ntmps19
          go_upto_region 1 with fail
          rw [← HW0.out, HBW.out]
          obtain ⟨q0, q1, q2, q3, q4, q5, q6, q7, q8⟩ := HS0.out.q
          have fq0 := HS0.out.box.free 0
          have fq1 := HS0.out.box.free 1
          have fq2 := HS0.out.box.free 2
          have fq3 := HS0.out.box.free 3
          have fq4 := HS0.out.box.free 4
          have fq5 := HS0.out.box.free 5
          have fq6 := HS0.out.box.free 6
          have fq7 := HS0.out.box.free 7
          have fq8 := HS0.out.box.free 8
          obtain ⟨r0, r1, r2, r3, r4, r5, r6, r7, r8⟩ := HS0.out.r
          have fr0 := HS0.out.res.free 0
          have fr1 := HS0.out.res.free 1
          have fr2 := HS0.out.res.free 2
          have fr3 := HS0.out.res.free 3
          have fr4 := HS0.out.res.free 4
          have fr5 := HS0.out.res.free 5
          have fr6 := HS0.out.res.free 6
          have fr7 := HS0.out.res.free 7
          have fr8 := HS0.out.res.free 8
          go_upto_region 11 with (first | (go_at_call 26; (with_reducible refine (HI1.out _).mono ?_); rintro e w' ⟨rfl, rfl⟩) | (go_at_call 27; (with_reducible refine (set_nm ((s.v.k : Nat) : Int) HS0.out.hF HS0.out.v.p5 hq (by omega)).mono ?_); rintro e w1 ⟨E1, e1, rfl, hn, hb⟩; have HN1 := Lib.hid hn; have HC1 := Lib.hid (HS0.out.call hb); have qd := HC1.out.q.2.2.2.2.2.1; have fd1 := HC1.out.box.free 5; clear hn hb))
          clear hct
          clear q0 fq0 r0 fr0 q1 fq1 r1 fr1 q2 fq2 r2 fr2 q3 fq3 r3 fr3 q4 fq4 r4 fr4 q5 fq5 r5 fr5 q6 fq6 r6 fr6 q7 fq7 r7 fr7 q8 fq8 r8 fr8
          clear qd fd1
          have hs1 := HC1.out.put5 (nm_stb _ _) HN1.out
          obtain ⟨V1, hV1⟩ : ∃ V, V = w1.setCell ⟨b, 5, none⟩ (.slice E1 n e1) := ⟨_, rfl⟩
          rw [← hV1] at hs1 ⊢
          have HS1 := Lib.hid hs1
          clear hs1 hV1 HC1 HN1
          obtain ⟨q0, q1, q2, q3, q4, q5, q6, q7, q8⟩ := HS1.out.q
          have fq0 := HS1.out.box.free 0
          have fq1 := HS1.out.box.free 1
          have fq2 := HS1.out.box.free 2
          have fq3 := HS1.out.box.free 3
          have fq4 := HS1.out.box.free 4
          have fq5 := HS1.out.box.free 5
          have fq6 := HS1.out.box.free 6
          have fq7 := HS1.out.box.free 7
          have fq8 := HS1.out.box.free 8
          obtain ⟨r0, r1, r2, r3, r4, r5, r6, r7, r8⟩ := HS1.out.r
          have fr0 := HS1.out.res.free 0
          have fr1 := HS1.out.res.free 1
          have fr2 := HS1.out.res.free 2
          have fr3 := HS1.out.res.free 3
          have fr4 := HS1.out.res.free 4
          have fr5 := HS1.out.res.free 5
          have fr6 := HS1.out.res.free 6
          have fr7 := HS1.out.res.free 7
          have fr8 := HS1.out.res.free 8
          go_upto_region 12 with (go_at_call 39; (with_reducible refine (more_nm x HS1.out.hF HS1.out.v.p2 (by omega) (by omega)).mono ?_); rintro e w2 ⟨E2, e2, rfl, hn, hb⟩; have HN2 := Lib.hid hn; have HC2 := Lib.hid (HS1.out.call hb); have qd := HC2.out.q.2.2.1; have fd2 := HC2.out.box.free 2; clear hn hb)
          clear q0 fq0 r0 fr0 q1 fq1 r1 fr1 q2 fq2 r2 fr2 q3 fq3 r3 fr3 q4 fq4 r4 fr4 q5 fq5 r5 fr5 q6 fq6 r6 fr6 q7 fq7 r7 fr7 q8 fq8 r8 fr8
          clear qd fd2
          have hs2 := HC2.out.put2 (nm_stb _ _) HN2.out
          obtain ⟨V2, hV2⟩ : ∃ V, V = w2.setCell ⟨b, 2, none⟩ (.slice E2 (s.v.k + 1 : Nat) e2) := ⟨_, rfl⟩
          rw [← hV2] at hs2 ⊢
          have HS2 := Lib.hid hs2
          clear hs2 hV2 HC2 HN2
          obtain ⟨q0, q1, q2, q3, q4, q5, q6, q7, q8⟩ := HS2.out.q
          have fq0 := HS2.out.box.free 0
          have fq1 := HS2.out.box.free 1
          have fq2 := HS2.out.box.free 2
          have fq3 := HS2.out.box.free 3
          have fq4 := HS2.out.box.free 4
          have fq5 := HS2.out.box.free 5
          have fq6 := HS2.out.box.free 6
          have fq7 := HS2.out.box.free 7
          have fq8 := HS2.out.box.free 8
          obtain ⟨r0, r1, r2, r3, r4, r5, r6, r7, r8⟩ := HS2.out.r
          have fr0 := HS2.out.res.free 0
          have fr1 := HS2.out.res.free 1
          have fr2 := HS2.out.res.free 2
          have fr3 := HS2.out.res.free 3
          have fr4 := HS2.out.res.free 4
          have fr5 := HS2.out.res.free 5
          have fr6 := HS2.out.res.free 6
          have fr7 := HS2.out.res.free 7
          have fr8 := HS2.out.res.free 8
          go_upto_region 13 with (go_at_call 39; (with_reducible refine (more_nm (-1) HS2.out.hF HS2.out.v.p3 (by omega) (by omega)).mono ?_); rintro e w3 ⟨E3, e3, rfl, hn, hb⟩; have HN3 := Lib.hid hn; have HC3 := Lib.hid (HS2.out.call hb); have qd := HC3.out.q.2.2.2.1; have fd3 := HC3.out.box.free 3; clear hn hb)
          clear q0 fq0 r0 fr0 q1 fq1 r1 fr1 q2 fq2 r2 fr2 q3 fq3 r3 fr3 q4 fq4 r4 fr4 q5 fq5 r5 fr5 q6 fq6 r6 fr6 q7 fq7 r7 fr7 q8 fq8 r8 fr8
          clear qd fd3
          have hs3 := HC3.out.put3 (nm_stb _ _) HN3.out
          obtain ⟨V3, hV3⟩ : ∃ V, V = w3.setCell ⟨b, 3, none⟩ (.slice E3 (s.v.k + 1 : Nat) e3) := ⟨_, rfl⟩
          rw [← hV3] at hs3 ⊢
          have HS3 := Lib.hid hs3
          clear hs3 hV3 HC3 HN3
          obtain ⟨q0, q1, q2, q3, q4, q5, q6, q7, q8⟩ := HS3.out.q
          have fq0 := HS3.out.box.free 0
          have fq1 := HS3.out.box.free 1
          have fq2 := HS3.out.box.free 2
          have fq3 := HS3.out.box.free 3
          have fq4 := HS3.out.box.free 4
          have fq5 := HS3.out.box.free 5
          have fq6 := HS3.out.box.free 6
          have fq7 := HS3.out.box.free 7
          have fq8 := HS3.out.box.free 8
          obtain ⟨r0, r1, r2, r3, r4, r5, r6, r7, r8⟩ := HS3.out.r
          have fr0 := HS3.out.res.free 0
          have fr1 := HS3.out.res.free 1
          have fr2 := HS3.out.res.free 2
          have fr3 := HS3.out.res.free 3
          have fr4 := HS3.out.res.free 4
          have fr5 := HS3.out.res.free 5
          have fr6 := HS3.out.res.free 6
          have fr7 := HS3.out.res.free 7
          have fr8 := HS3.out.res.free 8
          go_upto_region 14 with (go_at_call 27; (with_reducible refine (set_nm 1 HS3.out.hF HS3.out.v.p4 hq (by omega)).mono ?_); rintro e w4 ⟨E4, e4, rfl, hn, hb⟩; have HN4 := Lib.hid hn; have HC4 := Lib.hid (HS3.out.call hb); have qd := HC4.out.q.2.2.2.2.1; have fd4 := HC4.out.box.free 4; clear hn hb)
          clear q0 fq0 r0 fr0 q1 fq1 r1 fr1 q2 fq2 r2 fr2 q3 fq3 r3 fr3 q4 fq4 r4 fr4 q5 fq5 r5 fr5 q6 fq6 r6 fr6 q7 fq7 r7 fr7 q8 fq8 r8 fr8
          clear qd fd4
          have hs4 := HC4.out.put4 (nm_stb _ _) HN4.out
          obtain ⟨V4, hV4⟩ : ∃ V, V = w4.setCell ⟨b, 4, none⟩ (.slice E4 n e4) := ⟨_, rfl⟩
          rw [← hV4] at hs4 ⊢
          have HS4 := Lib.hid hs4
          clear hs4 hV4 HC4 HN4
          obtain ⟨q0, q1, q2, q3, q4, q5, q6, q7, q8⟩ := HS4.out.q
          have fq0 := HS4.out.box.free 0
          have fq1 := HS4.out.box.free 1
          have fq2 := HS4.out.box.free 2
          have fq3 := HS4.out.box.free 3
          have fq4 := HS4.out.box.free 4
          have fq5 := HS4.out.box.free 5
          have fq6 := HS4.out.box.free 6
          have fq7 := HS4.out.box.free 7
          have fq8 := HS4.out.box.free 8
          obtain ⟨r0, r1, r2, r3, r4, r5, r6, r7, r8⟩ := HS4.out.r
          have fr0 := HS4.out.res.free 0
          have fr1 := HS4.out.res.free 1
          have fr2 := HS4.out.res.free 2
          have fr3 := HS4.out.res.free 3
          have fr4 := HS4.out.res.free 4
          have fr5 := HS4.out.res.free 5
          have fr6 := HS4.out.res.free 6
          have fr7 := HS4.out.res.free 7
          have fr8 := HS4.out.res.free 8
          go_wp2
          have hrv := HS4.out.told.2.2
          refine bodyPost_ret (v := .tuple _) (results_cell2 rfl _ _ (b + 1) 54 _ (0, 0) _ rfl HS4.out.told.1 Tryd.underlying54 rfl (by kernel_rfl)) rfl (BegT.of ⟨_, _, _, _, _, _, _, _, _, _, rfl, RK.mk' hrv rfl rfl rfl rfl (fun _ _ => rfl) (fun i hi => ?_) ?_ ?_ ?_ ?_ ?_, HS4.out.told.2.1⟩)
          · show rput (fun i => fi (s.v.nx i)) s.v.k (-1) i = fi (fput s.v.nx s.v.k 0 i)
            by_cases e : i = s.v.k
            · rw [e, rput_same, fput_same]; rfl
            · rw [rput_other e, fput_other e]
          · intro p _
            show _ = (((fput s.v.h q _ p).a : Nat) : Int)
            by_cases e : p = q
            · subst e; first | (rw [rput_same, fput_same]; done) | (rw [rput_same, fput_same]; rfl) | (rw [fput_same])
            · first | rw [rput_other e, fput_other e] | rw [fput_other e]
          · intro p _
            show _ = (((fput s.v.h q _ p).e : Nat) : Int)
            by_cases e : p = q
            · subst e; first | (rw [rput_same, fput_same]; done) | (rw [rput_same, fput_same]; rfl) | (rw [fput_same])
            · first | rw [rput_other e, fput_other e] | rw [fput_other e]
          · intro p _
            show _ = (((fput s.v.h q _ p).t : Nat) : Int)
            by_cases e : p = q
            · subst e; first | (rw [rput_same, fput_same]; done) | (rw [rput_same, fput_same]; rfl) | (rw [fput_same])
            · first | rw [rput_other e, fput_other e] | rw [fput_other e]
          · intro p _
            show _ = (((fput s.v.h q _ p).h : Nat) : Int)
            by_cases e : p = q
            · subst e; first | (rw [rput_same, fput_same]; done) | (rw [rput_same, fput_same]; rfl) | (rw [fput_same])
            · first | rw [rput_other e, fput_other e] | rw [fput_other e]
          · intro p hp h
            replace h : (fput s.v.h q _ p).a = 4 ∨ (fput s.v.h q _ p).a = 9 ∨ (fput s.v.h q _ p).a = 10 := h
            show _ = fi (fput s.v.h q _ p).x
            by_cases e : p = q
            · subst e; rw [fput_same] at h ⊢; (have h : 1 = 4 ∨ 1 = 9 ∨ 1 = 10 := h); omega
            · rw [fput_other e] at h ⊢; first | (rw [rput_other e]; exact HF.out p hp h) | exact HF.out p hp h
    · have he : sBegE n s q x = 7 := by unfold sBegE; rw [if_neg (show ¬ ¬ (0 ≤ (q : Int) ∧ (q : Int) < n) from fun h => h hp), if_pos (show (s.v.h (q : Int).toNat).a ≠ 0 by simpa using ha)]
      have hs : sBegS n s q x = s := by unfold sBegS; rw [he]; rfl
      have hv : sBegV n s vl q x = vl := by unfold sBegV; rw [he]; rfl
      rw [he, hs, hv]
      have hI : ((((s.v.h q).a : Nat) : Int) != 0) = true := by simp; omega
      clear hp he ha hs hv
      go_enter Tryd.func19, Tryd.ntmps19
      go_upto_region 1 with fail
      rw [← HW0.out, HBW.out]
      obtain ⟨q0, q1, q2, q3, q4, q5, q6, q7, q8⟩ := HS0.out.q
      have fq0 := HS0.out.box.free 0
      have fq1 := HS0.out.box.free 1
      have fq2 := HS0.out.box.free 2
      have fq3 := HS0.out.box.free 3
      have fq4 := HS0.out.box.free 4
      have fq5 := HS0.out.box.free 5
      have fq6 := HS0.out.box.free 6
      have fq7 := HS0.out.box.free 7
      have fq8 := HS0.out.box.free 8
      obtain ⟨r0, r1, r2, r3, r4, r5, r6, r7, r8⟩ := HS0.out.r
      have fr0 := HS0.out.res.free 0
      have fr1 := HS0.out.res.free 1
      have fr2 := HS0.out.res.free 2
      have fr3 := HS0.out.res.free 3
      have fr4 := HS0.out.res.free 4
      have fr5 := HS0.out.res.free 5
      have fr6 := HS0.out.res.free 6
      have fr7 := HS0.out.res.free 7
      have fr8 := HS0.out.res.free 8
      go_wp2_with (go_at_call 26; (with_reducible refine (HI1.out _).mono ?_); rintro e w' ⟨rfl, rfl⟩)
      refine bodyPost_ret (v := .tuple _) (results_cell2 rfl _ _ (b + 1) 54 _ (0, 0) _ rfl HS0.out.told.1 Tryd.underlying54 rfl (by kernel_rfl)) rfl (BegT.of ⟨_, _, _, _, _, _, _, _, _, _, rfl, ⟨HS0.out.told.2.2, HF.out⟩, HS0.out.told.2.1⟩)
  · have HI1 := Lib.hid (inW_any p 0 ((n : Int) - 1) false (decide_eq_false (by omega)))
    have he : sBegE n s p x = 1 := by unfold sBegE; rw [if_pos hp]
    have hs : sBegS n s p x = s := by unfold sBegS; rw [he]; rfl
    have hv : sBegV n s vl p x = vl := by unfold sBegV; rw [he]; rfl
    rw [he, hs, hv]
    clear hp he hs hv
    go_enter Tryd.func19, Tryd.ntmps19
    go_upto_region 1 with fail
    rw [← HW0.out, HBW.out]
    obtain ⟨q0, q1, q2, q3, q4, q5, q6, q7, q8⟩ := HS0.out.q
    have fq0 := HS0.out.box.free 0
    have fq1 := HS0.out.box.free 1
    have fq2 := HS0.out.box.free 2
    have fq3 := HS0.out.box.free 3
    have fq4 := HS0.out.box.free 4
    have fq5 := HS0.out.box.free 5
    have fq6 := HS0.out.box.free 6
    have fq7 := HS0.out.box.free 7
    have fq8 := HS0.out.box.free 8
    obtain ⟨r0, r1, r2, r3, r4, r5, r6, r7, r8⟩ := HS0.out.r
    have fr0 := HS0.out.res.free 0
    have fr1 := HS0.out.res.free 1
    have fr2 := HS0.out.res.free 2
    have fr3 := HS0.out.res.free 3
    have fr4 := HS0.out.res.free 4
    have fr5 := HS0.out.res.free 5
    have fr6 := HS0.out.res.free 6
    have fr7 := HS0.out.res.free 7
    have fr8 := HS0.out.res.free 8
    go_wp2_with (go_at_call 26; (with_reducible refine (HI1.out _).mono ?_); rintro e w' ⟨rfl, rfl⟩)
    refine bodyPost_ret (v := .tuple _) (results_cell2 rfl _ _ (b + 1) 54 _ (0, 0) _ rfl HS0.out.told.1 Tryd.underlying54 rfl (by kernel_rfl)) rfl (BegT.of ⟨_, _, _, _, _, _, _, _, _, _, rfl, ⟨HS0.out.told.2.2, HF.out⟩, HS0.out.told.2.1⟩)
end Go.Proofs.YtnplhjbbkccdnaaDoor.Fif
