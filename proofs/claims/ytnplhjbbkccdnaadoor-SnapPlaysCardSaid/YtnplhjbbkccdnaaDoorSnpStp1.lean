/-
  The reference of package snap: StepBoard, lines 1 and 3, and 2 where words are left.
-/
import Derived.Test.YtnplhjbbkccdnaaDoorSnpStp
import Derived.Test.YtnplhjbbkccdnaaDoorSnpRegs
import Derived.Deep.CutBlock
import Derived.Deep.DeepCutAuto
import Derived.LoopTactic
namespace Go.Proofs.YtnplhjbbkccdnaaDoor.Snap
open Go.RowKit

set_option maxHeartbeats 8000000 in
set_option maxRecDepth 1000000 in
theorem sbad {F : Nat → Prop} {n : Nat} {s : SS} {v0 v1 v2 v3 v4 v5 v6 v7 : Value} {fx : Nat → Int} {fb : Nat → Bool} {Gf Gl Gm Gs : Nat → Pd} (w : World) (h : BK F w n s v0 v1 v2 v3 v4 v5 v6 v7 fx fb Gf Gl Gm Gs) (hF : ∀ b, F b → b < w.heap.size) (h1 : 1 ≤ n) (h4 : n ≤ 4) (p : Int) (hp : ¬ (0 ≤ p ∧ p < n)) :
    Calls Tryd.prog 11 #[.agg #[v0, v1, v2, v3, v4, v5, v6, v7], .int .i64 p] w fun e w' => StpT F w w' n false none (1) (s) e := by
  obtain ⟨A0, c0, A1, c1, A2, c2, A3, c3, A4, c4, A5, c5, A6, c6, A7, c7, rfl, rfl, rfl, rfl, rfl, rfl, rfl, rfl⟩ := h.forms
  have hst := RS.start h.rv hF
  obtain ⟨b, hb⟩ : ∃ b, b = w.heap.size := ⟨_, rfl⟩
  obtain ⟨W0, hW0⟩ : ∃ W0, W0 = (w.alloc (.cells #[.slice A0 n c0, .slice A1 n c1, .slice A2 n c2, .slice A3 n c3, .slice A4 n c4, .slice A5 n c5, .slice A6 n c6, .slice A7 n c7] 34)).alloc (.cells #[.slice none 0 0, .slice none 0 0, .slice none 0 0, .slice none 0 0, .slice none 0 0, .slice none 0 0, .slice none 0 0, .slice none 0 0] 34) := ⟨_, rfl⟩
  rw [← hW0, ← hb] at hst
  have HS0 := Lib.hid hst
  have hwn : IntKind.i64.wrap ((n : Int) - 1) = (n : Int) - 1 := IntWalk.i64_in _ (by omega)
  have HW0 := Lib.hid hW0
  have HBW := Lib.hid hb.symm
  have HF := Lib.hid h.f
  have HGF := Lib.hid h.gf
  have HGL := Lib.hid h.gl
  have HGM := Lib.hid h.gm
  have HGS := Lib.hid h.gs
  clear hst h hF hb hW0
  have HI1 := Lib.hid (inW_any p 0 ((n : Int) - 1) false (decide_eq_false (by omega)))
  go_enter Tryd.func11, Tryd.ntmps11
  go_upto_region 1 with fail
  rw [← HW0.out, HBW.out]
  obtain ⟨q0, q1, q2, q3, q4, q5, q6, q7⟩ := HS0.out.q
  have fq0 := HS0.out.box.free 0
  have fq1 := HS0.out.box.free 1
  have fq2 := HS0.out.box.free 2
  have fq3 := HS0.out.box.free 3
  have fq4 := HS0.out.box.free 4
  have fq5 := HS0.out.box.free 5
  have fq6 := HS0.out.box.free 6
  have fq7 := HS0.out.box.free 7
  obtain ⟨r0, r1, r2, r3, r4, r5, r6, r7⟩ := HS0.out.r
  have fr0 := HS0.out.res.free 0
  have fr1 := HS0.out.res.free 1
  have fr2 := HS0.out.res.free 2
  have fr3 := HS0.out.res.free 3
  have fr4 := HS0.out.res.free 4
  have fr5 := HS0.out.res.free 5
  have fr6 := HS0.out.res.free 6
  have fr7 := HS0.out.res.free 7
  go_wp2_with (go_at_call 26; (with_reducible refine (HI1.out _).mono ?_); rintro e w' ⟨rfl, rfl⟩)
  refine bodyPost_ret (v := .tuple _) (results_cell4 rfl _ _ (b + 1) 34 _ (0, 0) _ rfl HS0.out.told.1 Tryd.underlying34 rfl (by kernel_rfl)) rfl (StpT.of ⟨_, _, _, _, _, _, _, _, _, _, _, _, _, _, _, rfl, told_none, ⟨HS0.out.told.2.2, HGF.out, HGL.out, HGM.out, HGS.out, HF.out⟩, HS0.out.told.2.1⟩)
set_option maxHeartbeats 8000000 in
set_option maxRecDepth 1000000 in
theorem sidle {F : Nat → Prop} {n : Nat} {s : SS} {v0 v1 v2 v3 v4 v5 v6 v7 : Value} {fx : Nat → Int} {fb : Nat → Bool} {Gf Gl Gm Gs : Nat → Pd} (w : World) (h : BK F w n s v0 v1 v2 v3 v4 v5 v6 v7 fx fb Gf Gl Gm Gs) (hF : ∀ b, F b → b < w.heap.size) (h1 : 1 ≤ n) (h4 : n ≤ 4) {q : Nat} (hq : q < n) (ha : (s.h q).a = 0) :
    Calls Tryd.prog 11 #[.agg #[v0, v1, v2, v3, v4, v5, v6, v7], .int .i64 (q : Int)] w fun e w' => StpT F w w' n false none (7) (s) e := by
  obtain ⟨A0, c0, A1, c1, A2, c2, A3, c3, A4, c4, A5, c5, A6, c6, A7, c7, rfl, rfl, rfl, rfl, rfl, rfl, rfl, rfl⟩ := h.forms
  have hst := RS.start h.rv hF
  obtain ⟨b, hb⟩ : ∃ b, b = w.heap.size := ⟨_, rfl⟩
  obtain ⟨W0, hW0⟩ : ∃ W0, W0 = (w.alloc (.cells #[.slice A0 n c0, .slice A1 n c1, .slice A2 n c2, .slice A3 n c3, .slice A4 n c4, .slice A5 n c5, .slice A6 n c6, .slice A7 n c7] 34)).alloc (.cells #[.slice none 0 0, .slice none 0 0, .slice none 0 0, .slice none 0 0, .slice none 0 0, .slice none 0 0, .slice none 0 0, .slice none 0 0] 34) := ⟨_, rfl⟩
  rw [← hW0, ← hb] at hst
  have HS0 := Lib.hid hst
  have hwn : IntKind.i64.wrap ((n : Int) - 1) = (n : Int) - 1 := IntWalk.i64_in _ (by omega)
  have HW0 := Lib.hid hW0
  have HBW := Lib.hid hb.symm
  have HF := Lib.hid h.f
  have HGF := Lib.hid h.gf
  have HGL := Lib.hid h.gl
  have HGM := Lib.hid h.gm
  have HGS := Lib.hid h.gs
  clear hst h hF hb hW0
  have HI1 := Lib.hid (inW_any q 0 ((n : Int) - 1) true (decide_eq_true (by omega)))
  have hqI : (q : Int) < n := by omega
  obtain ⟨bt, ot, rfl, _, _, ut, hct, rfl⟩ := sl_at (h := HS0.out.v.p1) hq
  replace hct : W0.cell? ⟨bt, ot + q, none⟩ = some (.int .i64 (((s.h q).a : Nat) : Int)) := hct
  rw [ha] at hct
  go_enter Tryd.func11, Tryd.ntmps11
  go_upto_region 1 with fail
  rw [← HW0.out, HBW.out]
  obtain ⟨q0, q1, q2, q3, q4, q5, q6, q7⟩ := HS0.out.q
  have fq0 := HS0.out.box.free 0
  have fq1 := HS0.out.box.free 1
  have fq2 := HS0.out.box.free 2
  have fq3 := HS0.out.box.free 3
  have fq4 := HS0.out.box.free 4
  have fq5 := HS0.out.box.free 5
  have fq6 := HS0.out.box.free 6
  have fq7 := HS0.out.box.free 7
  obtain ⟨r0, r1, r2, r3, r4, r5, r6, r7⟩ := HS0.out.r
  have fr0 := HS0.out.res.free 0
  have fr1 := HS0.out.res.free 1
  have fr2 := HS0.out.res.free 2
  have fr3 := HS0.out.res.free 3
  have fr4 := HS0.out.res.free 4
  have fr5 := HS0.out.res.free 5
  have fr6 := HS0.out.res.free 6
  have fr7 := HS0.out.res.free 7
  go_wp2_with (go_at_call 26; (with_reducible refine (HI1.out _).mono ?_); rintro e w' ⟨rfl, rfl⟩)
  refine bodyPost_ret (v := .tuple _) (results_cell4 rfl _ _ (b + 1) 34 _ (0, 0) _ rfl HS0.out.told.1 Tryd.underlying34 rfl (by kernel_rfl)) rfl (StpT.of ⟨_, _, _, _, _, _, _, _, _, _, _, _, _, _, _, rfl, told_none, ⟨HS0.out.told.2.2, HGF.out, HGL.out, HGM.out, HGS.out, HF.out⟩, HS0.out.told.2.1⟩)
set_option maxHeartbeats 8000000 in
set_option maxRecDepth 1000000 in
theorem s1a {F : Nat → Prop} {n : Nat} {s : SS} {v0 v1 v2 v3 v4 v5 v6 v7 : Value} {fx : Nat → Int} {fb : Nat → Bool} {Gf Gl Gm Gs : Nat → Pd} (w : World) (h : BK F w n s v0 v1 v2 v3 v4 v5 v6 v7 fx fb Gf Gl Gm Gs) (hF : ∀ b, F b → b < w.heap.size) (h1 : 1 ≤ n) (h4 : n ≤ 4) {q : Nat} (hq : q < n) (ha : (s.h q).a = 1) (hk : (s.h q).k < n) (hkn : (s.h q).k + 1 ≠ n) :
    Calls Tryd.prog 11 #[.agg #[v0, v1, v2, v3, v4, v5, v6, v7], .int .i64 (q : Int)] w fun e w' => StpT F w w' n false none (0) ((⟨nput s.h q ⟨1, (s.h q).k + 1, (s.h q).x, (s.h q).w, (nput (s.h q).f (s.h q).k (s.wd (s.h q).k)), (s.h q).l, (s.h q).mv, (s.h q).sw⟩, s.wd⟩ : SS)) e := by
  obtain ⟨A0, c0, A1, c1, A2, c2, A3, c3, A4, c4, A5, c5, A6, c6, A7, c7, rfl, rfl, rfl, rfl, rfl, rfl, rfl, rfl⟩ := h.forms
  have hst := RS.start h.rv hF
  obtain ⟨b, hb⟩ : ∃ b, b = w.heap.size := ⟨_, rfl⟩
  obtain ⟨W0, hW0⟩ : ∃ W0, W0 = (w.alloc (.cells #[.slice A0 n c0, .slice A1 n c1, .slice A2 n c2, .slice A3 n c3, .slice A4 n c4, .slice A5 n c5, .slice A6 n c6, .slice A7 n c7] 34)).alloc (.cells #[.slice none 0 0, .slice none 0 0, .slice none 0 0, .slice none 0 0, .slice none 0 0, .slice none 0 0, .slice none 0 0, .slice none 0 0] 34) := ⟨_, rfl⟩
  rw [← hW0, ← hb] at hst
  have HS0 := Lib.hid hst
  have hwn : IntKind.i64.wrap ((n : Int) - 1) = (n : Int) - 1 := IntWalk.i64_in _ (by omega)
  have HW0 := Lib.hid hW0
  have HBW := Lib.hid hb.symm
  have HF := Lib.hid h.f
  have HGF := Lib.hid h.gf
  have HGL := Lib.hid h.gl
  have HGM := Lib.hid h.gm
  have HGS := Lib.hid h.gs
  clear hst h hF hb hW0
  have HI1 := Lib.hid (inW_any q 0 ((n : Int) - 1) true (decide_eq_true (by omega)))
  have hqI : (q : Int) < n := by omega
  obtain ⟨bt, ot, rfl, _, _, ut, hct, rfl⟩ := sl_at (h := HS0.out.v.p1) hq
  replace hct : W0.cell? ⟨bt, ot + q, none⟩ = some (.int .i64 (((s.h q).a : Nat) : Int)) := hct
  rw [ha] at hct
  obtain ⟨n1, n2, n3⟩ := (HF.out q hq).one ha
  obtain ⟨bf, of, rfl, hbf, _, ui, hci, hgi⟩ := sl_at (h := HS0.out.v.p4) hq
  rw [n1] at hgi
  obtain ⟨Ai, ci, rfl⟩ := SL.form hgi
  obtain ⟨b0, o0, rfl, hb0, _, hc0, hc1, As, cs, hc2, hsn⟩ := wds_at HS0.out.v.p0 hk
  have HC := Lib.hid (show ∀ W2, Below W0.heap.size W0 W2 → (fun W : World => W.cell? ⟨b, 4, none⟩ = some (.slice (some ⟨bf, of, none⟩) n c4) ∧ W.cell? ⟨bf, of + q, none⟩ = some (.slice Ai (s.h q).k ci) ∧ W.cell? ⟨b, 0, none⟩ = some (.slice (some ⟨b0, o0, none⟩) n c0) ∧ W.cell? ⟨b0, o0 + (s.h q).k * 3, none⟩ = some (.int .i64 (((s.wd (s.h q).k).v : Nat) : Int)) ∧ W.cell? ⟨b0, o0 + (s.h q).k * 3 + 1, none⟩ = some (.int .i64 (((s.wd (s.h q).k).t : Nat) : Int)) ∧ W.cell? ⟨b0, o0 + (s.h q).k * 3 + 2, none⟩ = some (.slice As n cs)) W2 from fun W2 hb => ⟨(hb.cell (p := ⟨b, 4, none⟩) HS0.out.box.lt).trans (HS0.out.box.cell 4), (hb.cell (p := ⟨bf, of + q, none⟩) hbf).trans hci, (hb.cell (p := ⟨b, 0, none⟩) HS0.out.box.lt).trans (HS0.out.box.cell 0), (hb.cell (p := ⟨b0, o0 + (s.h q).k * 3, none⟩) hb0).trans hc0, (hb.cell (p := ⟨b0, o0 + (s.h q).k * 3 + 1, none⟩) hb0).trans hc1, (hb.cell (p := ⟨b0, o0 + (s.h q).k * 3 + 2, none⟩) hb0).trans hc2⟩)
  have HGI := Lib.hid hgi
  have HSN := Lib.hid hsn
  clear hgi hsn hci hc0 hc1 hc2
  go_enter Tryd.func11, Tryd.ntmps11
  go_upto_region 1 with fail
  rw [← HW0.out, HBW.out]
  obtain ⟨q0, q1, q2, q3, q4, q5, q6, q7⟩ := HS0.out.q
  have fq0 := HS0.out.box.free 0
  have fq1 := HS0.out.box.free 1
  have fq2 := HS0.out.box.free 2
  have fq3 := HS0.out.box.free 3
  have fq4 := HS0.out.box.free 4
  have fq5 := HS0.out.box.free 5
  have fq6 := HS0.out.box.free 6
  have fq7 := HS0.out.box.free 7
  obtain ⟨r0, r1, r2, r3, r4, r5, r6, r7⟩ := HS0.out.r
  have fr0 := HS0.out.res.free 0
  have fr1 := HS0.out.res.free 1
  have fr2 := HS0.out.res.free 2
  have fr3 := HS0.out.res.free 3
  have fr4 := HS0.out.res.free 4
  have fr5 := HS0.out.res.free 5
  have fr6 := HS0.out.res.free 6
  have fr7 := HS0.out.res.free 7
  go_upto_region 8 with (go_at_call 26; (with_reducible refine (HI1.out _).mono ?_); rintro e w' ⟨rfl, rfl⟩)
  clear hct
  clear q0 fq0 r0 fr0 q1 fq1 r1 fr1 q2 fq2 r2 fr2 q3 fq3 r3 fr3 q4 fq4 r4 fr4 q5 fq5 r5 fr5 q6 fq6 r6 fr6 q7 fq7 r7 fr7
  refine sreg8_any HS0 hq h4 hk HGF.out HS0.out.v.p4 HGI.out HSN.out HC _ _ _ _ _ _ _ _ _ _ _ _ _ _ _ _ _ _ _ _ _ _ _ _ _ _ _ _ _ _ _ _ _ _ _ _ _ _ _ _ _ _ _ _ _ _ _ _ _ _ _ _ _ _ _ _ _ _ _ _ _ _ _ _ _ _ _ _ _ _ _ _ _ _ _ _ _ _ _ _ _ _ _ _ _ _ _ _ _ _ _ _ _ _ _ _ _ _ _ _ _ _ _ _ _ _ _ _ _ _ _ _ _ _ _ _ _ _ _ _ _ _ _ _ _ _ _ _ _ _ _ _ _ _ _ _ _ _ _ _ _ _ _ _ _ _ _ _ _ _ _ _ _ _ _ _ _ _ _ _ _ _ _ _ _ _ _ _ _ _ _ _ _ _ _ _ _ _ _ _ _ _ _ _ _ _ _ _ _ _ _ _ _ _ _ _ _ _ _ _ _ _ _ _ _ _ _ _ _ _ _ _ _ _ _ _ _ _ _ _ _ _ _ _ _ _ _ _ _ _ _ _ _ _ _ _ _ _ _ _ _ _ _ _ _ _ _ _ _ _ _ _ _ _ _ _ _ _ _ _ (Lib.hid ?_) (fun _ _ d _ _ h => (by cases d <;> exact h))
  intro x0 x1 x2 x3 x4 x5 x6 x7 x8 x9 x10 x11 x12 x13 x14 x15 x16 x17 x18 x19 x20 E1 e1 w5 hn hb5
  obtain ⟨K1, hK1⟩ : ∃ m, m = (s.h q).k + 1 := ⟨_, rfl⟩
  rw [← hK1] at hn
  have HN1 := Lib.hid hn
  have HC1 := Lib.hid (HS0.out.call hb5)
  have hs1 := HC1.out.put4 (sl_stb (rput_stb HGF.out (wds_stb _ _ _))) HN1.out
  obtain ⟨V1, hV1⟩ : ∃ V, V = w5.setCell ⟨b, 4, none⟩ (.slice E1 n e1) := ⟨_, rfl⟩
  rw [← hV1] at hs1 ⊢
  have HS1 := Lib.hid hs1
  clear hs1 hV1 HC1 HN1 hn hb5
  obtain ⟨q0, q1, q2, q3, q4, q5, q6, q7⟩ := HS1.out.q
  have fq0 := HS1.out.box.free 0
  have fq1 := HS1.out.box.free 1
  have fq2 := HS1.out.box.free 2
  have fq3 := HS1.out.box.free 3
  have fq4 := HS1.out.box.free 4
  have fq5 := HS1.out.box.free 5
  have fq6 := HS1.out.box.free 6
  have fq7 := HS1.out.box.free 7
  obtain ⟨r0, r1, r2, r3, r4, r5, r6, r7⟩ := HS1.out.r
  have fr0 := HS1.out.res.free 0
  have fr1 := HS1.out.res.free 1
  have fr2 := HS1.out.res.free 2
  have fr3 := HS1.out.res.free 3
  have fr4 := HS1.out.res.free 4
  have fr5 := HS1.out.res.free 5
  have fr6 := HS1.out.res.free 6
  have fr7 := HS1.out.res.free 7
  obtain ⟨bg, og, rfl, _, _, ug, hcg, hgg⟩ := sl_at (h := HS1.out.v.p4) hq
  rw [rput_same] at hgg
  obtain ⟨Ag, cg, rfl⟩ := SL.form hgg
  have hb1 : (((K1 : Nat) : Int) == ((n : Nat) : Int)) = false := by simp; omega
  have hb2 : (K1 == n) = false := by simp; omega
  go_upto_region 11 with fail
  clear hcg hb1 hb2
  go_wp2
  have HT := Lib.hid HS1.out.told
  refine bodyPost_ret (v := .tuple _) (results_cell4 rfl _ _ (b + 1) 34 _ (0, 0) _ rfl HS1.out.told.1 Tryd.underlying34 rfl (by kernel_rfl)) rfl (StpT.of ⟨_, _, _, _, _, _, _, _, _, _, _, _, _, _, _, rfl, told_none, BK.turn (s' := (⟨nput s.h q ⟨1, (s.h q).k + 1, (s.h q).x, (s.h q).w, (nput (s.h q).f (s.h q).k (s.wd (s.h q).k)), (s.h q).l, (s.h q).mv, (s.h q).sw⟩, s.wd⟩ : SS)) (q := q) HF.out HT.out.2.2 (rput_stb HGF.out (wds_stb _ _ _)) HGL.out HGM.out HGS.out (fun _ _ => rfl) ?_ (fun p e => ⟨nput_other e, rput_other e, rfl, rfl, rfl⟩) ?_, HT.out.2.1⟩)
  · intro p _
    show (((nput s.h q _ p).a : Nat) : Int) = _
    by_cases e : p = q
    · subst e; rw [nput_same]; show _ = (((s.h p).a : Nat) : Int); rw [ha]
    · rw [nput_other e]
  · show HKp n (nput s.h q _ q) _ _ _ _ _ _
    rw [nput_same, rput_same, n2, n3]
    subst hK1
    exact ⟨fun _ => (HF.out q hq).xw (by omega), fun _ => ⟨rfl, rfl, rfl⟩, fun e => (by have e : (1 : Nat) = 2 := e; omega), fun e => (by have e : (1 : Nat) = 3 := e; omega)⟩
set_option maxHeartbeats 8000000 in
set_option maxRecDepth 1000000 in
theorem s1z {F : Nat → Prop} {n : Nat} {s : SS} {v0 v1 v2 v3 v4 v5 v6 v7 : Value} {fx : Nat → Int} {fb : Nat → Bool} {Gf Gl Gm Gs : Nat → Pd} (w : World) (h : BK F w n s v0 v1 v2 v3 v4 v5 v6 v7 fx fb Gf Gl Gm Gs) (hF : ∀ b, F b → b < w.heap.size) (h1 : 1 ≤ n) (h4 : n ≤ 4) {q : Nat} (hq : q < n) (ha : (s.h q).a = 1) (hk : (s.h q).k < n) (hkn : (s.h q).k + 1 = n) :
    Calls Tryd.prog 11 #[.agg #[v0, v1, v2, v3, v4, v5, v6, v7], .int .i64 (q : Int)] w fun e w' => StpT F w w' n false none (0) ((⟨nput s.h q ⟨2, 0, (s.h q).x, (s.h q).w, (nput (s.h q).f (s.h q).k (s.wd (s.h q).k)), (s.h q).l, (s.h q).mv, (s.h q).sw⟩, s.wd⟩ : SS)) e := by
  obtain ⟨A0, c0, A1, c1, A2, c2, A3, c3, A4, c4, A5, c5, A6, c6, A7, c7, rfl, rfl, rfl, rfl, rfl, rfl, rfl, rfl⟩ := h.forms
  have hst := RS.start h.rv hF
  obtain ⟨b, hb⟩ : ∃ b, b = w.heap.size := ⟨_, rfl⟩
  obtain ⟨W0, hW0⟩ : ∃ W0, W0 = (w.alloc (.cells #[.slice A0 n c0, .slice A1 n c1, .slice A2 n c2, .slice A3 n c3, .slice A4 n c4, .slice A5 n c5, .slice A6 n c6, .slice A7 n c7] 34)).alloc (.cells #[.slice none 0 0, .slice none 0 0, .slice none 0 0, .slice none 0 0, .slice none 0 0, .slice none 0 0, .slice none 0 0, .slice none 0 0] 34) := ⟨_, rfl⟩
  rw [← hW0, ← hb] at hst
  have HS0 := Lib.hid hst
  have hwn : IntKind.i64.wrap ((n : Int) - 1) = (n : Int) - 1 := IntWalk.i64_in _ (by omega)
  have HW0 := Lib.hid hW0
  have HBW := Lib.hid hb.symm
  have HF := Lib.hid h.f
  have HGF := Lib.hid h.gf
  have HGL := Lib.hid h.gl
  have HGM := Lib.hid h.gm
  have HGS := Lib.hid h.gs
  clear hst h hF hb hW0
  have HI1 := Lib.hid (inW_any q 0 ((n : Int) - 1) true (decide_eq_true (by omega)))
  have hqI : (q : Int) < n := by omega
  obtain ⟨bt, ot, rfl, _, _, ut, hct, rfl⟩ := sl_at (h := HS0.out.v.p1) hq
  replace hct : W0.cell? ⟨bt, ot + q, none⟩ = some (.int .i64 (((s.h q).a : Nat) : Int)) := hct
  rw [ha] at hct
  obtain ⟨n1, n2, n3⟩ := (HF.out q hq).one ha
  obtain ⟨bf, of, rfl, hbf, _, ui, hci, hgi⟩ := sl_at (h := HS0.out.v.p4) hq
  rw [n1] at hgi
  obtain ⟨Ai, ci, rfl⟩ := SL.form hgi
  obtain ⟨b0, o0, rfl, hb0, _, hc0, hc1, As, cs, hc2, hsn⟩ := wds_at HS0.out.v.p0 hk
  have HC := Lib.hid (show ∀ W2, Below W0.heap.size W0 W2 → (fun W : World => W.cell? ⟨b, 4, none⟩ = some (.slice (some ⟨bf, of, none⟩) n c4) ∧ W.cell? ⟨bf, of + q, none⟩ = some (.slice Ai (s.h q).k ci) ∧ W.cell? ⟨b, 0, none⟩ = some (.slice (some ⟨b0, o0, none⟩) n c0) ∧ W.cell? ⟨b0, o0 + (s.h q).k * 3, none⟩ = some (.int .i64 (((s.wd (s.h q).k).v : Nat) : Int)) ∧ W.cell? ⟨b0, o0 + (s.h q).k * 3 + 1, none⟩ = some (.int .i64 (((s.wd (s.h q).k).t : Nat) : Int)) ∧ W.cell? ⟨b0, o0 + (s.h q).k * 3 + 2, none⟩ = some (.slice As n cs)) W2 from fun W2 hb => ⟨(hb.cell (p := ⟨b, 4, none⟩) HS0.out.box.lt).trans (HS0.out.box.cell 4), (hb.cell (p := ⟨bf, of + q, none⟩) hbf).trans hci, (hb.cell (p := ⟨b, 0, none⟩) HS0.out.box.lt).trans (HS0.out.box.cell 0), (hb.cell (p := ⟨b0, o0 + (s.h q).k * 3, none⟩) hb0).trans hc0, (hb.cell (p := ⟨b0, o0 + (s.h q).k * 3 + 1, none⟩) hb0).trans hc1, (hb.cell (p := ⟨b0, o0 + (s.h q).k * 3 + 2, none⟩) hb0).trans hc2⟩)
  have HGI := Lib.hid hgi
  have HSN := Lib.hid hsn
  clear hgi hsn hci hc0 hc1 hc2
  go_enter Tryd.func11, Tryd.ntmps11
  go_upto_region 1 with fail
  rw [← HW0.out, HBW.out]
  obtain ⟨q0, q1, q2, q3, q4, q5, q6, q7⟩ := HS0.out.q
  have fq0 := HS0.out.box.free 0
  have fq1 := HS0.out.box.free 1
  have fq2 := HS0.out.box.free 2
  have fq3 := HS0.out.box.free 3
  have fq4 := HS0.out.box.free 4
  have fq5 := HS0.out.box.free 5
  have fq6 := HS0.out.box.free 6
  have fq7 := HS0.out.box.free 7
  obtain ⟨r0, r1, r2, r3, r4, r5, r6, r7⟩ := HS0.out.r
  have fr0 := HS0.out.res.free 0
  have fr1 := HS0.out.res.free 1
  have fr2 := HS0.out.res.free 2
  have fr3 := HS0.out.res.free 3
  have fr4 := HS0.out.res.free 4
  have fr5 := HS0.out.res.free 5
  have fr6 := HS0.out.res.free 6
  have fr7 := HS0.out.res.free 7
  go_upto_region 8 with (go_at_call 26; (with_reducible refine (HI1.out _).mono ?_); rintro e w' ⟨rfl, rfl⟩)
  clear hct
  clear q0 fq0 r0 fr0 q1 fq1 r1 fr1 q2 fq2 r2 fr2 q3 fq3 r3 fr3 q4 fq4 r4 fr4 q5 fq5 r5 fr5 q6 fq6 r6 fr6 q7 fq7 r7 fr7
  refine sreg8_any HS0 hq h4 hk HGF.out HS0.out.v.p4 HGI.out HSN.out HC _ _ _ _ _ _ _ _ _ _ _ _ _ _ _ _ _ _ _ _ _ _ _ _ _ _ _ _ _ _ _ _ _ _ _ _ _ _ _ _ _ _ _ _ _ _ _ _ _ _ _ _ _ _ _ _ _ _ _ _ _ _ _ _ _ _ _ _ _ _ _ _ _ _ _ _ _ _ _ _ _ _ _ _ _ _ _ _ _ _ _ _ _ _ _ _ _ _ _ _ _ _ _ _ _ _ _ _ _ _ _ _ _ _ _ _ _ _ _ _ _ _ _ _ _ _ _ _ _ _ _ _ _ _ _ _ _ _ _ _ _ _ _ _ _ _ _ _ _ _ _ _ _ _ _ _ _ _ _ _ _ _ _ _ _ _ _ _ _ _ _ _ _ _ _ _ _ _ _ _ _ _ _ _ _ _ _ _ _ _ _ _ _ _ _ _ _ _ _ _ _ _ _ _ _ _ _ _ _ _ _ _ _ _ _ _ _ _ _ _ _ _ _ _ _ _ _ _ _ _ _ _ _ _ _ _ _ _ _ _ _ _ _ _ _ _ _ _ _ _ _ _ _ _ _ _ _ _ _ _ (Lib.hid ?_) (fun _ _ d _ _ h => (by cases d <;> exact h))
  intro x0 x1 x2 x3 x4 x5 x6 x7 x8 x9 x10 x11 x12 x13 x14 x15 x16 x17 x18 x19 x20 E1 e1 w5 hn hb5
  obtain ⟨K1, hK1⟩ : ∃ m, m = (s.h q).k + 1 := ⟨_, rfl⟩
  rw [← hK1] at hn
  have HN1 := Lib.hid hn
  have HC1 := Lib.hid (HS0.out.call hb5)
  have hs1 := HC1.out.put4 (sl_stb (rput_stb HGF.out (wds_stb _ _ _))) HN1.out
  obtain ⟨V1, hV1⟩ : ∃ V, V = w5.setCell ⟨b, 4, none⟩ (.slice E1 n e1) := ⟨_, rfl⟩
  rw [← hV1] at hs1 ⊢
  have HS1 := Lib.hid hs1
  clear hs1 hV1 HC1 HN1 hn hb5
  obtain ⟨q0, q1, q2, q3, q4, q5, q6, q7⟩ := HS1.out.q
  have fq0 := HS1.out.box.free 0
  have fq1 := HS1.out.box.free 1
  have fq2 := HS1.out.box.free 2
  have fq3 := HS1.out.box.free 3
  have fq4 := HS1.out.box.free 4
  have fq5 := HS1.out.box.free 5
  have fq6 := HS1.out.box.free 6
  have fq7 := HS1.out.box.free 7
  obtain ⟨r0, r1, r2, r3, r4, r5, r6, r7⟩ := HS1.out.r
  have fr0 := HS1.out.res.free 0
  have fr1 := HS1.out.res.free 1
  have fr2 := HS1.out.res.free 2
  have fr3 := HS1.out.res.free 3
  have fr4 := HS1.out.res.free 4
  have fr5 := HS1.out.res.free 5
  have fr6 := HS1.out.res.free 6
  have fr7 := HS1.out.res.free 7
  obtain ⟨bg, og, rfl, _, _, ug, hcg, hgg⟩ := sl_at (h := HS1.out.v.p4) hq
  rw [rput_same] at hgg
  obtain ⟨Ag, cg, rfl⟩ := SL.form hgg
  have hb1 : (((K1 : Nat) : Int) == ((n : Nat) : Int)) = true := by simp; omega
  have hb2 : (K1 == n) = true := by simp; omega
  go_upto_region 11 with (go_at_call 27; (with_reducible refine (set_nm 2 HS1.out.hF HS1.out.v.p1 hq (by omega)).mono ?_); rintro e w2 ⟨E2, e2, rfl, hn, hb⟩; have HN2 := Lib.hid hn; have HC2 := Lib.hid (HS1.out.call hb); have qd := HC2.out.q.2.1; have fd2 := HC2.out.box.free 1; clear hn hb)
  clear hcg hb1 hb2
  clear q0 fq0 r0 fr0 q1 fq1 r1 fr1 q2 fq2 r2 fr2 q3 fq3 r3 fr3 q4 fq4 r4 fr4 q5 fq5 r5 fr5 q6 fq6 r6 fr6 q7 fq7 r7 fr7
  clear qd fd2
  have hs2 := HC2.out.put1 (nm_stb _ _) HN2.out
  obtain ⟨V2, hV2⟩ : ∃ V, V = w2.setCell ⟨b, 1, none⟩ (.slice E2 n e2) := ⟨_, rfl⟩
  rw [← hV2] at hs2 ⊢
  have HS2 := Lib.hid hs2
  clear hs2 hV2 HC2 HN2
  obtain ⟨q0, q1, q2, q3, q4, q5, q6, q7⟩ := HS2.out.q
  have fq0 := HS2.out.box.free 0
  have fq1 := HS2.out.box.free 1
  have fq2 := HS2.out.box.free 2
  have fq3 := HS2.out.box.free 3
  have fq4 := HS2.out.box.free 4
  have fq5 := HS2.out.box.free 5
  have fq6 := HS2.out.box.free 6
  have fq7 := HS2.out.box.free 7
  obtain ⟨r0, r1, r2, r3, r4, r5, r6, r7⟩ := HS2.out.r
  have fr0 := HS2.out.res.free 0
  have fr1 := HS2.out.res.free 1
  have fr2 := HS2.out.res.free 2
  have fr3 := HS2.out.res.free 3
  have fr4 := HS2.out.res.free 4
  have fr5 := HS2.out.res.free 5
  have fr6 := HS2.out.res.free 6
  have fr7 := HS2.out.res.free 7
  go_wp2
  have HT := Lib.hid HS2.out.told
  refine bodyPost_ret (v := .tuple _) (results_cell4 rfl _ _ (b + 1) 34 _ (0, 0) _ rfl HS2.out.told.1 Tryd.underlying34 rfl (by kernel_rfl)) rfl (StpT.of ⟨_, _, _, _, _, _, _, _, _, _, _, _, _, _, _, rfl, told_none, BK.turn (s' := (⟨nput s.h q ⟨2, 0, (s.h q).x, (s.h q).w, (nput (s.h q).f (s.h q).k (s.wd (s.h q).k)), (s.h q).l, (s.h q).mv, (s.h q).sw⟩, s.wd⟩ : SS)) (q := q) HF.out HT.out.2.2 (rput_stb HGF.out (wds_stb _ _ _)) HGL.out HGM.out HGS.out (fun _ _ => rfl) ?_ (fun p e => ⟨nput_other e, rput_other e, rfl, rfl, rfl⟩) ?_, HT.out.2.1⟩)
  · intro p _
    show (((nput s.h q _ p).a : Nat) : Int) = _
    by_cases e : p = q
    · subst e; rw [nput_same, rput_same]; rfl
    · rw [nput_other e, rput_other e]
  · show HKp n (nput s.h q _ q) _ _ _ _ _ _
    rw [nput_same, rput_same, n2, n3]
    obtain rfl : K1 = n := by omega
    exact ⟨fun _ => (HF.out q hq).xw (by omega), fun e => (by have e : (2 : Nat) = 1 := e; omega), fun _ => ⟨rfl, rfl, rfl⟩, fun e => (by have e : (2 : Nat) = 3 := e; omega)⟩
set_option maxHeartbeats 8000000 in
set_option maxRecDepth 1000000 in
theorem s2a {F : Nat → Prop} {n : Nat} {s : SS} {v0 v1 v2 v3 v4 v5 v6 v7 : Value} {fx : Nat → Int} {fb : Nat → Bool} {Gf Gl Gm Gs : Nat → Pd} (w : World) (h : BK F w n s v0 v1 v2 v3 v4 v5 v6 v7 fx fb Gf Gl Gm Gs) (hF : ∀ b, F b → b < w.heap.size) (h1 : 1 ≤ n) (h4 : n ≤ 4) {q : Nat} (hq : q < n) (ha : (s.h q).a = 2) (hk : (s.h q).k < n) (hkn : (s.h q).k + 1 ≠ n) :
    Calls Tryd.prog 11 #[.agg #[v0, v1, v2, v3, v4, v5, v6, v7], .int .i64 (q : Int)] w fun e w' => StpT F w w' n false none (0) ((⟨nput s.h q ⟨2, (s.h q).k + 1, (s.h q).x, (s.h q).w, (s.h q).f, (slast s q), (s.h q).mv, (s.h q).sw⟩, s.wd⟩ : SS)) e := by
  obtain ⟨A0, c0, A1, c1, A2, c2, A3, c3, A4, c4, A5, c5, A6, c6, A7, c7, rfl, rfl, rfl, rfl, rfl, rfl, rfl, rfl⟩ := h.forms
  have hst := RS.start h.rv hF
  obtain ⟨b, hb⟩ : ∃ b, b = w.heap.size := ⟨_, rfl⟩
  obtain ⟨W0, hW0⟩ : ∃ W0, W0 = (w.alloc (.cells #[.slice A0 n c0, .slice A1 n c1, .slice A2 n c2, .slice A3 n c3, .slice A4 n c4, .slice A5 n c5, .slice A6 n c6, .slice A7 n c7] 34)).alloc (.cells #[.slice none 0 0, .slice none 0 0, .slice none 0 0, .slice none 0 0, .slice none 0 0, .slice none 0 0, .slice none 0 0, .slice none 0 0] 34) := ⟨_, rfl⟩
  rw [← hW0, ← hb] at hst
  have HS0 := Lib.hid hst
  have hwn : IntKind.i64.wrap ((n : Int) - 1) = (n : Int) - 1 := IntWalk.i64_in _ (by omega)
  have HW0 := Lib.hid hW0
  have HBW := Lib.hid hb.symm
  have HF := Lib.hid h.f
  have HGF := Lib.hid h.gf
  have HGL := Lib.hid h.gl
  have HGM := Lib.hid h.gm
  have HGS := Lib.hid h.gs
  clear hst h hF hb hW0
  have HI1 := Lib.hid (inW_any q 0 ((n : Int) - 1) true (decide_eq_true (by omega)))
  have hqI : (q : Int) < n := by omega
  obtain ⟨bt, ot, rfl, _, _, ut, hct, rfl⟩ := sl_at (h := HS0.out.v.p1) hq
  replace hct : W0.cell? ⟨bt, ot + q, none⟩ = some (.int .i64 (((s.h q).a : Nat) : Int)) := hct
  rw [ha] at hct
  obtain ⟨n1, n2, n3⟩ := (HF.out q hq).two ha
  obtain ⟨bf, of, rfl, hbf, _, ui, hci, hgi⟩ := sl_at (h := HS0.out.v.p5) hq
  rw [n2] at hgi
  obtain ⟨Ai, ci, rfl⟩ := SL.form hgi
  obtain ⟨b0, o0, rfl, hb0, _, hc0, hc1, As, cs, hc2, hsn⟩ := wds_at HS0.out.v.p0 hk
  have HC := Lib.hid (show ∀ W2, Below W0.heap.size W0 W2 → (fun W : World => W.cell? ⟨b, 5, none⟩ = some (.slice (some ⟨bf, of, none⟩) n c5) ∧ W.cell? ⟨bf, of + q, none⟩ = some (.slice Ai (s.h q).k ci) ∧ W.cell? ⟨b, 0, none⟩ = some (.slice (some ⟨b0, o0, none⟩) n c0) ∧ W.cell? ⟨b0, o0 + (s.h q).k * 3, none⟩ = some (.int .i64 (((s.wd (s.h q).k).v : Nat) : Int)) ∧ W.cell? ⟨b0, o0 + (s.h q).k * 3 + 1, none⟩ = some (.int .i64 (((s.wd (s.h q).k).t : Nat) : Int)) ∧ W.cell? ⟨b0, o0 + (s.h q).k * 3 + 2, none⟩ = some (.slice As n cs)) W2 from fun W2 hb => ⟨(hb.cell (p := ⟨b, 5, none⟩) HS0.out.box.lt).trans (HS0.out.box.cell 5), (hb.cell (p := ⟨bf, of + q, none⟩) hbf).trans hci, (hb.cell (p := ⟨b, 0, none⟩) HS0.out.box.lt).trans (HS0.out.box.cell 0), (hb.cell (p := ⟨b0, o0 + (s.h q).k * 3, none⟩) hb0).trans hc0, (hb.cell (p := ⟨b0, o0 + (s.h q).k * 3 + 1, none⟩) hb0).trans hc1, (hb.cell (p := ⟨b0, o0 + (s.h q).k * 3 + 2, none⟩) hb0).trans hc2⟩)
  have HGI := Lib.hid hgi
  have HSN := Lib.hid hsn
  clear hgi hsn hci hc0 hc1 hc2
  go_enter Tryd.func11, Tryd.ntmps11
  go_upto_region 1 with fail
  rw [← HW0.out, HBW.out]
  obtain ⟨q0, q1, q2, q3, q4, q5, q6, q7⟩ := HS0.out.q
  have fq0 := HS0.out.box.free 0
  have fq1 := HS0.out.box.free 1
  have fq2 := HS0.out.box.free 2
  have fq3 := HS0.out.box.free 3
  have fq4 := HS0.out.box.free 4
  have fq5 := HS0.out.box.free 5
  have fq6 := HS0.out.box.free 6
  have fq7 := HS0.out.box.free 7
  obtain ⟨r0, r1, r2, r3, r4, r5, r6, r7⟩ := HS0.out.r
  have fr0 := HS0.out.res.free 0
  have fr1 := HS0.out.res.free 1
  have fr2 := HS0.out.res.free 2
  have fr3 := HS0.out.res.free 3
  have fr4 := HS0.out.res.free 4
  have fr5 := HS0.out.res.free 5
  have fr6 := HS0.out.res.free 6
  have fr7 := HS0.out.res.free 7
  go_upto_region 19 with (go_at_call 26; (with_reducible refine (HI1.out _).mono ?_); rintro e w' ⟨rfl, rfl⟩)
  clear hct
  clear q0 fq0 r0 fr0 q1 fq1 r1 fr1 q2 fq2 r2 fr2 q3 fq3 r3 fr3 q4 fq4 r4 fr4 q5 fq5 r5 fr5 q6 fq6 r6 fr6 q7 fq7 r7 fr7
  refine sreg19_any HS0 hq h4 hk HGL.out HS0.out.v.p5 HGI.out HSN.out HC _ _ _ _ _ _ _ _ _ _ _ _ _ _ _ _ _ _ _ _ _ _ _ _ _ _ _ _ _ _ _ _ _ _ _ _ _ _ _ _ _ _ _ _ _ _ _ _ _ _ _ _ _ _ _ _ _ _ _ _ _ _ _ _ _ _ _ _ _ _ _ _ _ _ _ _ _ _ _ _ _ _ _ _ _ _ _ _ _ _ _ _ _ _ _ _ _ _ _ _ _ _ _ _ _ _ _ _ _ _ _ _ _ _ _ _ _ _ _ _ _ _ _ _ _ _ _ _ _ _ _ _ _ _ _ _ _ _ _ _ _ _ _ _ _ _ _ _ _ _ _ _ _ _ _ _ _ _ _ _ _ _ _ _ _ _ _ _ _ _ _ _ _ _ _ _ _ _ _ _ _ _ _ _ _ _ _ _ _ _ _ _ _ _ _ _ _ _ _ _ _ _ _ _ _ _ _ _ _ _ _ _ _ _ _ _ _ _ _ _ _ _ _ _ _ _ _ _ _ _ _ _ _ _ _ _ _ _ _ _ _ _ _ _ _ _ _ _ _ _ _ _ _ _ _ _ _ _ _ _ (Lib.hid ?_) (fun _ _ d _ _ h => (by cases d <;> exact h))
  intro x0 x1 x2 x3 x4 x5 x6 x7 x8 x9 x10 x11 x12 x13 x14 x15 x16 x17 x18 x19 x20 E1 e1 w5 hn hb5
  obtain ⟨K1, hK1⟩ : ∃ m, m = (s.h q).k + 1 := ⟨_, rfl⟩
  rw [← hK1] at hn
  have HN1 := Lib.hid hn
  have HC1 := Lib.hid (HS0.out.call hb5)
  have hs1 := HC1.out.put5 (sl_stb (rput_stb HGL.out (wds_stb _ _ _))) HN1.out
  obtain ⟨V1, hV1⟩ : ∃ V, V = w5.setCell ⟨b, 5, none⟩ (.slice E1 n e1) := ⟨_, rfl⟩
  rw [← hV1] at hs1 ⊢
  have HS1 := Lib.hid hs1
  clear hs1 hV1 HC1 HN1 hn hb5
  obtain ⟨q0, q1, q2, q3, q4, q5, q6, q7⟩ := HS1.out.q
  have fq0 := HS1.out.box.free 0
  have fq1 := HS1.out.box.free 1
  have fq2 := HS1.out.box.free 2
  have fq3 := HS1.out.box.free 3
  have fq4 := HS1.out.box.free 4
  have fq5 := HS1.out.box.free 5
  have fq6 := HS1.out.box.free 6
  have fq7 := HS1.out.box.free 7
  obtain ⟨r0, r1, r2, r3, r4, r5, r6, r7⟩ := HS1.out.r
  have fr0 := HS1.out.res.free 0
  have fr1 := HS1.out.res.free 1
  have fr2 := HS1.out.res.free 2
  have fr3 := HS1.out.res.free 3
  have fr4 := HS1.out.res.free 4
  have fr5 := HS1.out.res.free 5
  have fr6 := HS1.out.res.free 6
  have fr7 := HS1.out.res.free 7
  obtain ⟨bg, og, rfl, _, _, ug, hcg, hgg⟩ := sl_at (h := HS1.out.v.p5) hq
  rw [rput_same] at hgg
  obtain ⟨Ag, cg, rfl⟩ := SL.form hgg
  have hb1 : decide (((K1 : Nat) : Int) < ((n : Nat) : Int)) = true := decide_eq_true (by omega)
  have hb2 : decide (K1 < n) = true := decide_eq_true (by omega)
  have hb3 : ((K1 : Nat) : Int) < ((n : Nat) : Int) := by omega
  have hb4 : K1 < n := by omega
  go_upto_region 21 with fail
  clear hcg hb1 hb2 hb3
  go_wp2
  have HT := Lib.hid HS1.out.told
  refine bodyPost_ret (v := .tuple _) (results_cell4 rfl _ _ (b + 1) 34 _ (0, 0) _ rfl HS1.out.told.1 Tryd.underlying34 rfl (by kernel_rfl)) rfl (StpT.of ⟨_, _, _, _, _, _, _, _, _, _, _, _, _, _, _, rfl, told_none, BK.turn (s' := (⟨nput s.h q ⟨2, (s.h q).k + 1, (s.h q).x, (s.h q).w, (s.h q).f, (slast s q), (s.h q).mv, (s.h q).sw⟩, s.wd⟩ : SS)) (q := q) HF.out HT.out.2.2 HGF.out (rput_stb HGL.out (wds_stb _ _ _)) HGM.out HGS.out (fun _ _ => rfl) ?_ (fun p e => ⟨nput_other e, rfl, rput_other e, rfl, rfl⟩) ?_, HT.out.2.1⟩)
  · intro p _
    show (((nput s.h q _ p).a : Nat) : Int) = _
    by_cases e : p = q
    · subst e; rw [nput_same]; show _ = (((s.h p).a : Nat) : Int); rw [ha]
    · rw [nput_other e]
  · show HKp n (nput s.h q _ q) _ _ _ _ _ _
    rw [nput_same, rput_same, n1, n3]
    subst hK1
    exact ⟨fun _ => (HF.out q hq).xw (by omega), fun e => (by have e : (2 : Nat) = 1 := e; omega), fun _ => ⟨rfl, rfl, rfl⟩, fun e => (by have e : (2 : Nat) = 3 := e; omega)⟩
set_option maxHeartbeats 8000000 in
set_option maxRecDepth 1000000 in
theorem s3 {F : Nat → Prop} {n : Nat} {s : SS} {v0 v1 v2 v3 v4 v5 v6 v7 : Value} {fx : Nat → Int} {fb : Nat → Bool} {Gf Gl Gm Gs : Nat → Pd} (w : World) (h : BK F w n s v0 v1 v2 v3 v4 v5 v6 v7 fx fb Gf Gl Gm Gs) (hF : ∀ b, F b → b < w.heap.size) (h1 : 1 ≤ n) (h4 : n ≤ 4) {q : Nat} (hq : q < n) (ha : (s.h q).a = 3) (ht : (s.wd q).t ≤ 1000000) :
    Calls Tryd.prog 11 #[.agg #[v0, v1, v2, v3, v4, v5, v6, v7], .int .i64 (q : Int)] w fun e w' => StpT F w w' n true none (0) ((⟨nput s.h q ⟨0, (s.h q).k, (s.h q).x, (s.h q).w, (s.h q).f, (s.h q).l, (s.h q).mv, (s.h q).sw⟩, nput s.wd q ⟨(s.h q).x, (s.wd q).t + 1, (s.h q).sw⟩⟩ : SS)) e := by
  obtain ⟨A0, c0, A1, c1, A2, c2, A3, c3, A4, c4, A5, c5, A6, c6, A7, c7, rfl, rfl, rfl, rfl, rfl, rfl, rfl, rfl⟩ := h.forms
  have hst := RS.start h.rv hF
  obtain ⟨b, hb⟩ : ∃ b, b = w.heap.size := ⟨_, rfl⟩
  obtain ⟨W0, hW0⟩ : ∃ W0, W0 = (w.alloc (.cells #[.slice A0 n c0, .slice A1 n c1, .slice A2 n c2, .slice A3 n c3, .slice A4 n c4, .slice A5 n c5, .slice A6 n c6, .slice A7 n c7] 34)).alloc (.cells #[.slice none 0 0, .slice none 0 0, .slice none 0 0, .slice none 0 0, .slice none 0 0, .slice none 0 0, .slice none 0 0, .slice none 0 0] 34) := ⟨_, rfl⟩
  rw [← hW0, ← hb] at hst
  have HS0 := Lib.hid hst
  have hwn : IntKind.i64.wrap ((n : Int) - 1) = (n : Int) - 1 := IntWalk.i64_in _ (by omega)
  have HW0 := Lib.hid hW0
  have HBW := Lib.hid hb.symm
  have HF := Lib.hid h.f
  have HGF := Lib.hid h.gf
  have HGL := Lib.hid h.gl
  have HGM := Lib.hid h.gm
  have HGS := Lib.hid h.gs
  clear hst h hF hb hW0
  have HI1 := Lib.hid (inW_any q 0 ((n : Int) - 1) true (decide_eq_true (by omega)))
  have hqI : (q : Int) < n := by omega
  obtain ⟨bt, ot, rfl, _, _, ut, hct, rfl⟩ := sl_at (h := HS0.out.v.p1) hq
  replace hct : W0.cell? ⟨bt, ot + q, none⟩ = some (.int .i64 (((s.h q).a : Nat) : Int)) := hct
  rw [ha] at hct
  have e1 := (HF.out q hq).three ha
  have hxw := ((HF.out q hq).xw (by omega)).1
  obtain ⟨i0, hi0, hz0, hz1, hz2⟩ := info_parts Tword_info
  obtain ⟨b2, o2, rfl, hb2, _, u2, hc2, rfl⟩ := sl_at (h := HS0.out.v.p2) hq
  rw [hxw] at hc2
  obtain ⟨b7, o7, rfl, hb7, _, u7, hc7, hg7⟩ := sl_at (h := HS0.out.v.p7) hq
  rw [e1] at hg7
  obtain ⟨As, cs, rfl⟩ := SL.form hg7
  obtain ⟨b0, o0, rfl, hb0, _, _, hc0, _⟩ := wds_at HS0.out.v.p0 hq
  obtain ⟨b9, o9, e9, _, _, us, hul, hcell, hus⟩ := SL.vals HS0.out.v.p0 (by rw [wl_len]; omega)
  injection e9 with e9
  injection e9 with e9 e10 _
  subst e9 e10
  rw [wl_len] at hul
  have huone : ∀ u ∈ us, u.oneCell' = true := fun u hu => by
    obtain ⟨j, hj⟩ := List.mem_iff_getElem?.1 hu
    have hjl : j < (wl n n s.wd).length := by rw [wl_len, ← hul]; exact (List.getElem?_eq_some_iff.1 hj).1
    obtain ⟨u2, h2, h3⟩ := hus j _ (List.getElem?_eq_getElem hjl)
    rw [hj] at h2
    rw [Option.some.inj h2]
    exact (wl_stb n n s.wd _ (List.getElem_mem hjl)).one h3
  have hn0 : 0 < n := by omega
  have HC := Lib.hid hcell
  have HU := Lib.hid hul
  have HO1 := Lib.hid huone
  have HUS := Lib.hid hus
  have HG7 := Lib.hid hg7
  have HC3 := Lib.hid (show ∀ W2, Below W0.heap.size W0 W2 → (fun W : World => W.cell? ⟨b, 2, none⟩ = some (.slice (some ⟨b2, o2, none⟩) n c2) ∧ W.cell? ⟨b2, o2 + q, none⟩ = some (.int .i64 (((s.h q).x : Nat) : Int)) ∧ W.cell? ⟨b, 0, none⟩ = some (.slice (some ⟨b0, o0, none⟩) n c0) ∧ W.cell? ⟨b0, o0 + q * 3 + 1, none⟩ = some (.int .i64 (((s.wd q).t : Nat) : Int)) ∧ W.cell? ⟨b, 7, none⟩ = some (.slice (some ⟨b7, o7, none⟩) n c7) ∧ W.cell? ⟨b7, o7 + q, none⟩ = some (.slice As n cs)) W2 from fun W2 hb => ⟨(hb.cell (p := ⟨b, 2, none⟩) HS0.out.box.lt).trans (HS0.out.box.cell 2), (hb.cell (p := ⟨b2, o2 + q, none⟩) hb2).trans hc2, (hb.cell (p := ⟨b, 0, none⟩) HS0.out.box.lt).trans (HS0.out.box.cell 0), (hb.cell (p := ⟨b0, o0 + q * 3 + 1, none⟩) hb0).trans hc0, (hb.cell (p := ⟨b, 7, none⟩) HS0.out.box.lt).trans (HS0.out.box.cell 7), (hb.cell (p := ⟨b7, o7 + q, none⟩) hb7).trans hc7⟩)
  clear hcell hul huone hus hg7 hc2 hc7 hc0
  go_enter Tryd.func11, Tryd.ntmps11
  go_upto_region 1 with fail
  rw [← HW0.out, HBW.out]
  obtain ⟨q0, q1, q2, q3, q4, q5, q6, q7⟩ := HS0.out.q
  have fq0 := HS0.out.box.free 0
  have fq1 := HS0.out.box.free 1
  have fq2 := HS0.out.box.free 2
  have fq3 := HS0.out.box.free 3
  have fq4 := HS0.out.box.free 4
  have fq5 := HS0.out.box.free 5
  have fq6 := HS0.out.box.free 6
  have fq7 := HS0.out.box.free 7
  obtain ⟨r0, r1, r2, r3, r4, r5, r6, r7⟩ := HS0.out.r
  have fr0 := HS0.out.res.free 0
  have fr1 := HS0.out.res.free 1
  have fr2 := HS0.out.res.free 2
  have fr3 := HS0.out.res.free 3
  have fr4 := HS0.out.res.free 4
  have fr5 := HS0.out.res.free 5
  have fr6 := HS0.out.res.free 6
  have fr7 := HS0.out.res.free 7
  go_upto_region 15 with (first | (go_at_call 26; (with_reducible refine (HI1.out _).mono ?_); rintro e w' ⟨rfl, rfl⟩) | (at_builtin; refine wpList_append_lies _ rfl (.tmp 71) (.tmp 73) 29 rfl W0.heap.size 48 i0 (.agg #[.int .i64 0, .int .i64 0, .slice none 0 0]) 3 40 Tryd.underlying29 hi0 hz0 hz1 hz2 rfl (by omega) (.slice none 0 0) 0 [] rfl (World.ownsRow_nil _ _ _ _) ⟨b0, o0, none⟩ n c0 us rfl (by rw [HU.out]) HC.out HO1.out hn0 (by unfold maxLen; omega) (by omega) (Nat.le_refl _) W0.heap.size rfl ?_; intro g cap w1 hown hgrow hat hlt; have HO := Lib.hid hown; have HG := Lib.hid hgrow; clear hown hgrow hat hlt))
  clear hct
  clear q0 fq0 r0 fr0 q1 fq1 r1 fr1 q2 fq2 r2 fr2 q3 fq3 r3 fr3 q4 fq4 r4 fr4 q5 fq5 r5 fr5 q6 fq6 r6 fr6 q7 fq7 r7 fr7
  have ho : w1.ownsRow W0.heap.size 48 3 (.slice (some ⟨g, 0, none⟩) n cap) n us := by have := HO.out; rwa [Nat.zero_add, List.nil_append] at this
  have hb1 : Below W0.heap.size W0 w1 := (Below.refl W0.heap.size W0).grown HG.out (Nat.le_refl _) fun k hk => (by cases hk)
  have hlu : ∀ i, i < n * 3 → ∃ y, w1.cell? ⟨g, i, none⟩ = some y := fun i hi => ⟨us[i]'(by have := HU.out; omega), by rw [ho.cellAt i (by have := HU.out; omega)]; exact List.getElem?_eq_getElem _⟩
  obtain ⟨y0, g0⟩ := hlu (q * 3) (by omega)
  obtain ⟨y1, g1⟩ := hlu (q * 3 + 1) (by omega)
  obtain ⟨y2, g2⟩ := hlu (q * 3 + 2) (by omega)
  have f0 := ho.frozenAt (q * 3)
  have f1 := ho.frozenAt (q * 3 + 1)
  have f2 := ho.frozenAt (q * 3 + 2)
  have HOW := Lib.hid (own_words (w := W0) (x := (s.h q).x) (t := (s.wd q).t + 1) (sf := (s.h q).sw) (show w1.drew.ownsRow _ _ _ _ _ _ from ho) HS0.out.hF hb1.drew HU.out HUS.out hq HG7.out)
  have HC4 := Lib.hid (HC3.out w1.drew hb1.drew)
  clear ho hb1 hlu HO HG HC3
  refine sreg15_any hq ht HC4 g0 g1 g2 f0 f1 f2 _ _ _ _ _ _ _ _ _ _ _ _ _ _ _ _ _ _ _ _ _ _ _ _ _ _ _ _ _ _ _ _ _ _ _ _ _ _ _ _ _ _ _ _ _ _ _ _ _ _ _ _ _ _ _ _ _ _ _ _ _ _ _ _ _ _ _ _ _ _ _ _ _ _ _ _ _ _ _ _ _ _ _ _ _ _ _ _ _ _ _ _ _ _ _ _ _ _ _ _ _ _ _ _ _ _ _ _ _ _ _ _ _ _ _ _ _ _ _ _ _ _ _ _ _ _ _ _ _ _ _ _ _ _ _ _ _ _ _ _ _ _ _ _ _ _ _ _ _ _ _ _ _ _ _ _ _ _ _ _ _ _ _ _ _ _ _ _ _ _ _ _ _ _ _ _ _ _ _ _ _ _ _ _ _ _ _ _ _ _ _ _ _ _ _ _ _ _ _ _ _ _ _ _ _ _ _ _ _ _ _ _ _ _ _ _ _ _ _ _ _ _ _ _ _ _ _ _ _ _ _ _ _ _ _ _ _ _ _ _ _ _ _ _ _ _ _ _ _ _ _ _ _ _ _ _ _ _ _ (Lib.hid ?_) (fun _ _ d _ _ h => (by cases d <;> exact h))
  intro x0 x1 x2 x3 x4 x5 x6 x7 x8 x9 x10 x11 x12 x13 x14 x15 x16 x17 x18 x19 x20
  obtain ⟨hw1, hb3⟩ := HOW.out
  obtain ⟨V1, hV1⟩ : ∃ V, V = ((w1.drew.setCell ⟨g, q * 3, none⟩ (.int .i64 (((s.h q).x : Nat) : Int))).setCell ⟨g, q * 3 + 1, none⟩ (.int .i64 (((s.wd q).t + 1 : Nat) : Int))).setCell ⟨g, q * 3 + 2, none⟩ (.slice As n cs) := ⟨_, rfl⟩
  rw [← hV1] at hw1 hb3 ⊢
  have HS1 := Lib.hid (HS0.out.call hb3)
  have HN1 := Lib.hid hw1
  clear hw1 hb3 hV1 HOW g0 g1 g2 f0 f1 f2
  obtain ⟨q0, q1, q2, q3, q4, q5, q6, q7⟩ := HS1.out.q
  have fq0 := HS1.out.box.free 0
  have fq1 := HS1.out.box.free 1
  have fq2 := HS1.out.box.free 2
  have fq3 := HS1.out.box.free 3
  have fq4 := HS1.out.box.free 4
  have fq5 := HS1.out.box.free 5
  have fq6 := HS1.out.box.free 6
  have fq7 := HS1.out.box.free 7
  obtain ⟨r0, r1, r2, r3, r4, r5, r6, r7⟩ := HS1.out.r
  have fr0 := HS1.out.res.free 0
  have fr1 := HS1.out.res.free 1
  have fr2 := HS1.out.res.free 2
  have fr3 := HS1.out.res.free 3
  have fr4 := HS1.out.res.free 4
  have fr5 := HS1.out.res.free 5
  have fr6 := HS1.out.res.free 6
  have fr7 := HS1.out.res.free 7
  go_upto_region 17 with fail
  clear q0 fq0 r0 fr0 q1 fq1 r1 fr1 q2 fq2 r2 fr2 q3 fq3 r3 fr3 q4 fq4 r4 fr4 q5 fq5 r5 fr5 q6 fq6 r6 fr6 q7 fq7 r7 fr7
  have hs2 := HS1.out.put0 (wds_stb _ _ _) HN1.out
  obtain ⟨V2, hV2⟩ : ∃ V, V = V1.setCell ⟨b, 0, none⟩ (.slice (some ⟨g, 0, none⟩) n cap) := ⟨_, rfl⟩
  rw [← hV2] at hs2 ⊢
  have HS2 := Lib.hid hs2
  clear hs2 hV2 HN1
  obtain ⟨q0, q1, q2, q3, q4, q5, q6, q7⟩ := HS2.out.q
  have fq0 := HS2.out.box.free 0
  have fq1 := HS2.out.box.free 1
  have fq2 := HS2.out.box.free 2
  have fq3 := HS2.out.box.free 3
  have fq4 := HS2.out.box.free 4
  have fq5 := HS2.out.box.free 5
  have fq6 := HS2.out.box.free 6
  have fq7 := HS2.out.box.free 7
  obtain ⟨r0, r1, r2, r3, r4, r5, r6, r7⟩ := HS2.out.r
  have fr0 := HS2.out.res.free 0
  have fr1 := HS2.out.res.free 1
  have fr2 := HS2.out.res.free 2
  have fr3 := HS2.out.res.free 3
  have fr4 := HS2.out.res.free 4
  have fr5 := HS2.out.res.free 5
  have fr6 := HS2.out.res.free 6
  have fr7 := HS2.out.res.free 7
  go_upto_region 18 with (go_at_call 27; (with_reducible refine (set_nm 0 HS2.out.hF HS2.out.v.p1 hq (by omega)).mono ?_); rintro e w3 ⟨E3, e3, rfl, hn, hb⟩; have HN3 := Lib.hid hn; have HC3 := Lib.hid (HS2.out.call hb); have qd := HC3.out.q.2.1; have fd3 := HC3.out.box.free 1; clear hn hb)
  clear q0 fq0 r0 fr0 q1 fq1 r1 fr1 q2 fq2 r2 fr2 q3 fq3 r3 fr3 q4 fq4 r4 fr4 q5 fq5 r5 fr5 q6 fq6 r6 fr6 q7 fq7 r7 fr7
  clear qd fd3
  have hs3 := HC3.out.put1 (nm_stb _ _) HN3.out
  obtain ⟨V3, hV3⟩ : ∃ V, V = w3.setCell ⟨b, 1, none⟩ (.slice E3 n e3) := ⟨_, rfl⟩
  rw [← hV3] at hs3 ⊢
  have HS3 := Lib.hid hs3
  clear hs3 hV3 HC3 HN3
  obtain ⟨q0, q1, q2, q3, q4, q5, q6, q7⟩ := HS3.out.q
  have fq0 := HS3.out.box.free 0
  have fq1 := HS3.out.box.free 1
  have fq2 := HS3.out.box.free 2
  have fq3 := HS3.out.box.free 3
  have fq4 := HS3.out.box.free 4
  have fq5 := HS3.out.box.free 5
  have fq6 := HS3.out.box.free 6
  have fq7 := HS3.out.box.free 7
  obtain ⟨r0, r1, r2, r3, r4, r5, r6, r7⟩ := HS3.out.r
  have fr0 := HS3.out.res.free 0
  have fr1 := HS3.out.res.free 1
  have fr2 := HS3.out.res.free 2
  have fr3 := HS3.out.res.free 3
  have fr4 := HS3.out.res.free 4
  have fr5 := HS3.out.res.free 5
  have fr6 := HS3.out.res.free 6
  have fr7 := HS3.out.res.free 7
  go_wp2
  have HT := Lib.hid HS3.out.told
  refine bodyPost_ret (v := .tuple _) (results_cell4 rfl _ _ (b + 1) 34 _ (0, 0) _ rfl HS3.out.told.1 Tryd.underlying34 rfl (by kernel_rfl)) rfl (StpT.of ⟨_, _, _, _, _, _, _, _, _, _, _, _, _, _, _, rfl, told_none, BK.turn (s' := (⟨nput s.h q ⟨0, (s.h q).k, (s.h q).x, (s.h q).w, (s.h q).f, (s.h q).l, (s.h q).mv, (s.h q).sw⟩, nput s.wd q ⟨(s.h q).x, (s.wd q).t + 1, (s.h q).sw⟩⟩ : SS)) (q := q) HF.out HT.out.2.2 HGF.out HGL.out HGM.out HGS.out (fun _ _ => rfl) ?_ (fun p e => ⟨nput_other e, rfl, rfl, rfl, rfl⟩) ?_, HT.out.2.1⟩)
  · intro p _
    show (((nput s.h q _ p).a : Nat) : Int) = _
    by_cases e : p = q
    · subst e; rw [nput_same, rput_same]; rfl
    · rw [nput_other e, rput_other e]
  · show HKp n (nput s.h q _ q) _ _ _ _ _ _
    rw [nput_same]
    exact HKp.zero rfl
end Go.Proofs.YtnplhjbbkccdnaaDoor.Snap
