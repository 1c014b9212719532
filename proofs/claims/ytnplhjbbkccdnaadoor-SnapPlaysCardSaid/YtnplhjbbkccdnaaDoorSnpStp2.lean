/-
  The reference of package snap: StepBoard, line 2 where the last word is read.
-/
import Derived.Test.YtnplhjbbkccdnaaDoorSnpStp1
import Derived.Test.YtnplhjbbkccdnaaDoorSnapLkN
import Derived.Test.YtnplhjbbkccdnaaDoorSnpNew2
import Derived.Laws.AppendOwnNone
import Derived.Test.YtnplhjbbkccdnaaDoorSnpRegs
import Derived.Deep.CutBlock
import Derived.Deep.DeepCutAuto
import Derived.LoopTactic
namespace Go.Proofs.YtnplhjbbkccdnaaDoor.Snap
open Go.RowKit

theorem nm_eq {n : Nat} {f g : Nat → Int} (h : ∀ i, i < n → f i = g i) : nm n f = nm n g := by
  unfold nm sl
  exact congrArg (SL n) (List.map_congr_left fun i hi => by rw [h i (List.mem_range.1 hi)])
theorem rput_again {α : Type} (f : Nat → α) (i : Nat) (x y : α) : rput (rput f i x) i y = rput f i y := funext fun j => by
  by_cases e : j = i
  · rw [e, rput_same, rput_same]
  · rw [rput_other e, rput_other e, rput_other e]
theorem rput_id {α : Type} {f : Nat → α} {i : Nat} {x : α} (h : f i = x) : rput f i x = f := funext fun j => by
  by_cases e : j = i
  · rw [e, rput_same, h]
  · rw [rput_other e]
/-- What is told lies apart from the box in which the board is handed back. -/
theorem told_keep {F : Nat → Prop} {W : World} {b : Nat} {P : Pd} {u v0 v1 v2 v3 v4 v5 v6 v7 : Value} (hP : Stb P) (hu : P (FB F b) W u) : P F ((((((((W.setCell ⟨b + 1, 0, none⟩ v0).setCell ⟨b + 1, 1, none⟩ v1).setCell ⟨b + 1, 2, none⟩ v2).setCell ⟨b + 1, 3, none⟩ v3).setCell ⟨b + 1, 4, none⟩ v4).setCell ⟨b + 1, 5, none⟩ v5).setCell ⟨b + 1, 6, none⟩ v6).setCell ⟨b + 1, 7, none⟩ v7) u :=
  hP.more (fun _ _ h => Or.inl h) (hP.touch (O := fun k => k = b + 1) (((((((((Touch.refl (fun k => k = b + 1) W).setCell (p := ⟨b + 1, 0, none⟩) (Or.inl rfl) v0).setCell (p := ⟨b + 1, 1, none⟩) (Or.inl rfl) v1).setCell (p := ⟨b + 1, 2, none⟩) (Or.inl rfl) v2).setCell (p := ⟨b + 1, 3, none⟩) (Or.inl rfl) v3).setCell (p := ⟨b + 1, 4, none⟩) (Or.inl rfl) v4).setCell (p := ⟨b + 1, 5, none⟩) (Or.inl rfl) v5).setCell (p := ⟨b + 1, 6, none⟩) (Or.inl rfl) v6).setCell (p := ⟨b + 1, 7, none⟩) (Or.inl rfl) v7) (fun _ _ e => Or.inr (Or.inr e)) hu)
/-- The board in the box, beside what is made from block base on. -/
structure RT (F : Nat → Prop) (w W : World) (b base : Nat) (v0 v1 v2 v3 v4 v5 v6 v7 : Value) (P0 P1 P2 P3 P4 P5 P6 P7 : Pd) : Prop where
  box : Block W b 34 #[v0, v1, v2, v3, v4, v5, v6, v7]
  res : Block W (b + 1) 34 #[.slice none 0 0, .slice none 0 0, .slice none 0 0, .slice none 0 0, .slice none 0 0, .slice none 0 0, .slice none 0 0, .slice none 0 0]
  lo : w.heap.size ≤ b
  bel : Below w.heap.size w W
  v : RV (fun z => FB F b z ∨ base ≤ z) W v0 v1 v2 v3 v4 v5 v6 v7 P0 P1 P2 P3 P4 P5 P6 P7
  bs : b + 1 < base ∧ base ≤ W.heap.size
theorem RT.of {F : Nat → Prop} {w W : World} {b : Nat} {v0 v1 v2 v3 v4 v5 v6 v7 : Value} {P0 P1 P2 P3 P4 P5 P6 P7 : Pd} (h : RS F w W b v0 v1 v2 v3 v4 v5 v6 v7 P0 P1 P2 P3 P4 P5 P6 P7) : RT F w W b W.heap.size v0 v1 v2 v3 v4 v5 v6 v7 P0 P1 P2 P3 P4 P5 P6 P7 :=
  ⟨h.box, h.res, h.lo, h.bel, h.v.more fun z hz e => e.elim id fun e => by omega, h.res.lt, Nat.le_refl _⟩
theorem RT.touch {F O : Nat → Prop} {w W W' : World} {b base : Nat} {v0 v1 v2 v3 v4 v5 v6 v7 : Value} {P0 P1 P2 P3 P4 P5 P6 P7 : Pd} (h : RT F w W b base v0 v1 v2 v3 v4 v5 v6 v7 P0 P1 P2 P3 P4 P5 P6 P7) (ht : Touch O W W') (hO : ∀ k, O k → base ≤ k) : RT F w W' b base v0 v1 v2 v3 v4 v5 v6 v7 P0 P1 P2 P3 P4 P5 P6 P7 :=
  ⟨h.box.touch ht (fun e => by have := hO _ e; have := h.bs; omega), h.res.touch ht (fun e => by have := hO _ e; have := h.bs; omega), h.lo, h.bel.trans (ht.below h.bel.size fun k hk => by have := hO k hk; have := h.bs; have := h.lo; omega), h.v.touch ht fun z _ e => Or.inr (hO z e), h.bs.1, Nat.le_trans h.bs.2 ht.size⟩
theorem RT.back {F : Nat → Prop} {w W : World} {b base : Nat} {v0 v1 v2 v3 v4 v5 v6 v7 : Value} {P0 P1 P2 P3 P4 P5 P6 P7 : Pd} (h : RT F w W b base v0 v1 v2 v3 v4 v5 v6 v7 P0 P1 P2 P3 P4 P5 P6 P7) (hF : ∀ x, F x → x < w.heap.size) : RS F w W b v0 v1 v2 v3 v4 v5 v6 v7 P0 P1 P2 P3 P4 P5 P6 P7 :=
  ⟨h.box, h.res, h.lo, h.bel, hF, h.v.more fun _ _ e => Or.inl e⟩
theorem sone_two {n : Nat} {s : SS} {q : Nat} (ha : (s.h q).a = 2) (hkn : (s.h q).k + 1 = n) : sone n s q = (match ssee n (s.h q) (slast s q) with
    | some f => if (s.h q).w then ⟨3, 0, (s.h q).x, (s.h q).w, (s.h q).f, slast s q, (s.h q).mv, f⟩ else ⟨0, 0, (s.h q).x, (s.h q).w, (s.h q).f, slast s q, (s.h q).mv, (s.h q).sw⟩
    | none => ⟨2, 0, (s.h q).x, (s.h q).w, slast s q, slast s q, smvd (s.h q) (slast s q), (s.h q).sw⟩) := by
  unfold sone; rw [if_neg (by omega), if_pos ha, if_pos hkn]
  cases ssee n (s.h q) (slast s q) <;> rfl
theorem stold_two {n : Nat} {s : SS} {q : Nat} (ha : (s.h q).a = 2) (hkn : (s.h q).k + 1 = n) : stold n s q = if (s.h q).w = false then ssee n (s.h q) (slast s q) else none := by
  unfold stold
  by_cases h : (s.h q).w = false
  · rw [if_pos h, if_pos ⟨ha, hkn, h⟩]
  · rw [if_neg h, if_neg fun e => h e.2.2]
set_option maxHeartbeats 8000000 in
set_option maxRecDepth 1000000 in
theorem s2z {F : Nat → Prop} {n : Nat} {s : SS} {v0 v1 v2 v3 v4 v5 v6 v7 : Value} {fx : Nat → Int} {fb : Nat → Bool} {Gf Gl Gm Gs : Nat → Pd} (w : World) (h : BK F w n s v0 v1 v2 v3 v4 v5 v6 v7 fx fb Gf Gl Gm Gs) (hF : ∀ b, F b → b < w.heap.size) (h1 : 1 ≤ n) (h4 : n ≤ 4) {q : Nat} (hq : q < n) (ha : (s.h q).a = 2) (hk : (s.h q).k < n) (hkn : (s.h q).k + 1 = n) (hmv : ∀ r, r < n → (s.h q).mv r ≤ 1) :
    Calls Tryd.prog 11 #[.agg #[v0, v1, v2, v3, v4, v5, v6, v7], .int .i64 (q : Int)] w fun e w' => StpT F w w' n (decide ((sone n s q).a = 0)) (stold n s q) (0) (⟨nput s.h q (sone n s q), s.wd⟩) e := by
  obtain ⟨A0, c0, A1, c1, A2, c2, A3, c3, A4, c4, A5, c5, A6, c6, A7, c7, rfl, rfl, rfl, rfl, rfl, rfl, rfl, rfl⟩ := h.forms
  have hst := RS.start h.rv hF
  obtain ⟨b, hb⟩ : ∃ b, b = w.heap.size := ⟨_, rfl⟩
  obtain ⟨W0, hW0⟩ : ∃ W0, W0 = (w.alloc (.cells #[.slice A0 n c0, .slice A1 n c1, .slice A2 n c2, .slice A3 n c3, .slice A4 n c4, .slice A5 n c5, .slice A6 n c6, .slice A7 n c7] 34)).alloc (.cells #[.slice none 0 0, .slice none 0 0, .slice none 0 0, .slice none 0 0, .slice none 0 0, .slice none 0 0, .slice none 0 0, .slice none 0 0] 34) := ⟨_, rfl⟩
  rw [← hW0, ← hb] at hst
  have HS0 := Lib.hid hst
  have hwn : IntKind.i64.wrap ((n : Int) - 1) = (n : Int) - 1 := IntWalk.i64_in _ (by omega)
  have HW0 := Lib.hid hW0
  have HBW := Lib.hid hb.symm
  have HF := Lib.hid h.f
  have HGF := Lib.hid h.gf
  have HGL := Lib.hid h.gl
  have HGM := Lib.hid h.gm
  have HGS := Lib.hid h.gs
  clear hst h hF hb hW0
  have HI1 := Lib.hid (inW_any q 0 ((n : Int) - 1) true (decide_eq_true (by omega)))
  have hqI : (q : Int) < n := by omega
  obtain ⟨bt, ot, rfl, _, _, ut, hct, rfl⟩ := sl_at (h := HS0.out.v.p1) hq
  replace hct : W0.cell? ⟨bt, ot + q, none⟩ = some (.int .i64 (((s.h q).a : Nat) : Int)) := hct
  rw [ha] at hct
  obtain ⟨n1, n2, n3⟩ := (HF.out q hq).two ha
  obtain ⟨hxx, hww⟩ := (HF.out q hq).xw (by omega)
  obtain ⟨D, hD⟩ : ∃ d, d = decide ((sone n s q).a = 0) := ⟨_, rfl⟩
  obtain ⟨TT, hTT⟩ : ∃ t, t = stold n s q := ⟨_, rfl⟩
  obtain ⟨ST, hST⟩ : ∃ t, t = (⟨nput s.h q (sone n s q), s.wd⟩ : SS) := ⟨_, rfl⟩
  rw [← hD, ← hTT, ← hST]
  rw [sone_two ha hkn] at hD hST
  rw [stold_two ha hkn] at hTT
  have HD := Lib.hid hD
  have HTT := Lib.hid hTT
  have HST := Lib.hid hST
  have HMV := Lib.hid hmv
  clear hD hTT hST hmv
  obtain ⟨bF, oF, rfl, _, _, _, _, _⟩ := sl_at (h := HS0.out.v.p4) hq
  obtain ⟨bf, of, rfl, hbf, _, ui, hci, hgi⟩ := sl_at (h := HS0.out.v.p5) hq
  rw [n2] at hgi
  obtain ⟨Ai, ci, rfl⟩ := SL.form hgi
  obtain ⟨b0, o0, rfl, hb0, _, hc0, hc1, As, cs, hc2, hsn⟩ := wds_at HS0.out.v.p0 hk
  have HC := Lib.hid (show ∀ W2, Below W0.heap.size W0 W2 → (fun W : World => W.cell? ⟨b, 5, none⟩ = some (.slice (some ⟨bf, of, none⟩) n c5) ∧ W.cell? ⟨bf, of + q, none⟩ = some (.slice Ai (s.h q).k ci) ∧ W.cell? ⟨b, 0, none⟩ = some (.slice (some ⟨b0, o0, none⟩) n c0) ∧ W.cell? ⟨b0, o0 + (s.h q).k * 3, none⟩ = some (.int .i64 (((s.wd (s.h q).k).v : Nat) : Int)) ∧ W.cell? ⟨b0, o0 + (s.h q).k * 3 + 1, none⟩ = some (.int .i64 (((s.wd (s.h q).k).t : Nat) : Int)) ∧ W.cell? ⟨b0, o0 + (s.h q).k * 3 + 2, none⟩ = some (.slice As n cs)) W2 from fun W2 hb => ⟨(hb.cell (p := ⟨b, 5, none⟩) HS0.out.box.lt).trans (HS0.out.box.cell 5), (hb.cell (p := ⟨bf, of + q, none⟩) hbf).trans hci, (hb.cell (p := ⟨b, 0, none⟩) HS0.out.box.lt).trans (HS0.out.box.cell 0), (hb.cell (p := ⟨b0, o0 + (s.h q).k * 3, none⟩) hb0).trans hc0, (hb.cell (p := ⟨b0, o0 + (s.h q).k * 3 + 1, none⟩) hb0).trans hc1, (hb.cell (p := ⟨b0, o0 + (s.h q).k * 3 + 2, none⟩) hb0).trans hc2⟩)
  have HGI := Lib.hid hgi
  have HSN := Lib.hid hsn
  clear hgi hsn hci hc0 hc1 hc2
  go_enter Tryd.func11, Tryd.ntmps11
  go_upto_region 1 with fail
  rw [← HW0.out, HBW.out]
  obtain ⟨q0, q1, q2, q3, q4, q5, q6, q7⟩ := HS0.out.q
  have fq0 := HS0.out.box.free 0
  have fq1 := HS0.out.box.free 1
  have fq2 := HS0.out.box.free 2
  have fq3 := HS0.out.box.free 3
  have fq4 := HS0.out.box.free 4
  have fq5 := HS0.out.box.free 5
  have fq6 := HS0.out.box.free 6
  have fq7 := HS0.out.box.free 7
  obtain ⟨r0, r1, r2, r3, r4, r5, r6, r7⟩ := HS0.out.r
  have fr0 := HS0.out.res.free 0
  have fr1 := HS0.out.res.free 1
  have fr2 := HS0.out.res.free 2
  have fr3 := HS0.out.res.free 3
  have fr4 := HS0.out.res.free 4
  have fr5 := HS0.out.res.free 5
  have fr6 := HS0.out.res.free 6
  have fr7 := HS0.out.res.free 7
  go_upto_region 19 with (go_at_call 26; (with_reducible refine (HI1.out _).mono ?_); rintro e w' ⟨rfl, rfl⟩)
  clear hct
  clear q0 fq0 r0 fr0 q1 fq1 r1 fr1 q2 fq2 r2 fr2 q3 fq3 r3 fr3 q4 fq4 r4 fr4 q5 fq5 r5 fr5 q6 fq6 r6 fr6 q7 fq7 r7 fr7
  refine sreg19_any HS0 hq h4 hk HGL.out HS0.out.v.p5 HGI.out HSN.out HC _ _ _ _ _ _ _ _ _ _ _ _ _ _ _ _ _ _ _ _ _ _ _ _ _ _ _ _ _ _ _ _ _ _ _ _ _ _ _ _ _ _ _ _ _ _ _ _ _ _ _ _ _ _ _ _ _ _ _ _ _ _ _ _ _ _ _ _ _ _ _ _ _ _ _ _ _ _ _ _ _ _ _ _ _ _ _ _ _ _ _ _ _ _ _ _ _ _ _ _ _ _ _ _ _ _ _ _ _ _ _ _ _ _ _ _ _ _ _ _ _ _ _ _ _ _ _ _ _ _ _ _ _ _ _ _ _ _ _ _ _ _ _ _ _ _ _ _ _ _ _ _ _ _ _ _ _ _ _ _ _ _ _ _ _ _ _ _ _ _ _ _ _ _ _ _ _ _ _ _ _ _ _ _ _ _ _ _ _ _ _ _ _ _ _ _ _ _ _ _ _ _ _ _ _ _ _ _ _ _ _ _ _ _ _ _ _ _ _ _ _ _ _ _ _ _ _ _ _ _ _ _ _ _ _ _ _ _ _ _ _ _ _ _ _ _ _ _ _ _ _ _ _ _ _ _ _ _ _ _ (Lib.hid ?_) (fun _ _ d _ _ h => (by cases d <;> exact h))
  intro x0 x1 x2 x3 x4 x5 x6 x7 x8 x9 x10 x11 x12 x13 x14 x15 x16 x17 x18 x19 x20 E1 e1 w5 hn hb5
  obtain ⟨K1, hK1⟩ : ∃ m, m = (s.h q).k + 1 := ⟨_, rfl⟩
  rw [← hK1] at hn
  have HN1 := Lib.hid hn
  have HC1 := Lib.hid (HS0.out.call hb5)
  have hs1 := HC1.out.put5 (sl_stb (rput_stb HGL.out (wds_stb _ _ _))) HN1.out
  obtain ⟨V1, hV1⟩ : ∃ V, V = w5.setCell ⟨b, 5, none⟩ (.slice E1 n e1) := ⟨_, rfl⟩
  rw [← hV1] at hs1 ⊢
  have HS1 := Lib.hid hs1
  clear hs1 hV1 HC1 HN1 hn hb5
  obtain ⟨q0, q1, q2, q3, q4, q5, q6, q7⟩ := HS1.out.q
  have fq0 := HS1.out.box.free 0
  have fq1 := HS1.out.box.free 1
  have fq2 := HS1.out.box.free 2
  have fq3 := HS1.out.box.free 3
  have fq4 := HS1.out.box.free 4
  have fq5 := HS1.out.box.free 5
  have fq6 := HS1.out.box.free 6
  have fq7 := HS1.out.box.free 7
  obtain ⟨r0, r1, r2, r3, r4, r5, r6, r7⟩ := HS1.out.r
  have fr0 := HS1.out.res.free 0
  have fr1 := HS1.out.res.free 1
  have fr2 := HS1.out.res.free 2
  have fr3 := HS1.out.res.free 3
  have fr4 := HS1.out.res.free 4
  have fr5 := HS1.out.res.free 5
  have fr6 := HS1.out.res.free 6
  have fr7 := HS1.out.res.free 7
  obtain ⟨bg, og, rfl, _, _, ug, hcg, hgg⟩ := sl_at (h := HS1.out.v.p5) hq
  rw [rput_same] at hgg
  obtain ⟨Ag, cg, rfl⟩ := SL.form hgg
  have hKn : n = K1 := by omega
  clear hkn hk hK1
  subst hKn
  have hb1 : decide (((n : Nat) : Int) < ((n : Nat) : Int)) = false := decide_eq_false (by omega)
  have hb2 : decide (n < n) = false := decide_eq_false (by omega)
  have hb3 : ¬ ((n : Nat) : Int) < ((n : Nat) : Int) := by omega
  have hmz : rput Gm q (nm n (mvr (s.h q) (slast s q) 0)) = Gm := rput_id (by rw [mvr_zero]; exact n3)
  have HSL := Lib.hid (show RS F w V1 b (.slice (some ⟨b0, o0, none⟩) n c0) (.slice (some ⟨bt, ot, none⟩) n c1) (.slice A2 n c2) (.slice A3 n c3) (.slice (some ⟨bF, oF, none⟩) n c4) (.slice (some ⟨bg, og, none⟩) n e1) (.slice A6 n c6) (.slice A7 n c7) (wds n n s.wd) (nm n fun p => (((s.h p).a : Nat) : Int)) (nm n fx) (bl n fb) (sl n Gf) (sl n (rput Gl q (wds n n (slast s q)))) (sl n (rput Gm q (nm n (mvr (s.h q) (slast s q) 0)))) (sl n Gs) from by rw [hmz]; exact HS1.out)
  clear hmz
  go_upto_block 1 with fail
  clear hcg hb1 hb2 hb3
  clear q0 fq0 r0 fr0 q1 fq1 r1 fr1 q2 fq2 r2 fr2 q3 fq3 r3 fr3 q4 fq4 r4 fr4 q5 fq5 r5 fr5 q6 fq6 r6 fr6 q7 fq7 r7 fr7
  go_cut [11, 12] (fun u11 u12 wx => u11 = .int .i64 (hlp (s.h q) (slast s q) n) ∧ u12 = .bool (alk (s.h q) (slast s q) n) ∧ ∃ (A6 : Option Addr) (c6 : Nat), RS F w wx b (.slice (some ⟨b0, o0, none⟩) n c0) (.slice (some ⟨bt, ot, none⟩) n c1) (.slice A2 n c2) (.slice A3 n c3) (.slice (some ⟨bF, oF, none⟩) n c4) (.slice (some ⟨bg, og, none⟩) n e1) (.slice A6 n c6) (.slice A7 n c7) (wds n n s.wd) (nm n fun p => (((s.h p).a : Nat) : Int)) (nm n fx) (bl n fb) (sl n Gf) (sl n (rput Gl q (wds n n (slast s q)))) (sl n (rput Gm q (nm n (mvr (s.h q) (slast s q) n)))) (sl n Gs))
  case first =>
    go_wp2_with fail
    go_loopw [11, 12, 13] (fun u11 u12 i wr => ∃ (r : Nat) (A6 : Option Addr) (c6 : Nat), r ≤ n ∧ i = .int .i64 r ∧ u11 = .int .i64 (hlp (s.h q) (slast s q) r) ∧ u12 = .bool (alk (s.h q) (slast s q) r) ∧ RS F w wr b (.slice (some ⟨b0, o0, none⟩) n c0) (.slice (some ⟨bt, ot, none⟩) n c1) (.slice A2 n c2) (.slice A3 n c3) (.slice (some ⟨bF, oF, none⟩) n c4) (.slice (some ⟨bg, og, none⟩) n e1) (.slice A6 n c6) (.slice A7 n c7) (wds n n s.wd) (nm n fun p => (((s.h p).a : Nat) : Int)) (nm n fx) (bl n fb) (sl n Gf) (sl n (rput Gl q (wds n n (slast s q)))) (sl n (rput Gm q (nm n (mvr (s.h q) (slast s q) r)))) (sl n Gs)) (fun _ _ i _ => n - (intOf i).toNat)
    case atStart => exact ⟨0, _, _, by omega, rfl, rfl, rfl, HSL.out⟩
    case round =>
      clear HSL HS1
      obtain ⟨r, A6, c6, hr, rfl, rfl, rfl, hrs⟩ := hrel
      have HSR := Lib.hid hrs
      clear hrs
      by_cases hrn : r < n
      · have hrI : (r : Int) < n := by omega
        obtain ⟨bF, oF, eF, _, _, uf, hcF, hgF⟩ := sl_at (h := HSR.out.v.p4) hq
        injection eF with eF
        injection eF with eF eF2 _
        subst eF eF2
        rw [n1] at hgF
        obtain ⟨Af, cf, rfl⟩ := SL.form hgF
        obtain ⟨bg, og, eF, _, _, ug, hcG, hgG⟩ := sl_at (h := HSR.out.v.p5) hq
        injection eF with eF
        injection eF with eF eF2 _
        subst eF eF2
        rw [rput_same] at hgG
        obtain ⟨Ag, cg, rfl⟩ := SL.form hgG
        obtain ⟨bx, ox, rfl, hbx, _, _, hx1, _⟩ := wds_at hgF hrn
        obtain ⟨by', oy, rfl, hby, _, _, hy1, _⟩ := wds_at hgG hrn
        obtain ⟨q0, q1, q2, q3, q4, q5, q6, q7⟩ := HSR.out.q
        have fq0 := HSR.out.box.free 0
        have fq1 := HSR.out.box.free 1
        have fq2 := HSR.out.box.free 2
        have fq3 := HSR.out.box.free 3
        have fq4 := HSR.out.box.free 4
        have fq5 := HSR.out.box.free 5
        have fq6 := HSR.out.box.free 6
        have fq7 := HSR.out.box.free 7
        obtain ⟨r0, r1, r2, r3, r4, r5, r6, r7⟩ := HSR.out.r
        have fr0 := HSR.out.res.free 0
        have fr1 := HSR.out.res.free 1
        have fr2 := HSR.out.res.free 2
        have fr3 := HSR.out.res.free 3
        have fr4 := HSR.out.res.free 4
        have fr5 := HSR.out.res.free 5
        have fr6 := HSR.out.res.free 6
        have fr7 := HSR.out.res.free 7
        by_cases heq : ((s.h q).f r).t = (slast s q r).t
        · have hb1 : (((((s.h q).f r).t : Nat) : Int) == (((slast s q r).t : Nat) : Int)) = true := by simp; omega
          have hb2 : (((s.h q).f r).t == (slast s q r).t) = true := by simp [heq]
          go_wp2_with fail
          go_quiet (fail)
          go_wp2
          go_roundw
          case rel =>
            refine ⟨r + 1, A6, c6, by omega, by go_num, ?_, ?_, ?_⟩
            · rw [hlp_same]; unfold smvd; rw [if_pos heq]; have := HMV.out r hrn; omega
            · rw [alk_same heq]
            · rw [mvr_same heq]; exact HSR.out.call (below_drewN (Below.refl _ wr) _)
          case measure => simp [intOf]; omega
        · have hb1 : (((((s.h q).f r).t : Nat) : Int) == (((slast s q r).t : Nat) : Int)) = false := by simp; omega
          have hb2 : (((s.h q).f r).t == (slast s q r).t) = false := by simp [heq]
          go_wp2_with fail
          go_quiet (fail)
          go_upto_region 30 with fail
          clear hb1 hb2 hcF hcG hx1 hy1
          clear q0 fq0 r0 fr0 q1 fq1 r1 fr1 q2 fq2 r2 fr2 q3 fq3 r3 fr3 q4 fq4 r4 fr4 q5 fq5 r5 fr5 q6 fq6 r6 fr6 q7 fq7 r7 fr7
          have hd2 := HSR.out.call (below_drewN (Below.refl wr.heap.size wr) nq)
          obtain ⟨WD, hWD⟩ : ∃ X, X = wr.drewN nq := ⟨_, rfl⟩
          rw [← hWD] at hd2 ⊢
          have HSD := Lib.hid hd2
          clear hd2 hWD
          obtain ⟨bm, om, rfl, hbm, _, um, hcm, hgm⟩ := sl_at (h := HSD.out.v.p6) hq
          rw [rput_same] at hgm
          obtain ⟨Am, cm, rfl⟩ := SL.form hgm
          obtain ⟨bi, oi, rfl, hbi, _, ui, hci, rfl⟩ := sl_at hgm hrn
          have hmr : mvr (s.h q) (slast s q) r r = (((s.h q).mv r : Nat) : Int) := if_neg (Nat.lt_irrefl r)
          rw [hmr] at hci
          have HC3 := Lib.hid (show ∀ W2, Below WD.heap.size WD W2 → (fun W : World => W.cell? ⟨b, 6, none⟩ = some (.slice (some ⟨bm, om, none⟩) n c6) ∧ W.cell? ⟨bm, om + q, none⟩ = some (.slice (some ⟨bi, oi, none⟩) n cm) ∧ W.cell? ⟨bi, oi + r, none⟩ = some (.int .i64 (((s.h q).mv r : Nat) : Int))) W2 from fun W2 hb => ⟨(hb.cell (p := ⟨b, 6, none⟩) HSD.out.box.lt).trans (HSD.out.box.cell 6), (hb.cell (p := ⟨bm, om + q, none⟩) hbm).trans hcm, (hb.cell (p := ⟨bi, oi + r, none⟩) hbi).trans hci⟩)
          have HGM1 := Lib.hid hgm
          clear hcm hci hgm
          refine sreg30_any HSD hq h4 hrn (by have := HMV.out r hrn; omega) (rput_stb HGM.out (nm_stb _ _)) HSD.out.v.p6 HGM1.out HC3 _ _ _ _ _ _ _ _ _ _ _ _ _ _ _ _ _ _ _ _ _ _ _ _ _ _ _ _ _ _ _ _ _ _ _ _ _ _ _ _ _ _ _ _ _ _ _ _ _ _ _ _ _ _ _ _ _ _ _ _ _ _ _ _ _ _ _ _ _ _ _ _ _ _ _ _ _ _ _ _ _ _ _ _ _ _ _ _ _ _ _ _ _ _ _ _ _ _ _ _ _ _ _ _ _ _ _ _ _ _ _ _ _ _ _ _ _ _ _ _ _ _ _ _ _ _ _ _ _ _ _ _ _ _ _ _ _ _ _ _ _ _ _ _ _ _ _ _ _ _ _ _ _ _ _ _ _ _ _ _ _ _ _ _ _ _ _ _ _ _ _ _ _ _ _ _ _ _ _ _ _ _ _ _ _ _ _ _ _ _ _ _ _ _ _ _ _ _ _ _ _ _ _ _ _ _ _ _ _ _ _ _ _ _ _ _ _ _ _ _ _ _ _ _ _ _ _ _ _ _ _ _ _ _ _ _ _ _ _ _ _ _ _ _ _ _ _ _ _ _ _ _ _ _ _ _ _ _ _ (Lib.hid ?_) (fun _ _ d _ _ h => (by cases d <;> exact h))
          intro x0 x1 x2 x3 x4 x5 x6 x7 x8 x9 x10 x11 x12 x13 x14 x15 x16 x17 x18 x19 x20 E2 e2 w5 hn hb5
          rw [rput_again, mvr_step heq] at hn
          have HN2 := Lib.hid hn
          have HC2 := Lib.hid (HSD.out.call hb5)
          have hs2 := HC2.out.put6 (sl_stb (rput_stb HGM.out (nm_stb _ _))) HN2.out
          obtain ⟨V2, hV2⟩ : ∃ V, V = w5.setCell ⟨b, 6, none⟩ (.slice E2 n e2) := ⟨_, rfl⟩
          rw [← hV2] at hs2 ⊢
          have HS2 := Lib.hid hs2
          clear hs2 hV2 HC2 HN2 hn hb5 HC3 HGM1
          obtain ⟨q0, q1, q2, q3, q4, q5, q6, q7⟩ := HS2.out.q
          have fq0 := HS2.out.box.free 0
          have fq1 := HS2.out.box.free 1
          have fq2 := HS2.out.box.free 2
          have fq3 := HS2.out.box.free 3
          have fq4 := HS2.out.box.free 4
          have fq5 := HS2.out.box.free 5
          have fq6 := HS2.out.box.free 6
          have fq7 := HS2.out.box.free 7
          obtain ⟨r0, r1, r2, r3, r4, r5, r6, r7⟩ := HS2.out.r
          have fr0 := HS2.out.res.free 0
          have fr1 := HS2.out.res.free 1
          have fr2 := HS2.out.res.free 2
          have fr3 := HS2.out.res.free 3
          have fr4 := HS2.out.res.free 4
          have fr5 := HS2.out.res.free 5
          have fr6 := HS2.out.res.free 6
          have fr7 := HS2.out.res.free 7
          obtain ⟨b6, o6, rfl, _, _, u6, hc6, hg6⟩ := sl_at (h := HS2.out.v.p6) hq
          rw [rput_same] at hg6
          obtain ⟨A7m, c7m, rfl⟩ := SL.form hg6
          obtain ⟨bj, oj, rfl, _, _, uj, hcj, rfl⟩ := sl_at hg6 hrn
          have hmr2 : mvr (s.h q) (slast s q) (r + 1) r = ((smvd (s.h q) (slast s q) r : Nat) : Int) := if_pos (Nat.lt_succ_self r)
          rw [hmr2] at hcj
          have HAL := Lib.hid (alk_step heq)
          by_cases hh : hlp (s.h q) (slast s q) r < 0
          · have hh1 : decide (hlp (s.h q) (slast s q) r < 0) = true := decide_eq_true hh
            by_cases h2 : smvd (s.h q) (slast s q) r = 2
            · have h3 : (((smvd (s.h q) (slast s q) r : Nat) : Int) == 2) = true := by simp; omega
              have h4m : (smvd (s.h q) (slast s q) r == 2) = true := by simp [h2]
              go_wp2
              go_roundw
              case rel => exact ⟨r + 1, _, _, by omega, by go_num, by rw [hlp_step hh h2], by rw [HAL.out], HS2.out⟩
              case measure => simp [intOf]; omega
            · have h3 : (((smvd (s.h q) (slast s q) r : Nat) : Int) == 2) = false := by simp; omega
              have h4m : (smvd (s.h q) (slast s q) r == 2) = false := by simp [h2]
              go_wp2
              go_roundw
              case rel => exact ⟨r + 1, _, _, by omega, by go_num, by rw [hlp_same h2], by rw [HAL.out], HS2.out⟩
              case measure => simp [intOf]; omega
          · have hh1 : decide (hlp (s.h q) (slast s q) r < 0) = false := decide_eq_false hh
            go_wp2
            go_roundw
            case rel => exact ⟨r + 1, _, _, by omega, by go_num, by rw [hlp_on hh], by rw [HAL.out], HS2.out⟩
            case measure => simp [intOf]; omega
      · obtain rfl : r = n := by omega
        have hrI : ¬ (r : Int) < r := by omega
        go_wp2_with fail
        go_meet
        exact ⟨rfl, rfl, A6, c6, HSR.out⟩
  case rest =>
    clear HSL HS1
    obtain ⟨rfl, rfl, A6, c6, hrs⟩ := hcut
    obtain ⟨wx, rfl⟩ : ∃ wx : World, wx = wc := ⟨_, rfl⟩
    have HSR := Lib.hid hrs
    clear hrs
    rcases see_cases n (s.h q) (slast s q) with ⟨j, hj, hh, hs⟩ | ⟨hh, hal, hs⟩ | ⟨hh, hal, hs⟩
    · obtain ⟨bg2, og2, eF, _, _, ugx, hcG, hgG⟩ := sl_at (h := HSR.out.v.p5) hq
      injection eF with eF
      injection eF with eF eF2 _
      subst eF eF2
      rw [rput_same] at hgG
      obtain ⟨Ag2, cg2, rfl⟩ := SL.form hgG
      obtain ⟨bw, ow, rfl, _, _, _, _, As2, cs2, hcw, hsn⟩ := wds_at hgG hj
      have HSE := Lib.hid hsn
      have hjI : (j : Int) < n := by omega
      have hj0 : (0 : Int) ≤ (j : Int) := by omega
      have hj1 : decide ((0 : Int) ≤ (j : Int)) = true := decide_eq_true hj0
      rw [hh]
      clear hsn hgG hh
      obtain ⟨q0, q1, q2, q3, q4, q5, q6, q7⟩ := HSR.out.q
      have fq0 := HSR.out.box.free 0
      have fq1 := HSR.out.box.free 1
      have fq2 := HSR.out.box.free 2
      have fq3 := HSR.out.box.free 3
      have fq4 := HSR.out.box.free 4
      have fq5 := HSR.out.box.free 5
      have fq6 := HSR.out.box.free 6
      have fq7 := HSR.out.box.free 7
      obtain ⟨r0, r1, r2, r3, r4, r5, r6, r7⟩ := HSR.out.r
      have fr0 := HSR.out.res.free 0
      have fr1 := HSR.out.res.free 1
      have fr2 := HSR.out.res.free 2
      have fr3 := HSR.out.res.free 3
      have fr4 := HSR.out.res.free 4
      have fr5 := HSR.out.res.free 5
      have fr6 := HSR.out.res.free 6
      have fr7 := HSR.out.res.free 7
      go_upto_region 43 with fail
      clear hcG hcw hj0 hj1
      obtain ⟨b3, o3, rfl, _, _, u3, hc3, rfl⟩ := sl_at (h := HSR.out.v.p3) hq
      rw [hww] at hc3
      rcases Bool.eq_false_or_eq_true (s.h q).w with hw | hw
      · rw [hw] at hc3
        obtain rfl : D = false := by rw [HD.out, hs]; simp only [hw]; rfl
        obtain rfl : TT = none := by rw [HTT.out, hs, hw]; rfl
        obtain rfl : ST = (⟨nput s.h q ⟨3, 0, (s.h q).x, (s.h q).w, (s.h q).f, (slast s q), (s.h q).mv, (slast s q j).s⟩, s.wd⟩ : SS) := by rw [HST.out, hs]; simp only [hw]; rfl
        go_upto_region 45 with (go_at_call 29; (with_reducible refine (rows_sl' HSR.out.hF HGS.out (nm_stb _ _) HSR.out.v.p7 hq (by omega) HSE.out).mono ?_); rintro e w5 ⟨E5, e5, rfl, hn, hb⟩; have HN5 := Lib.hid hn; have HC5 := Lib.hid (HSR.out.call hb); have qd := HC5.out.q.2.2.2.2.2.2.2; have fd5 := HC5.out.box.free 7; clear hn hb)
        clear hc3
        clear q0 fq0 r0 fr0 q1 fq1 r1 fr1 q2 fq2 r2 fr2 q3 fq3 r3 fr3 q4 fq4 r4 fr4 q5 fq5 r5 fr5 q6 fq6 r6 fr6 q7 fq7 r7 fr7
        clear qd fd5
        have hs5 := HC5.out.put7 (sl_stb (rput_stb HGS.out (nm_stb _ _))) HN5.out
        obtain ⟨V5, hV5⟩ : ∃ V, V = w5.setCell ⟨b, 7, none⟩ (.slice E5 n e5) := ⟨_, rfl⟩
        rw [← hV5] at hs5 ⊢
        have HS5 := Lib.hid hs5
        clear hs5 hV5 HC5 HN5
        obtain ⟨q0, q1, q2, q3, q4, q5, q6, q7⟩ := HS5.out.q
        have fq0 := HS5.out.box.free 0
        have fq1 := HS5.out.box.free 1
        have fq2 := HS5.out.box.free 2
        have fq3 := HS5.out.box.free 3
        have fq4 := HS5.out.box.free 4
        have fq5 := HS5.out.box.free 5
        have fq6 := HS5.out.box.free 6
        have fq7 := HS5.out.box.free 7
        obtain ⟨r0, r1, r2, r3, r4, r5, r6, r7⟩ := HS5.out.r
        have fr0 := HS5.out.res.free 0
        have fr1 := HS5.out.res.free 1
        have fr2 := HS5.out.res.free 2
        have fr3 := HS5.out.res.free 3
        have fr4 := HS5.out.res.free 4
        have fr5 := HS5.out.res.free 5
        have fr6 := HS5.out.res.free 6
        have fr7 := HS5.out.res.free 7
        go_upto_region 46 with (go_at_call 27; (with_reducible refine (set_nm 3 HS5.out.hF HS5.out.v.p1 hq (by omega)).mono ?_); rintro e w6 ⟨E6, e6, rfl, hn, hb⟩; have HN6 := Lib.hid hn; have HC6 := Lib.hid (HS5.out.call hb); have qd := HC6.out.q.2.1; have fd6 := HC6.out.box.free 1; clear hn hb)
        clear q0 fq0 r0 fr0 q1 fq1 r1 fr1 q2 fq2 r2 fr2 q3 fq3 r3 fr3 q4 fq4 r4 fr4 q5 fq5 r5 fr5 q6 fq6 r6 fr6 q7 fq7 r7 fr7
        clear qd fd6
        have hs6 := HC6.out.put1 (nm_stb _ _) HN6.out
        obtain ⟨V6, hV6⟩ : ∃ V, V = w6.setCell ⟨b, 1, none⟩ (.slice E6 n e6) := ⟨_, rfl⟩
        rw [← hV6] at hs6 ⊢
        have HS6 := Lib.hid hs6
        clear hs6 hV6 HC6 HN6
        obtain ⟨q0, q1, q2, q3, q4, q5, q6, q7⟩ := HS6.out.q
        have fq0 := HS6.out.box.free 0
        have fq1 := HS6.out.box.free 1
        have fq2 := HS6.out.box.free 2
        have fq3 := HS6.out.box.free 3
        have fq4 := HS6.out.box.free 4
        have fq5 := HS6.out.box.free 5
        have fq6 := HS6.out.box.free 6
        have fq7 := HS6.out.box.free 7
        obtain ⟨r0, r1, r2, r3, r4, r5, r6, r7⟩ := HS6.out.r
        have fr0 := HS6.out.res.free 0
        have fr1 := HS6.out.res.free 1
        have fr2 := HS6.out.res.free 2
        have fr3 := HS6.out.res.free 3
        have fr4 := HS6.out.res.free 4
        have fr5 := HS6.out.res.free 5
        have fr6 := HS6.out.res.free 6
        have fr7 := HS6.out.res.free 7
        go_wp2
        have HT := Lib.hid HS6.out.told
        refine bodyPost_ret (v := .tuple _) (results_cell4 rfl _ _ (b + 1) 34 _ (0, 0) _ rfl HS6.out.told.1 Tryd.underlying34 rfl (by kernel_rfl)) rfl (StpT.of ⟨_, _, _, _, _, _, _, _, _, _, _, _, _, _, _, rfl, told_none, BK.turn (q := q) HF.out HT.out.2.2 HGF.out (rput_stb HGL.out (wds_stb _ _ _)) (rput_stb HGM.out (nm_stb _ _)) (rput_stb HGS.out (nm_stb _ _)) (fun _ _ => rfl) ?_ (fun p e => ⟨nput_other e, rfl, rput_other e, rput_other e, rput_other e⟩) ?_, HT.out.2.1⟩)
        · intro p _
          show (((nput s.h q _ p).a : Nat) : Int) = _
          by_cases e : p = q
          · subst e; rw [nput_same, rput_same]; rfl
          · rw [nput_other e, rput_other e]
        · show HKp n (nput s.h q _ q) _ _ _ _ _ _
          rw [nput_same, rput_same, rput_same, rput_same]
          exact ⟨fun _ => ⟨hxx, hww⟩, fun e => (by have e : (3 : Nat) = 1 := e; omega), fun e => (by have e : (3 : Nat) = 2 := e; omega), fun _ => rfl⟩
      · rw [hw] at hc3
        obtain rfl : D = true := by rw [HD.out, hs]; simp only [hw]; rfl
        obtain rfl : TT = some (slast s q j).s := by rw [HTT.out, hs, hw]; rfl
        obtain rfl : ST = (⟨nput s.h q ⟨0, 0, (s.h q).x, (s.h q).w, (s.h q).f, (slast s q), (s.h q).mv, (s.h q).sw⟩, s.wd⟩ : SS) := by rw [HST.out, hs]; simp only [hw]; rfl
        go_upto_region 48 with (go_at_call 27; (with_reducible refine (set_nm 0 HSR.out.hF HSR.out.v.p1 hq (by omega)).mono ?_); rintro e w5 ⟨E5, e5, rfl, hn, hb⟩; have hse := (nm_stb _ _).below hb HSE.out; have HSE5 := Lib.hid hse; have HN5 := Lib.hid hn; have HC5 := Lib.hid (HSR.out.call hb); have qd := HC5.out.q.2.1; have fd5 := HC5.out.box.free 1; clear hn hb hse)
        clear hc3
        clear q0 fq0 r0 fr0 q1 fq1 r1 fr1 q2 fq2 r2 fr2 q3 fq3 r3 fr3 q4 fq4 r4 fr4 q5 fq5 r5 fr5 q6 fq6 r6 fr6 q7 fq7 r7 fr7
        clear qd fd5
        have hs5 := HC5.out.put1 (nm_stb _ _) HN5.out
        have hse6 := (nm_stb _ _).put (F := FB F b) (p := ⟨b, 1, none⟩) (Or.inr (Or.inl rfl)) (.slice E5 n e5) HSE5.out
        obtain ⟨V5, hV5⟩ : ∃ V, V = w5.setCell ⟨b, 1, none⟩ (.slice E5 n e5) := ⟨_, rfl⟩
        rw [← hV5] at hs5 hse6 ⊢
        have HS5 := Lib.hid hs5
        have HSE6 := Lib.hid hse6
        clear hs5 hse6 hV5 HC5 HN5 HSE5
        obtain ⟨q0, q1, q2, q3, q4, q5, q6, q7⟩ := HS5.out.q
        have fq0 := HS5.out.box.free 0
        have fq1 := HS5.out.box.free 1
        have fq2 := HS5.out.box.free 2
        have fq3 := HS5.out.box.free 3
        have fq4 := HS5.out.box.free 4
        have fq5 := HS5.out.box.free 5
        have fq6 := HS5.out.box.free 6
        have fq7 := HS5.out.box.free 7
        obtain ⟨r0, r1, r2, r3, r4, r5, r6, r7⟩ := HS5.out.r
        have fr0 := HS5.out.res.free 0
        have fr1 := HS5.out.res.free 1
        have fr2 := HS5.out.res.free 2
        have fr3 := HS5.out.res.free 3
        have fr4 := HS5.out.res.free 4
        have fr5 := HS5.out.res.free 5
        have fr6 := HS5.out.res.free 6
        have fr7 := HS5.out.res.free 7
        go_wp2
        have HT := Lib.hid HS5.out.told
        refine bodyPost_ret (v := .tuple _) (results_cell4 rfl _ _ (b + 1) 34 _ (0, 0) _ rfl HS5.out.told.1 Tryd.underlying34 rfl (by kernel_rfl)) rfl (StpT.of ⟨_, _, _, _, _, _, _, _, _, _, _, _, _, _, _, rfl, told_some (told_keep (nm_stb _ _) HSE6.out), BK.turn (q := q) HF.out HT.out.2.2 HGF.out (rput_stb HGL.out (wds_stb _ _ _)) (rput_stb HGM.out (nm_stb _ _)) HGS.out (fun _ _ => rfl) ?_ (fun p e => ⟨nput_other e, rfl, rput_other e, rput_other e, rfl⟩) ?_, HT.out.2.1⟩)
        · intro p _
          show (((nput s.h q _ p).a : Nat) : Int) = _
          by_cases e : p = q
          · subst e; rw [nput_same, rput_same]; rfl
          · rw [nput_other e, rput_other e]
        · show HKp n (nput s.h q _ q) _ _ _ _ _ _
          rw [nput_same]
          exact HKp.zero rfl
    · rw [hh, hal]
      obtain ⟨q0, q1, q2, q3, q4, q5, q6, q7⟩ := HSR.out.q
      have fq0 := HSR.out.box.free 0
      have fq1 := HSR.out.box.free 1
      have fq2 := HSR.out.box.free 2
      have fq3 := HSR.out.box.free 3
      have fq4 := HSR.out.box.free 4
      have fq5 := HSR.out.box.free 5
      have fq6 := HSR.out.box.free 6
      have fq7 := HSR.out.box.free 7
      obtain ⟨r0, r1, r2, r3, r4, r5, r6, r7⟩ := HSR.out.r
      have fr0 := HSR.out.res.free 0
      have fr1 := HSR.out.res.free 1
      have fr2 := HSR.out.res.free 2
      have fr3 := HSR.out.res.free 3
      have fr4 := HSR.out.res.free 4
      have fr5 := HSR.out.res.free 5
      have fr6 := HSR.out.res.free 6
      have fr7 := HSR.out.res.free 7
      go_upto_block 3 with fail
      clear q0 fq0 r0 fr0 q1 fq1 r1 fr1 q2 fq2 r2 fr2 q3 fq3 r3 fr3 q4 fq4 r4 fr4 q5 fq5 r5 fr5 q6 fq6 r6 fr6 q7 fq7 r7 fr7
      obtain ⟨i0, hi0, hz0, hz1, hz2⟩ := info_parts (show (Tryd.prog.info? 3).map (fun i => (i.zero, i.size, i.bytes)) = some (some (.int .i64 0), 1, 8) from by kernel_rfl)
      go_cut [10] (fun u10 wz => ∃ (A : Option Addr) (d : Nat), u10 = .slice A n d ∧ nm n (fun r => (((slast s q r).v : Nat) : Int)) (FB F b) wz (.slice A n d) ∧ RS F w wz b (.slice (some ⟨b0, o0, none⟩) n c0) (.slice (some ⟨bt, ot, none⟩) n c1) (.slice A2 n c2) (.slice A3 n c3) (.slice (some ⟨bF, oF, none⟩) n c4) (.slice (some ⟨bg, og, none⟩) n e1) (.slice A6 n c6) (.slice A7 n c7) (wds n n s.wd) (nm n fun p => (((s.h p).a : Nat) : Int)) (nm n fx) (bl n fb) (sl n Gf) (sl n (rput Gl q (wds n n (slast s q)))) (sl n (rput Gm q (nm n (mvr (s.h q) (slast s q) n)))) (sl n Gs))
      case first =>
        go_wp2_with fail
        obtain ⟨base, hbase⟩ : ∃ m, m = wx.heap.size := ⟨_, rfl⟩
        have HRT := Lib.hid (show RT F w wx b base (.slice (some ⟨b0, o0, none⟩) n c0) (.slice (some ⟨bt, ot, none⟩) n c1) (.slice A2 n c2) (.slice A3 n c3) (.slice (some ⟨bF, oF, none⟩) n c4) (.slice (some ⟨bg, og, none⟩) n e1) (.slice A6 n c6) (.slice A7 n c7) (wds n n s.wd) (nm n fun p => (((s.h p).a : Nat) : Int)) (nm n fx) (bl n fb) (sl n Gf) (sl n (rput Gl q (wds n n (slast s q)))) (sl n (rput Gm q (nm n (mvr (s.h q) (slast s q) n)))) (sl n Gs) from by rw [hbase]; exact RT.of HSR.out)
        clear hbase
        go_loopw [10, 14] (fun v i wr => ∃ j : Nat, j ≤ n ∧ i = .int .i64 j ∧ RT F w wr b base (.slice (some ⟨b0, o0, none⟩) n c0) (.slice (some ⟨bt, ot, none⟩) n c1) (.slice A2 n c2) (.slice A3 n c3) (.slice (some ⟨bF, oF, none⟩) n c4) (.slice (some ⟨bg, og, none⟩) n e1) (.slice A6 n c6) (.slice A7 n c7) (wds n n s.wd) (nm n fun p => (((s.h p).a : Nat) : Int)) (nm n fx) (bl n fb) (sl n Gf) (sl n (rput Gl q (wds n n (slast s q)))) (sl n (rput Gm q (nm n (mvr (s.h q) (slast s q) n)))) (sl n Gs) ∧ wr.ownsRow base 3 1 v j ((List.range j).map fun r => Value.int .i64 (((slast s q r).v : Nat) : Int))) (fun _ i _ => n - (intOf i).toNat)
        case atStart => exact ⟨0, by omega, rfl, HRT.out, World.ownsRow_nil _ _ _ _⟩
        case round =>
          clear HRT
          obtain ⟨j, hj, rfl, hrt, hown⟩ := hrel
          have HR := Lib.hid hrt
          have HO := Lib.hid hown
          obtain ⟨Av, cv, rfl⟩ : ∃ A d, u10 = .slice A j d := by
            rcases hown.2 with ⟨e, h0⟩ | ⟨g, cap, cur, e, _⟩
            · exact ⟨none, 0, by rw [e, h0]⟩
            · exact ⟨_, _, e⟩
          clear hrt hown
          by_cases hjn : j < n
          · have hjI : (j : Int) < n := by omega
            obtain ⟨bg2, og2, eF, hbg2, _, ugx, hcG, hgG⟩ := sl_at (h := HR.out.v.p5) hq
            injection eF with eF
            injection eF with eF eF2 _
            subst eF eF2
            rw [rput_same] at hgG
            obtain ⟨Ag2, cg2, rfl⟩ := SL.form hgG
            obtain ⟨bw, ow, rfl, _, _, hcv, _⟩ := wds_at hgG hjn
            have q5 := HR.out.box.cell 5
            simp at q5
            obtain ⟨y, hy⟩ : ∃ y, y = (slast s q j).v := ⟨_, rfl⟩
            rw [← hy] at hcv
            have HY := Lib.hid hy
            clear hgG hy
            go_wp2_with (at_builtin; refine wpList_append_lies _ rfl (.tmp 210) (.tmp 220) 30 rfl base 3 i0 (.int .i64 0) 1 8 Tryd.underlying30 hi0 hz0 hz1 hz2 rfl (by omega) (.slice Av j cv) j ((List.range j).map fun r => Value.int .i64 (((slast s q r).v : Nat) : Int)) rfl (HO.out.alloc _) ⟨wr.heap.size, 0, none⟩ 1 1 [.int .i64 ((y : Nat) : Int)] rfl (by rfl) (one_cell (by simp)) (by intro u hu; simp at hu; subst hu; rfl) (by omega) (by unfold maxLen; omega) (by omega) (by have := HR.out.bs; simp; omega) (wr.heap.size + 1) (by simp) ?_; intro g2 cap2 w4 hown hgrow hat hlt; have hrt2 := HR.out.touch ((((Touch.refl (fun k => (Value.slice Av j cv).ownBlock = some k) wr).alloc _).grown hgrow fun k hk => Or.inl hk)) (fun k hk => (HO.out.lt k hk).1); have HR2 := Lib.hid hrt2; have HO2 := Lib.hid hown; clear hown hgrow hat hlt hrt2)
            go_roundw
            case rel => exact ⟨j + 1, by omega, by go_num, HR2.out, by rw [List.range_succ, List.map_append]; have h := HO2.out; rw [HY.out] at h; exact h⟩
            case measure => simp [intOf]; omega
          · obtain rfl : j = n := by omega
            have hjI : ¬ (j : Int) < j := by omega
            go_wp2_with fail
            go_meet
            refine ⟨Av, cv, rfl, ?_, HR.out.back HSR.out.frb⟩
            refine SL.own (base := base) (size := 1) HO.out (fun z e => ?_) (by simp) (by simp; omega) fun i P hP => ?_
            · have h1 := HR.out.bs
              have h2 := HR.out.lo
              rcases e with e | e | e
              · have := HSR.out.frb z e; omega
              · omega
              · omega
            · have hi : i < j := by have := (List.getElem?_eq_some_iff.1 hP).1; simpa using this
              rw [sl_get _ hi] at hP
              exact ⟨_, by rw [List.getElem?_map, List.getElem?_range hi]; rfl, by rw [← Option.some.inj hP]; rfl⟩
      case rest =>
        obtain ⟨As2, cs2, rfl, hsn, hrs⟩ := hcut
        obtain ⟨wz, rfl⟩ : ∃ wz : World, wz = wc := ⟨_, rfl⟩
        have HSE := Lib.hid hsn
        have HSZ := Lib.hid hrs
        clear hsn hrs HSR
        obtain ⟨q0, q1, q2, q3, q4, q5, q6, q7⟩ := HSZ.out.q
        have fq0 := HSZ.out.box.free 0
        have fq1 := HSZ.out.box.free 1
        have fq2 := HSZ.out.box.free 2
        have fq3 := HSZ.out.box.free 3
        have fq4 := HSZ.out.box.free 4
        have fq5 := HSZ.out.box.free 5
        have fq6 := HSZ.out.box.free 6
        have fq7 := HSZ.out.box.free 7
        obtain ⟨r0, r1, r2, r3, r4, r5, r6, r7⟩ := HSZ.out.r
        have fr0 := HSZ.out.res.free 0
        have fr1 := HSZ.out.res.free 1
        have fr2 := HSZ.out.res.free 2
        have fr3 := HSZ.out.res.free 3
        have fr4 := HSZ.out.res.free 4
        have fr5 := HSZ.out.res.free 5
        have fr6 := HSZ.out.res.free 6
        have fr7 := HSZ.out.res.free 7
        go_upto_region 43 with fail
        obtain ⟨b3, o3, rfl, _, _, u3, hc3, rfl⟩ := sl_at (h := HSZ.out.v.p3) hq
        rw [hww] at hc3
        rcases Bool.eq_false_or_eq_true (s.h q).w with hw | hw
        · rw [hw] at hc3
          obtain rfl : D = false := by rw [HD.out, hs]; simp only [hw]; rfl
          obtain rfl : TT = none := by rw [HTT.out, hs, hw]; rfl
          obtain rfl : ST = (⟨nput s.h q ⟨3, 0, (s.h q).x, (s.h q).w, (s.h q).f, (slast s q), (s.h q).mv, (fun r => (slast s q r).v)⟩, s.wd⟩ : SS) := by rw [HST.out, hs]; simp only [hw]; rfl
          go_upto_region 45 with (go_at_call 29; (with_reducible refine (rows_sl' HSZ.out.hF HGS.out (nm_stb _ _) HSZ.out.v.p7 hq (by omega) HSE.out).mono ?_); rintro e w5 ⟨E5, e5, rfl, hn, hb⟩; have HN5 := Lib.hid hn; have HC5 := Lib.hid (HSZ.out.call hb); have qd := HC5.out.q.2.2.2.2.2.2.2; have fd5 := HC5.out.box.free 7; clear hn hb)
          clear hc3
          clear q0 fq0 r0 fr0 q1 fq1 r1 fr1 q2 fq2 r2 fr2 q3 fq3 r3 fr3 q4 fq4 r4 fr4 q5 fq5 r5 fr5 q6 fq6 r6 fr6 q7 fq7 r7 fr7
          clear qd fd5
          have hs5 := HC5.out.put7 (sl_stb (rput_stb HGS.out (nm_stb _ _))) HN5.out
          obtain ⟨V5, hV5⟩ : ∃ V, V = w5.setCell ⟨b, 7, none⟩ (.slice E5 n e5) := ⟨_, rfl⟩
          rw [← hV5] at hs5 ⊢
          have HS5 := Lib.hid hs5
          clear hs5 hV5 HC5 HN5
          obtain ⟨q0, q1, q2, q3, q4, q5, q6, q7⟩ := HS5.out.q
          have fq0 := HS5.out.box.free 0
          have fq1 := HS5.out.box.free 1
          have fq2 := HS5.out.box.free 2
          have fq3 := HS5.out.box.free 3
          have fq4 := HS5.out.box.free 4
          have fq5 := HS5.out.box.free 5
          have fq6 := HS5.out.box.free 6
          have fq7 := HS5.out.box.free 7
          obtain ⟨r0, r1, r2, r3, r4, r5, r6, r7⟩ := HS5.out.r
          have fr0 := HS5.out.res.free 0
          have fr1 := HS5.out.res.free 1
          have fr2 := HS5.out.res.free 2
          have fr3 := HS5.out.res.free 3
          have fr4 := HS5.out.res.free 4
          have fr5 := HS5.out.res.free 5
          have fr6 := HS5.out.res.free 6
          have fr7 := HS5.out.res.free 7
          go_upto_region 46 with (go_at_call 27; (with_reducible refine (set_nm 3 HS5.out.hF HS5.out.v.p1 hq (by omega)).mono ?_); rintro e w6 ⟨E6, e6, rfl, hn, hb⟩; have HN6 := Lib.hid hn; have HC6 := Lib.hid (HS5.out.call hb); have qd := HC6.out.q.2.1; have fd6 := HC6.out.box.free 1; clear hn hb)
          clear q0 fq0 r0 fr0 q1 fq1 r1 fr1 q2 fq2 r2 fr2 q3 fq3 r3 fr3 q4 fq4 r4 fr4 q5 fq5 r5 fr5 q6 fq6 r6 fr6 q7 fq7 r7 fr7
          clear qd fd6
          have hs6 := HC6.out.put1 (nm_stb _ _) HN6.out
          obtain ⟨V6, hV6⟩ : ∃ V, V = w6.setCell ⟨b, 1, none⟩ (.slice E6 n e6) := ⟨_, rfl⟩
          rw [← hV6] at hs6 ⊢
          have HS6 := Lib.hid hs6
          clear hs6 hV6 HC6 HN6
          obtain ⟨q0, q1, q2, q3, q4, q5, q6, q7⟩ := HS6.out.q
          have fq0 := HS6.out.box.free 0
          have fq1 := HS6.out.box.free 1
          have fq2 := HS6.out.box.free 2
          have fq3 := HS6.out.box.free 3
          have fq4 := HS6.out.box.free 4
          have fq5 := HS6.out.box.free 5
          have fq6 := HS6.out.box.free 6
          have fq7 := HS6.out.box.free 7
          obtain ⟨r0, r1, r2, r3, r4, r5, r6, r7⟩ := HS6.out.r
          have fr0 := HS6.out.res.free 0
          have fr1 := HS6.out.res.free 1
          have fr2 := HS6.out.res.free 2
          have fr3 := HS6.out.res.free 3
          have fr4 := HS6.out.res.free 4
          have fr5 := HS6.out.res.free 5
          have fr6 := HS6.out.res.free 6
          have fr7 := HS6.out.res.free 7
          go_wp2
          have HT := Lib.hid HS6.out.told
          refine bodyPost_ret (v := .tuple _) (results_cell4 rfl _ _ (b + 1) 34 _ (0, 0) _ rfl HS6.out.told.1 Tryd.underlying34 rfl (by kernel_rfl)) rfl (StpT.of ⟨_, _, _, _, _, _, _, _, _, _, _, _, _, _, _, rfl, told_none, BK.turn (q := q) HF.out HT.out.2.2 HGF.out (rput_stb HGL.out (wds_stb _ _ _)) (rput_stb HGM.out (nm_stb _ _)) (rput_stb HGS.out (nm_stb _ _)) (fun _ _ => rfl) ?_ (fun p e => ⟨nput_other e, rfl, rput_other e, rput_other e, rput_other e⟩) ?_, HT.out.2.1⟩)
          · intro p _
            show (((nput s.h q _ p).a : Nat) : Int) = _
            by_cases e : p = q
            · subst e; rw [nput_same, rput_same]; rfl
            · rw [nput_other e, rput_other e]
          · show HKp n (nput s.h q _ q) _ _ _ _ _ _
            rw [nput_same, rput_same, rput_same, rput_same]
            exact ⟨fun _ => ⟨hxx, hww⟩, fun e => (by have e : (3 : Nat) = 1 := e; omega), fun e => (by have e : (3 : Nat) = 2 := e; omega), fun _ => rfl⟩
        · rw [hw] at hc3
          obtain rfl : D = true := by rw [HD.out, hs]; simp only [hw]; rfl
          obtain rfl : TT = some (fun r => (slast s q r).v) := by rw [HTT.out, hs, hw]; rfl
          obtain rfl : ST = (⟨nput s.h q ⟨0, 0, (s.h q).x, (s.h q).w, (s.h q).f, (slast s q), (s.h q).mv, (s.h q).sw⟩, s.wd⟩ : SS) := by rw [HST.out, hs]; simp only [hw]; rfl
          go_upto_region 48 with (go_at_call 27; (with_reducible refine (set_nm 0 HSZ.out.hF HSZ.out.v.p1 hq (by omega)).mono ?_); rintro e w5 ⟨E5, e5, rfl, hn, hb⟩; have hse := (nm_stb _ _).below hb HSE.out; have HSE5 := Lib.hid hse; have HN5 := Lib.hid hn; have HC5 := Lib.hid (HSZ.out.call hb); have qd := HC5.out.q.2.1; have fd5 := HC5.out.box.free 1; clear hn hb hse)
          clear hc3
          clear q0 fq0 r0 fr0 q1 fq1 r1 fr1 q2 fq2 r2 fr2 q3 fq3 r3 fr3 q4 fq4 r4 fr4 q5 fq5 r5 fr5 q6 fq6 r6 fr6 q7 fq7 r7 fr7
          clear qd fd5
          have hs5 := HC5.out.put1 (nm_stb _ _) HN5.out
          have hse6 := (nm_stb _ _).put (F := FB F b) (p := ⟨b, 1, none⟩) (Or.inr (Or.inl rfl)) (.slice E5 n e5) HSE5.out
          obtain ⟨V5, hV5⟩ : ∃ V, V = w5.setCell ⟨b, 1, none⟩ (.slice E5 n e5) := ⟨_, rfl⟩
          rw [← hV5] at hs5 hse6 ⊢
          have HS5 := Lib.hid hs5
          have HSE6 := Lib.hid hse6
          clear hs5 hse6 hV5 HC5 HN5 HSE5
          obtain ⟨q0, q1, q2, q3, q4, q5, q6, q7⟩ := HS5.out.q
          have fq0 := HS5.out.box.free 0
          have fq1 := HS5.out.box.free 1
          have fq2 := HS5.out.box.free 2
          have fq3 := HS5.out.box.free 3
          have fq4 := HS5.out.box.free 4
          have fq5 := HS5.out.box.free 5
          have fq6 := HS5.out.box.free 6
          have fq7 := HS5.out.box.free 7
          obtain ⟨r0, r1, r2, r3, r4, r5, r6, r7⟩ := HS5.out.r
          have fr0 := HS5.out.res.free 0
          have fr1 := HS5.out.res.free 1
          have fr2 := HS5.out.res.free 2
          have fr3 := HS5.out.res.free 3
          have fr4 := HS5.out.res.free 4
          have fr5 := HS5.out.res.free 5
          have fr6 := HS5.out.res.free 6
          have fr7 := HS5.out.res.free 7
          go_wp2
          have HT := Lib.hid HS5.out.told
          refine bodyPost_ret (v := .tuple _) (results_cell4 rfl _ _ (b + 1) 34 _ (0, 0) _ rfl HS5.out.told.1 Tryd.underlying34 rfl (by kernel_rfl)) rfl (StpT.of ⟨_, _, _, _, _, _, _, _, _, _, _, _, _, _, _, rfl, told_some (told_keep (nm_stb _ _) HSE6.out), BK.turn (q := q) HF.out HT.out.2.2 HGF.out (rput_stb HGL.out (wds_stb _ _ _)) (rput_stb HGM.out (nm_stb _ _)) HGS.out (fun _ _ => rfl) ?_ (fun p e => ⟨nput_other e, rfl, rput_other e, rput_other e, rfl⟩) ?_, HT.out.2.1⟩)
          · intro p _
            show (((nput s.h q _ p).a : Nat) : Int) = _
            by_cases e : p = q
            · subst e; rw [nput_same, rput_same]; rfl
            · rw [nput_other e, rput_other e]
          · show HKp n (nput s.h q _ q) _ _ _ _ _ _
            rw [nput_same]
            exact HKp.zero rfl
    · rw [hh, hal]
      obtain rfl : D = false := by rw [HD.out, hs]; rfl
      obtain rfl : TT = none := by rw [HTT.out, hs]; split <;> rfl
      obtain rfl : ST = (⟨nput s.h q ⟨2, 0, (s.h q).x, (s.h q).w, (slast s q), (slast s q), (smvd (s.h q) (slast s q)), (s.h q).sw⟩, s.wd⟩ : SS) := by rw [HST.out, hs]
      obtain ⟨q0, q1, q2, q3, q4, q5, q6, q7⟩ := HSR.out.q
      have fq0 := HSR.out.box.free 0
      have fq1 := HSR.out.box.free 1
      have fq2 := HSR.out.box.free 2
      have fq3 := HSR.out.box.free 3
      have fq4 := HSR.out.box.free 4
      have fq5 := HSR.out.box.free 5
      have fq6 := HSR.out.box.free 6
      have fq7 := HSR.out.box.free 7
      obtain ⟨r0, r1, r2, r3, r4, r5, r6, r7⟩ := HSR.out.r
      have fr0 := HSR.out.res.free 0
      have fr1 := HSR.out.res.free 1
      have fr2 := HSR.out.res.free 2
      have fr3 := HSR.out.res.free 3
      have fr4 := HSR.out.res.free 4
      have fr5 := HSR.out.res.free 5
      have fr6 := HSR.out.res.free 6
      have fr7 := HSR.out.res.free 7
      go_upto_region 40 with fail
      clear q0 fq0 r0 fr0 q1 fq1 r1 fr1 q2 fq2 r2 fr2 q3 fq3 r3 fr3 q4 fq4 r4 fr4 q5 fq5 r5 fr5 q6 fq6 r6 fr6 q7 fq7 r7 fr7
      obtain ⟨bF2, oF2, eF, hbF2, _, ufx, hcF, _⟩ := sl_at (h := HSR.out.v.p4) hq
      injection eF with eF
      injection eF with eF eF2 _
      subst eF eF2
      obtain ⟨bg2, og2, eF, hbg2, _, ugx, hcG, hgG⟩ := sl_at (h := HSR.out.v.p5) hq
      injection eF with eF
      injection eF with eF eF2 _
      subst eF eF2
      rw [rput_same] at hgG
      obtain ⟨Ag2, cg2, rfl⟩ := SL.form hgG
      have HC3 := Lib.hid (show ∀ W2, Below wx.heap.size wx W2 → (fun W : World => W.cell? ⟨b, 4, none⟩ = some (.slice (some ⟨bF, oF, none⟩) n c4) ∧ W.cell? ⟨b, 5, none⟩ = some (.slice (some ⟨bg, og, none⟩) n e1) ∧ W.cell? ⟨bg, og + q, none⟩ = some (.slice Ag2 n cg2)) W2 from fun W2 hb => ⟨(hb.cell (p := ⟨b, 4, none⟩) HSR.out.box.lt).trans (HSR.out.box.cell 4), (hb.cell (p := ⟨b, 5, none⟩) HSR.out.box.lt).trans (HSR.out.box.cell 5), (hb.cell (p := ⟨bg, og + q, none⟩) hbg2).trans hcG⟩)
      have HGG := Lib.hid hgG
      clear hgG hcG hcF
      refine sreg40_any HSR hq h4 HGF.out HSR.out.v.p4 HGG.out HC3 _ _ _ _ _ _ _ _ _ _ _ _ _ _ _ _ _ _ _ _ _ _ _ _ _ _ _ _ _ _ _ _ _ _ _ _ _ _ _ _ _ _ _ _ _ _ _ _ _ _ _ _ _ _ _ _ _ _ _ _ _ _ _ _ _ _ _ _ _ _ _ _ _ _ _ _ _ _ _ _ _ _ _ _ _ _ _ _ _ _ _ _ _ _ _ _ _ _ _ _ _ _ _ _ _ _ _ _ _ _ _ _ _ _ _ _ _ _ _ _ _ _ _ _ _ _ _ _ _ _ _ _ _ _ _ _ _ _ _ _ _ _ _ _ _ _ _ _ _ _ _ _ _ _ _ _ _ _ _ _ _ _ _ _ _ _ _ _ _ _ _ _ _ _ _ _ _ _ _ _ _ _ _ _ _ _ _ _ _ _ _ _ _ _ _ _ _ _ _ _ _ _ _ _ _ _ _ _ _ _ _ _ _ _ _ _ _ _ _ _ _ _ _ _ _ _ _ _ _ _ _ _ _ _ _ _ _ _ _ _ _ _ _ _ _ _ _ _ _ _ _ _ _ _ _ _ _ _ _ _ (Lib.hid ?_) (fun _ _ d _ _ h => (by cases d <;> exact h))
      intro x0 x1 x2 x3 x4 x5 x6 x7 x8 x9 E5 e5 w5 hn hb5
      have HN5 := Lib.hid hn
      have HC5 := Lib.hid (HSR.out.call hb5)
      have hs5 := HC5.out.put4 (sl_stb (rput_stb HGF.out (wds_stb _ _ _))) HN5.out
      obtain ⟨V5, hV5⟩ : ∃ V, V = w5.setCell ⟨b, 4, none⟩ (.slice E5 n e5) := ⟨_, rfl⟩
      rw [← hV5] at hs5 ⊢
      have HS5 := Lib.hid hs5
      clear hs5 hV5 HC5 HN5 hn hb5 HC3 HGG
      obtain ⟨q0, q1, q2, q3, q4, q5, q6, q7⟩ := HS5.out.q
      have fq0 := HS5.out.box.free 0
      have fq1 := HS5.out.box.free 1
      have fq2 := HS5.out.box.free 2
      have fq3 := HS5.out.box.free 3
      have fq4 := HS5.out.box.free 4
      have fq5 := HS5.out.box.free 5
      have fq6 := HS5.out.box.free 6
      have fq7 := HS5.out.box.free 7
      obtain ⟨r0, r1, r2, r3, r4, r5, r6, r7⟩ := HS5.out.r
      have fr0 := HS5.out.res.free 0
      have fr1 := HS5.out.res.free 1
      have fr2 := HS5.out.res.free 2
      have fr3 := HS5.out.res.free 3
      have fr4 := HS5.out.res.free 4
      have fr5 := HS5.out.res.free 5
      have fr6 := HS5.out.res.free 6
      have fr7 := HS5.out.res.free 7
      go_upto_region 42 with (go_at_call 28; (with_reducible refine (reads_sl' HS5.out.hF (rput_stb HGL.out (wds_stb _ _ _)) nil_stb HS5.out.v.p5 hq (by omega) (SL.nil 0 _ _)).mono ?_); rintro e w6 ⟨E6, e6, rfl, hn, hb⟩; have HN6 := Lib.hid hn; have HC6 := Lib.hid (HS5.out.call hb); have qd := HC6.out.q.2.2.2.2.2.1; have fd6 := HC6.out.box.free 5; clear hn hb)
      clear q0 fq0 r0 fr0 q1 fq1 r1 fr1 q2 fq2 r2 fr2 q3 fq3 r3 fr3 q4 fq4 r4 fr4 q5 fq5 r5 fr5 q6 fq6 r6 fr6 q7 fq7 r7 fr7
      clear qd fd6
      have hs6 := HC6.out.put5 (sl_stb (rput_stb (rput_stb HGL.out (wds_stb _ _ _)) nil_stb)) HN6.out
      obtain ⟨V6, hV6⟩ : ∃ V, V = w6.setCell ⟨b, 5, none⟩ (.slice E6 n e6) := ⟨_, rfl⟩
      rw [← hV6] at hs6 ⊢
      have HS6 := Lib.hid hs6
      clear hs6 hV6 HC6 HN6
      obtain ⟨q0, q1, q2, q3, q4, q5, q6, q7⟩ := HS6.out.q
      have fq0 := HS6.out.box.free 0
      have fq1 := HS6.out.box.free 1
      have fq2 := HS6.out.box.free 2
      have fq3 := HS6.out.box.free 3
      have fq4 := HS6.out.box.free 4
      have fq5 := HS6.out.box.free 5
      have fq6 := HS6.out.box.free 6
      have fq7 := HS6.out.box.free 7
      obtain ⟨r0, r1, r2, r3, r4, r5, r6, r7⟩ := HS6.out.r
      have fr0 := HS6.out.res.free 0
      have fr1 := HS6.out.res.free 1
      have fr2 := HS6.out.res.free 2
      have fr3 := HS6.out.res.free 3
      have fr4 := HS6.out.res.free 4
      have fr5 := HS6.out.res.free 5
      have fr6 := HS6.out.res.free 6
      have fr7 := HS6.out.res.free 7
      go_wp2
      have HT := Lib.hid HS6.out.told
      refine bodyPost_ret (v := .tuple _) (results_cell4 rfl _ _ (b + 1) 34 _ (0, 0) _ rfl HS6.out.told.1 Tryd.underlying34 rfl (by kernel_rfl)) rfl (StpT.of ⟨_, _, _, _, _, _, _, _, _, _, _, _, _, _, _, rfl, told_none, BK.turn (q := q) HF.out HT.out.2.2 (rput_stb HGF.out (wds_stb _ _ _)) (rput_stb (rput_stb HGL.out (wds_stb _ _ _)) nil_stb) (rput_stb HGM.out (nm_stb _ _)) HGS.out (fun _ _ => rfl) ?_ (fun p e => ⟨nput_other e, rput_other e, (rput_other e).trans (rput_other e), rput_other e, rfl⟩) ?_, HT.out.2.1⟩)
      · intro p _
        show (((nput s.h q _ p).a : Nat) : Int) = _
        by_cases e : p = q
        · subst e; rw [nput_same]; show _ = (((s.h p).a : Nat) : Int); rw [ha]
        · rw [nput_other e]
      · show HKp n (nput s.h q _ q) _ _ _ _ _ _
        rw [nput_same, rput_same, rput_same, rput_same]
        exact ⟨fun _ => ⟨hxx, hww⟩, fun e => (by have e : (2 : Nat) = 1 := e; omega), fun _ => ⟨rfl, rfl, nm_eq fun i hi => if_pos hi⟩, fun e => (by have e : (2 : Nat) = 3 := e; omega)⟩
end Go.Proofs.YtnplhjbbkccdnaaDoor.Snap
