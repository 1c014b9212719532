/-
  The reference of package univ: what StepUniv answers.
-/
import Derived.Test.YtegplglokaoemaaDoorUnivRef3
import Derived.StillTailTactics
namespace Go.Proofs.YtegplglokaoemaaDoor.Univ
open Go.RowKit

/-- What the reference's steps ask of a row beside. -/
structure Lo2 (n : Nat) (v : US) : Prop where
  cm : ∀ p, p < n → (v.h p).a ≠ 0 → (v.h p).c ≤ v.m ∧ ((v.h p).a = 2 → (v.h p).c < v.m)
  sm : ∀ p, p < n → (v.h p).a ≠ 0 → (v.h p).s = usum v.add v.cell (v.h p).c
  ck : ∀ i, i < v.m → v.cell i < v.k
theorem loc_end {n : Nat} {v : US} (h : Loc n v) (q : Nat) : Loc n (putS (putC (putE (putA v q 0) q 0) q 0) q 0) := by
  have ha : ∀ p, ((putS (putC (putE (putA v q 0) q 0) q 0) q 0).h p).a ≠ 0 → p ≠ q ∧ (putS (putC (putE (putA v q 0) q 0) q 0) q 0).h p = v.h p := fun p hp => by
    by_cases e : p = q
    · subst e; rw [putS_a, putC_a, putE_a, putA_same] at hp; exact absurd rfl hp
    · exact ⟨e, by rw [putS_off _ e, putC_off _ e, putE_off _ e, putA_off _ e]⟩
  refine ⟨h.m, h.k, fun p hp => ?_, fun p hp h0 => ?_, fun p hp h0 => ?_, fun p hp h0 => ?_, h.x⟩
  · by_cases e : p = q
    · subst e; rw [putS_a, putC_a, putE_a, putA_same]; omega
    · rw [putS_off _ e, putC_off _ e, putE_off _ e, putA_off _ e]; exact h.ln p hp
  · have := (ha p h0).2; rw [this] at h0 ⊢; exact h.c p hp h0
  · have := (ha p (by omega)).2; rw [this] at h0 ⊢; exact h.d p hp h0
  · have := (ha p h0).2; rw [this] at h0 ⊢; exact h.s p hp h0
set_option maxHeartbeats 4000000 in
set_option maxRecDepth 100000 in
theorem refstep_any {F : Nat → Prop} {n : Nat} {v : US} {va vc vt vd vl : Value} {fd fc : Nat → Int} (w : World) (h : RU F w n v va vc vt vd vl fd fc) (hF : ∀ b, F b → b < w.heap.size) (hl : Loc n v) (hl2 : Lo2 n v) (h1 : 1 ≤ n) (h4 : n ≤ 4) (p : Int) :
    Calls Tryd.prog 9 #[.agg #[va, vc, vt, vd, vl], .int .i64 p] w fun e w' => ∃ ua uc ut ud ul gd gc, e = .returned (.tuple #[.agg #[ua, uc, ut, ud, ul], .bool (stpD n v p), .int .i64 (stpG n v p), .int .i64 (stpE n v p)]) ∧ RU F w' n (stpS n v p) ua uc ut ud ul gd gc ∧ Below w.heap.size w w' := by
  obtain ⟨A0, c0, A1, c1, A2, c2, A3, c3, A4, c4, rfl, rfl, rfl, rfl, rfl⟩ := h.forms
  have HR := Lib.hid h
  have hst := RS.start h hF
  have hk40 := hl.k
  have hm40 := hl.m
  obtain ⟨K, hK⟩ : ∃ K, K = v.k := ⟨_, rfl⟩
  obtain ⟨m, hm⟩ : ∃ m, m = v.m := ⟨_, rfl⟩
  obtain ⟨b, hb⟩ : ∃ b, b = w.heap.size := ⟨_, rfl⟩
  rw [← hK, ← hm] at hst ⊢
  rw [← hK] at hk40
  rw [← hm] at hm40
  obtain ⟨W0, hW0⟩ : ∃ W0, W0 = (w.alloc (.cells #[.slice A0 K c0, .slice A1 m c1, .slice A2 n c2, .slice A3 n c3, .slice A4 n c4] 31)).alloc (.cells #[.slice none 0 0, .slice none 0 0, .slice none 0 0, .slice none 0 0, .slice none 0 0] 31) := ⟨_, rfl⟩
  rw [← hW0, ← hb] at hst
  have HS0 := Lib.hid hst
  have HK := Lib.hid hK
  have HM := Lib.hid hm
  have hwn : IntKind.i64.wrap ((n : Int) - 1) = (n : Int) - 1 := IntWalk.i64_in _ (by omega)
  have HW0 := Lib.hid hW0
  have HBW := Lib.hid hb.symm
  clear hst h hF hK hm hb hW0
  by_cases hp : 0 ≤ p ∧ p < n
  · have HI1 := Lib.hid (inR_one p 0 ((n : Int) - 1) true (decide_eq_true (by omega)))
    obtain ⟨q, rfl⟩ := Int.eq_ofNat_of_zero_le hp.1
    have hq : q < n := by omega
    have hqI : (q : Int) < n := by omega
    have ha2 := hl.ln q hq
    obtain ⟨bt, ot, rfl, _, _, hct⟩ := HS0.out.t.at_ hq
    obtain ha | ha | ha : (v.h q).a = 0 ∨ (v.h q).a = 1 ∨ (v.h q).a = 2 := by omega
    · have he : stpE n v q = 7 := by unfold stpE; rw [if_neg (by omega), if_pos (by simpa using ha)]
      have hd : stpD n v q = false := decide_eq_false fun h => h.2.1 (by simpa using ha)
      have hg : stpG n v q = 0 := by rw [stpG, hd]; rfl
      rw [hg, hd, stpS, he, if_neg (by omega)]
      rw [ha] at hct
      clear hp ha ha2 he hd hg
      go_enter Tryd.func9, Tryd.ntmps9
      go_upto_region 1 with fail
      rw [← HW0.out, HBW.out]
      obtain ⟨q0, q1, q2, q3, q4⟩ := HS0.out.q
      have fq0 := HS0.out.box.free 0
      have fq1 := HS0.out.box.free 1
      have fq2 := HS0.out.box.free 2
      have fq3 := HS0.out.box.free 3
      have fq4 := HS0.out.box.free 4
      obtain ⟨r0, r1, r2, r3, r4⟩ := HS0.out.r
      have fr0 := HS0.out.res.free 0
      have fr1 := HS0.out.res.free 1
      have fr2 := HS0.out.res.free 2
      have fr3 := HS0.out.res.free 3
      have fr4 := HS0.out.res.free 4
      go_wp2_with (go_at_call 15; (with_reducible refine (HI1.out _).mono ?_); rintro e w' ⟨rfl, rfl⟩)
      refine bodyPost_ret (v := .tuple _) (results_cell4 rfl _ _ (b + 1) 31 _ (0, 0) _ rfl HS0.out.told.1 Tryd.underlying31 rfl (by kernel_rfl)) rfl ⟨_, _, _, _, _, _, _, rfl, HS0.out.told.2.2 _ (HS0.out.same HK.out.symm HM.out.symm HR.out.f), HS0.out.told.2.1⟩
    · have he : stpE n v q = 0 := by unfold stpE; rw [if_neg (by omega), if_neg (show ¬ (v.h (q : Int).toNat).a = 0 by simpa using (by omega : ¬ (v.h q).a = 0))]
      have hd : stpD n v q = false := decide_eq_false fun h => h.2.2.1 (by simpa using ha)
      have hg : stpG n v q = 0 := by rw [stpG, hd]; rfl
      rw [hg, hd, stpS, he, if_pos rfl]
      have HA0 := Lib.hid (show (v.h q).a ≠ 0 by omega)
      obtain ⟨hfe, hfc⟩ := HR.out.f q hq (by omega)
      obtain ⟨bl, ol, rfl, _, _, hcl⟩ := HS0.out.l.at_ hq
      obtain ⟨bd, od, rfl, _, _, hcd⟩ := HS0.out.d.at_ hq
      rw [hfc] at hcl
      rw [hfe] at hcd
      obtain ⟨C, hC⟩ : ∃ C, C = (v.h q).c := ⟨_, rfl⟩
      obtain ⟨E, hE⟩ : ∃ E, E = (v.h q).e := ⟨_, rfl⟩
      rw [← hC] at hcl
      rw [← hE] at hcd
      have hdec := dec_step ha
      rw [ha] at hct
      by_cases hcm : C = m
      · have hI : ((C : Int) == (m : Int)) = true := by simp; omega
        have hv : ustep v q = putA (putM (putCell v v.m (v.h q).e) (v.m + 1)) q 2 := by rw [← hdec, udec, if_pos (by rw [← hC, hcm, HM.out])]
        have HV := Lib.hid hv
        have HE := Lib.hid hE
        clear hp ha ha2 he hd hg hfe hfc hC hE hdec hv hcm
        go_enter Tryd.func9, Tryd.ntmps9
        go_upto_region 1 with fail
        rw [← HW0.out, HBW.out]
        obtain ⟨q0, q1, q2, q3, q4⟩ := HS0.out.q
        have fq0 := HS0.out.box.free 0
        have fq1 := HS0.out.box.free 1
        have fq2 := HS0.out.box.free 2
        have fq3 := HS0.out.box.free 3
        have fq4 := HS0.out.box.free 4
        obtain ⟨r0, r1, r2, r3, r4⟩ := HS0.out.r
        have fr0 := HS0.out.res.free 0
        have fr1 := HS0.out.res.free 1
        have fr2 := HS0.out.res.free 2
        have fr3 := HS0.out.res.free 3
        have fr4 := HS0.out.res.free 4
        go_upto_region 8 with (go_at_call 15; (with_reducible refine (HI1.out _).mono ?_); rintro e w' ⟨rfl, rfl⟩)
        go_still_tail 7, (by kernel_rfl)
        change wpList _ _ _ _ _ W0.drew
        have hs0d : RS F w W0.drew b K m n _ _ _ _ _ _ _ _ _ _ := HS0.out.call (Below.refl W0.heap.size W0).drew
        clear q0 q1 q2 q3 q4 fq0 fq1 fq2 fq3 fq4 r0 r1 r2 r3 r4 fr0 fr1 fr2 fr3 fr4
        clear hct hcl hcd
        obtain ⟨WD, hWD⟩ : ∃ WD, WD = W0.drew := ⟨_, rfl⟩
        rw [← hWD] at hs0d ⊢
        have HSD := Lib.hid hs0d
        clear hs0d hWD
        obtain ⟨q0, q1, q2, q3, q4⟩ := HSD.out.q
        have fq0 := HSD.out.box.free 0
        have fq1 := HSD.out.box.free 1
        have fq2 := HSD.out.box.free 2
        have fq3 := HSD.out.box.free 3
        have fq4 := HSD.out.box.free 4
        obtain ⟨r0, r1, r2, r3, r4⟩ := HSD.out.r
        have fr0 := HSD.out.res.free 0
        have fr1 := HSD.out.res.free 1
        have fr2 := HSD.out.res.free 2
        have fr3 := HSD.out.res.free 3
        have fr4 := HSD.out.res.free 4
        go_upto_region 9 with (go_at_call 17; (with_reducible refine (more_row (E : Int) _ HSD.out.hF HSD.out.c (by omega)).mono ?_); rintro e w1 ⟨A5, d1, rfl, hn, hb⟩; have HN1 := Lib.hid hn; have HC1 := Lib.hid (HSD.out.call hb); have qd := HC1.out.q.2.1; have fd1 := HC1.out.box.free 1; clear hn hb)
        clear q0 q1 q2 q3 q4 fq0 fq1 fq2 fq3 fq4 r0 r1 r2 r3 r4 fr0 fr1 fr2 fr3 fr4
        clear qd fd1
        have hs1 := HC1.out.put1 HN1.out
        obtain ⟨V1, hV1⟩ : ∃ V, V = w1.setCell ⟨b, 1, none⟩ (.slice A5 (m + 1) d1) := ⟨_, rfl⟩
        rw [← hV1] at hs1 ⊢
        have HS1 := Lib.hid hs1
        clear hs1 hV1 HC1 HN1
        obtain ⟨q0, q1, q2, q3, q4⟩ := HS1.out.q
        have fq0 := HS1.out.box.free 0
        have fq1 := HS1.out.box.free 1
        have fq2 := HS1.out.box.free 2
        have fq3 := HS1.out.box.free 3
        have fq4 := HS1.out.box.free 4
        obtain ⟨r0, r1, r2, r3, r4⟩ := HS1.out.r
        have fr0 := HS1.out.res.free 0
        have fr1 := HS1.out.res.free 1
        have fr2 := HS1.out.res.free 2
        have fr3 := HS1.out.res.free 3
        have fr4 := HS1.out.res.free 4
        go_upto_region 10 with (go_at_call 16; (with_reducible refine (set_row 2 _ HS1.out.hF HS1.out.t hq (by omega)).mono ?_); rintro e w2 ⟨A6, d2, rfl, hn, hb⟩; have HN2 := Lib.hid hn; have HC2 := Lib.hid (HS1.out.call hb); have qd := HC2.out.q.2.2.1; have fd2 := HC2.out.box.free 2; clear hn hb)
        clear q0 q1 q2 q3 q4 fq0 fq1 fq2 fq3 fq4 r0 r1 r2 r3 r4 fr0 fr1 fr2 fr3 fr4
        clear qd fd2
        have hs2 := HC2.out.put2 HN2.out
        obtain ⟨V2, hV2⟩ : ∃ V, V = w2.setCell ⟨b, 2, none⟩ (.slice A6 n d2) := ⟨_, rfl⟩
        rw [← hV2] at hs2 ⊢
        have HS2 := Lib.hid hs2
        clear hs2 hV2 HC2 HN2
        obtain ⟨q0, q1, q2, q3, q4⟩ := HS2.out.q
        have fq0 := HS2.out.box.free 0
        have fq1 := HS2.out.box.free 1
        have fq2 := HS2.out.box.free 2
        have fq3 := HS2.out.box.free 3
        have fq4 := HS2.out.box.free 4
        obtain ⟨r0, r1, r2, r3, r4⟩ := HS2.out.r
        have fr0 := HS2.out.res.free 0
        have fr1 := HS2.out.res.free 1
        have fr2 := HS2.out.res.free 2
        have fr3 := HS2.out.res.free 3
        have fr4 := HS2.out.res.free 4
        go_wp2
        have HRU := Lib.hid (HS2.out.done (v := ustep v q) (by rw [HK.out]; rfl) (by rw [HV.out, HM.out]; rfl) (fun i hi => rfl) (fun i hi => by
              rw [HV.out]
              show ((uput v.cell v.m (v.h q).e i : Nat) : Int) = _
              rw [← HM.out, ← HE.out]
              by_cases e : i = m
              · rw [e, uput_same, rput_same]
              · rw [uput_other e, rput_other e]) (fun p hp => by
              rw [HV.out]
              show (((uput v.h q { v.h q with a := 2 } p).a : Nat) : Int) = _
              by_cases e : p = q
              · rw [e, uput_same, rput_same]; rfl
              · rw [uput_other e, rput_other e]) (fun p hp ha => by
              rw [HV.out] at ha ⊢
              have hh : (putA (putM (putCell v v.m (v.h q).e) (v.m + 1)) q 2).h p = uput v.h q { v.h q with a := 2 } p := rfl
              rw [hh] at ha ⊢
              by_cases e : p = q
              · rw [e, uput_same]; exact HR.out.f q hq HA0.out
              · rw [uput_other e] at ha ⊢
                exact HR.out.f p hp ha))
        refine bodyPost_ret (v := .tuple _) (results_cell4 rfl _ _ (b + 1) 31 _ (0, 0) _ rfl HS2.out.told.1 Tryd.underlying31 rfl (by kernel_rfl)) rfl ⟨_, _, _, _, _, _, _, rfl, HS2.out.told.2.2 _ HRU.out, HS2.out.told.2.1⟩
      · have hI : ((C : Int) == (m : Int)) = false := by simp; omega
        have hv : ustep v q = putA v q 2 := by rw [← hdec, udec, if_neg (by rw [← hC, ← HM.out]; exact hcm)]
        have HV := Lib.hid hv
        clear hp ha ha2 he hd hg hfe hfc hC hE hdec hv hcm
        go_enter Tryd.func9, Tryd.ntmps9
        go_upto_region 1 with fail
        rw [← HW0.out, HBW.out]
        obtain ⟨q0, q1, q2, q3, q4⟩ := HS0.out.q
        have fq0 := HS0.out.box.free 0
        have fq1 := HS0.out.box.free 1
        have fq2 := HS0.out.box.free 2
        have fq3 := HS0.out.box.free 3
        have fq4 := HS0.out.box.free 4
        obtain ⟨r0, r1, r2, r3, r4⟩ := HS0.out.r
        have fr0 := HS0.out.res.free 0
        have fr1 := HS0.out.res.free 1
        have fr2 := HS0.out.res.free 2
        have fr3 := HS0.out.res.free 3
        have fr4 := HS0.out.res.free 4
        go_upto_region 10 with (first | (go_at_call 15; (with_reducible refine (HI1.out _).mono ?_); rintro e w' ⟨rfl, rfl⟩) | (go_at_call 16; (with_reducible refine (set_row 2 _ HS0.out.hF HS0.out.t hq (by omega)).mono ?_); rintro e w2 ⟨A6, d2, rfl, hn, hb⟩; have HN2 := Lib.hid hn; have HC2 := Lib.hid (HS0.out.call hb); have qd := HC2.out.q.2.2.1; have fd2 := HC2.out.box.free 2; clear hn hb))
        clear hct hcl hcd
        clear q0 q1 q2 q3 q4 fq0 fq1 fq2 fq3 fq4 r0 r1 r2 r3 r4 fr0 fr1 fr2 fr3 fr4
        clear qd fd2
        have hs2 := HC2.out.put2 HN2.out
        obtain ⟨V2, hV2⟩ : ∃ V, V = w2.setCell ⟨b, 2, none⟩ (.slice A6 n d2) := ⟨_, rfl⟩
        rw [← hV2] at hs2 ⊢
        have HS2 := Lib.hid hs2
        clear hs2 hV2 HC2 HN2
        obtain ⟨q0, q1, q2, q3, q4⟩ := HS2.out.q
        have fq0 := HS2.out.box.free 0
        have fq1 := HS2.out.box.free 1
        have fq2 := HS2.out.box.free 2
        have fq3 := HS2.out.box.free 3
        have fq4 := HS2.out.box.free 4
        obtain ⟨r0, r1, r2, r3, r4⟩ := HS2.out.r
        have fr0 := HS2.out.res.free 0
        have fr1 := HS2.out.res.free 1
        have fr2 := HS2.out.res.free 2
        have fr3 := HS2.out.res.free 3
        have fr4 := HS2.out.res.free 4
        go_wp2
        have HRU := Lib.hid (HS2.out.done (v := ustep v q) (by rw [HK.out]; rfl) (by rw [HV.out, HM.out]; rfl) (fun i hi => rfl) (fun i hi => by rw [HV.out]; rfl) (fun p hp => by
              rw [HV.out]
              show (((uput v.h q { v.h q with a := 2 } p).a : Nat) : Int) = _
              by_cases e : p = q
              · rw [e, uput_same, rput_same]; rfl
              · rw [uput_other e, rput_other e]) (fun p hp ha => by
              rw [HV.out] at ha ⊢
              have hh : (putA v q 2).h p = uput v.h q { v.h q with a := 2 } p := rfl
              rw [hh] at ha ⊢
              by_cases e : p = q
              · rw [e, uput_same]; exact HR.out.f q hq HA0.out
              · rw [uput_other e] at ha ⊢
                exact HR.out.f p hp ha))
        refine bodyPost_ret (v := .tuple _) (results_cell4 rfl _ _ (b + 1) 31 _ (0, 0) _ rfl HS2.out.told.1 Tryd.underlying31 rfl (by kernel_rfl)) rfl ⟨_, _, _, _, _, _, _, rfl, HS2.out.told.2.2 _ HRU.out, HS2.out.told.2.1⟩
    · have he : stpE n v q = 0 := by unfold stpE; rw [if_neg (by omega), if_neg (show ¬ (v.h (q : Int).toNat).a = 0 by simpa using (by omega : ¬ (v.h q).a = 0))]
      have HA0 := Lib.hid (show (v.h q).a ≠ 0 by omega)
      obtain ⟨hfe, hfc⟩ := HR.out.f q hq (by omega)
      obtain ⟨bl, ol, rfl, _, _, hcl⟩ := HS0.out.l.at_ hq
      obtain ⟨bd, od, rfl, _, _, hcd⟩ := HS0.out.d.at_ hq
      rw [hfc] at hcl
      rw [hfe] at hcd
      have hcm := (hl2.cm q hq (by omega)).2 ha
      obtain ⟨bc, oc, rfl, _, _, hcc⟩ := HS0.out.c.at_ (show (v.h q).c < m by rw [HM.out]; exact hcm)
      have hcK := hl.c q hq (by omega)
      obtain ⟨C, hC⟩ : ∃ C, C = (v.h q).c := ⟨_, rfl⟩
      obtain ⟨E, hE⟩ : ∃ E, E = (v.h q).e := ⟨_, rfl⟩
      rw [← hC] at hcl hcc hcm hcK
      rw [← hE] at hcd
      rw [← HM.out] at hcm
      have hCI : (C : Int) < m := by omega
      have hwC : IntKind.i64.wrap ((C : Int) + 1) = (C : Int) + 1 := IntWalk.i64_in _ (by omega)
      have hsm := hl2.sm q hq (by omega)
      rw [← hC] at hsm
      have HL := Lib.hid hl
      have HL2 := Lib.hid hl2
      obtain ⟨X, hX⟩ : ∃ X, X = v.cell C := ⟨_, rfl⟩
      rw [← hX] at hcc
      have HC := Lib.hid hC
      by_cases hb2 : X = E
      · have hb3 : v.cell (v.h q).c = (v.h q).e := by rw [← hC, ← hE, ← hX]; exact hb2
        have hd : stpD n v q = true := decide_eq_true ⟨hp, (show (v.h q).a ≠ 0 by omega), (show (v.h q).a ≠ 1 by omega), hb3⟩
        have hg : stpG n v q = usum v.add v.cell C := by rw [stpG, hd]; exact hsm
        rw [hg, hd, stpS, he, if_pos rfl]
        have hI : ((X : Int) == (E : Int)) = true := by simp; omega
        have HV := Lib.hid (end_step ha hb3).symm
        have HCM := Lib.hid hcm
        rw [ha] at hct
        clear hp ha ha2 he hd hg hfe hfc hC hE hX hb2 hb3 hl hl2 hsm hcK
        go_enter Tryd.func9, Tryd.ntmps9
        go_upto_region 1 with fail
        rw [← HW0.out, HBW.out]
        obtain ⟨q0, q1, q2, q3, q4⟩ := HS0.out.q
        have fq0 := HS0.out.box.free 0
        have fq1 := HS0.out.box.free 1
        have fq2 := HS0.out.box.free 2
        have fq3 := HS0.out.box.free 3
        have fq4 := HS0.out.box.free 4
        obtain ⟨r0, r1, r2, r3, r4⟩ := HS0.out.r
        have fr0 := HS0.out.res.free 0
        have fr1 := HS0.out.res.free 1
        have fr2 := HS0.out.res.free 2
        have fr3 := HS0.out.res.free 3
        have fr4 := HS0.out.res.free 4
        go_upto_region 11 with (go_at_call 15; (with_reducible refine (HI1.out _).mono ?_); rintro e w' ⟨rfl, rfl⟩)
        go_quiet (fail)
        go_upto_region 12 with fail
        have hs0d := HS0.out.call (below_drewN (Below.refl W0.heap.size W0) nq)
        clear q0 q1 q2 q3 q4 fq0 fq1 fq2 fq3 fq4 r0 r1 r2 r3 r4 fr0 fr1 fr2 fr3 fr4
        clear hct hcl hcd hcc
        obtain ⟨WD, hWD⟩ : ∃ WD, WD = W0.drewN nq := ⟨_, rfl⟩
        rw [← hWD] at hs0d ⊢
        have HSD := Lib.hid hs0d
        clear hs0d hWD
        obtain ⟨q0, q1, q2, q3, q4⟩ := HSD.out.q
        have fq0 := HSD.out.box.free 0
        have fq1 := HSD.out.box.free 1
        have fq2 := HSD.out.box.free 2
        have fq3 := HSD.out.box.free 3
        have fq4 := HSD.out.box.free 4
        obtain ⟨r0, r1, r2, r3, r4⟩ := HSD.out.r
        have fr0 := HSD.out.res.free 0
        have fr1 := HSD.out.res.free 1
        have fr2 := HSD.out.res.free 2
        have fr3 := HSD.out.res.free 3
        have fr4 := HSD.out.res.free 4
        go_upto_region 13 with (go_at_call 16; (with_reducible refine (set_row 0 _ HSD.out.hF HSD.out.t hq (by omega)).mono ?_); rintro e w2 ⟨A6, d2, rfl, hn, hb⟩; have HN2 := Lib.hid hn; have HC2 := Lib.hid (HSD.out.call hb); have qd := HC2.out.q.2.2.1; have fd2 := HC2.out.box.free 2; clear hn hb)
        clear q0 q1 q2 q3 q4 fq0 fq1 fq2 fq3 fq4 r0 r1 r2 r3 r4 fr0 fr1 fr2 fr3 fr4
        clear qd fd2
        have hs2 := HC2.out.put2 HN2.out
        obtain ⟨V2, hV2⟩ : ∃ V, V = w2.setCell ⟨b, 2, none⟩ (.slice A6 n d2) := ⟨_, rfl⟩
        rw [← hV2] at hs2 ⊢
        have HS2 := Lib.hid hs2
        clear hs2 hV2 HC2 HN2
        obtain ⟨q0, q1, q2, q3, q4⟩ := HS2.out.q
        have fq0 := HS2.out.box.free 0
        have fq1 := HS2.out.box.free 1
        have fq2 := HS2.out.box.free 2
        have fq3 := HS2.out.box.free 3
        have fq4 := HS2.out.box.free 4
        obtain ⟨r0, r1, r2, r3, r4⟩ := HS2.out.r
        have fr0 := HS2.out.res.free 0
        have fr1 := HS2.out.res.free 1
        have fr2 := HS2.out.res.free 2
        have fr3 := HS2.out.res.free 3
        have fr4 := HS2.out.res.free 4
        have HRU := Lib.hid (HS2.out.done (v := ustep v q) (by rw [HK.out]; rfl) (by rw [HV.out, HM.out]; rfl) (fun i hi => rfl) (fun i hi => by rw [HV.out]; rfl) (fun p hp => by
              rw [HV.out]
              show (((uput (putC (putE (putA v q 0) q 0) q 0).h q { (putC (putE (putA v q 0) q 0) q 0).h q with s := 0 } p).a : Nat) : Int) = _
              by_cases e : p = q
              · subst e; rw [uput_same, rput_same]; show (((putC (putE (putA v p 0) p 0) p 0).h p).a : Int) = 0; rw [putC_a, putE_a, putA_same]; rfl
              · rw [uput_other e, rput_other e, putC_off _ e, putE_off _ e, putA_off _ e]) (fun p hp ha => by
              rw [HV.out] at ha ⊢
              by_cases e : p = q
              · subst e; rw [putS_a, putC_a, putE_a, putA_same] at ha; exact absurd rfl ha
              · rw [putS_off _ e, putC_off _ e, putE_off _ e, putA_off _ e] at ha ⊢
                exact HR.out.f p hp ha))
        have HLV := Lib.hid (loc_end HL.out q)
        have HBF := Lib.hid (fun (V : World) (hV : Below V2.heap.size V2 V) => before_any V ((HRU.out).below hV) (n := n) (v := ustep v q) (c := C) (show Loc n (ustep v q) from by rw [HV.out]; exact HLV.out) (fun i hi => by rw [HV.out] at hi ⊢; exact HL2.out.ck i hi) (by rw [HV.out]; show C ≤ v.m; rw [← HM.out]; exact Nat.le_of_lt HCM.out))
        have HUS := Lib.hid (show usum (ustep v q).add (ustep v q).cell C = usum v.add v.cell C from by rw [HV.out]; rfl)
        rw [HUS.out] at HBF
        go_wp2_with fail
        go_region_with (go_at_call 19; refine (HBF.out _ (by first | exact (Below.refl _ V2).drew | exact Below.refl _ V2)).mono ?_; rintro e w9 ⟨rfl, hb9⟩; have HC9 := Lib.hid (HS2.out.call (show Below V2.heap.size V2 w9 from below_undrew hb9)); obtain ⟨s0, s1, s2, s3, s4⟩ := HC9.out.q; have g0 := HC9.out.res.free 0; have g1 := HC9.out.res.free 1; have g2 := HC9.out.res.free 2; have g3 := HC9.out.res.free 3; have g4 := HC9.out.res.free 4; obtain ⟨t0, t1, t2, t3, t4⟩ := HC9.out.r; have HB9 := Lib.hid hb9; clear hb9)
        all_goals
          go_wp2
          have HRU9 := Lib.hid (HRU.out.below (show Below V2.heap.size V2 w9 from below_undrew HB9.out))
          refine bodyPost_ret (v := .tuple _) (results_cell4 rfl _ _ (b + 1) 31 _ (0, 0) _ rfl HC9.out.told.1 Tryd.underlying31 rfl (by kernel_rfl)) rfl ⟨_, _, _, _, _, _, _, rfl, HC9.out.told.2.2 _ HRU9.out, HC9.out.told.2.1⟩
      · have hb3 : v.cell (v.h q).c ≠ (v.h q).e := by rw [← hC, ← hE, ← hX]; exact hb2
        have hd : stpD n v q = false := decide_eq_false fun h => hb3 h.2.2.2
        have hg : stpG n v q = 0 := by rw [stpG, hd]; rfl
        rw [hg, hd, stpS, he, if_pos rfl]
        have hI : ((X : Int) == (E : Int)) = false := by simp; omega
        have HV := Lib.hid (pas_step ha hb3).symm
        rw [ha] at hct
        clear hp ha ha2 he hd hg hfe hfc hC hE hX hb2 hb3 hl hl2 hsm hcK
        go_enter Tryd.func9, Tryd.ntmps9
        go_upto_region 1 with fail
        rw [← HW0.out, HBW.out]
        obtain ⟨q0, q1, q2, q3, q4⟩ := HS0.out.q
        have fq0 := HS0.out.box.free 0
        have fq1 := HS0.out.box.free 1
        have fq2 := HS0.out.box.free 2
        have fq3 := HS0.out.box.free 3
        have fq4 := HS0.out.box.free 4
        obtain ⟨r0, r1, r2, r3, r4⟩ := HS0.out.r
        have fr0 := HS0.out.res.free 0
        have fr1 := HS0.out.res.free 1
        have fr2 := HS0.out.res.free 2
        have fr3 := HS0.out.res.free 3
        have fr4 := HS0.out.res.free 4
        go_upto_region 11 with (go_at_call 15; (with_reducible refine (HI1.out _).mono ?_); rintro e w' ⟨rfl, rfl⟩)
        go_quiet (fail)
        go_upto_region 14 with fail
        have hs0d := HS0.out.call (below_drewN (Below.refl W0.heap.size W0) nq)
        clear q0 q1 q2 q3 q4 fq0 fq1 fq2 fq3 fq4 r0 r1 r2 r3 r4 fr0 fr1 fr2 fr3 fr4
        clear hct hcl hcd hcc
        obtain ⟨WD, hWD⟩ : ∃ WD, WD = W0.drewN nq := ⟨_, rfl⟩
        rw [← hWD] at hs0d ⊢
        have HSD := Lib.hid hs0d
        clear hs0d hWD
        obtain ⟨q0, q1, q2, q3, q4⟩ := HSD.out.q
        have fq0 := HSD.out.box.free 0
        have fq1 := HSD.out.box.free 1
        have fq2 := HSD.out.box.free 2
        have fq3 := HSD.out.box.free 3
        have fq4 := HSD.out.box.free 4
        obtain ⟨r0, r1, r2, r3, r4⟩ := HSD.out.r
        have fr0 := HSD.out.res.free 0
        have fr1 := HSD.out.res.free 1
        have fr2 := HSD.out.res.free 2
        have fr3 := HSD.out.res.free 3
        have fr4 := HSD.out.res.free 4
        go_upto_region 15 with (go_at_call 16; (with_reducible refine (set_row ((C : Int) + 1) _ HSD.out.hF HSD.out.l hq (by omega)).mono ?_); rintro e w1 ⟨A5, d1, rfl, hn, hb⟩; have HN1 := Lib.hid hn; have HC1 := Lib.hid (HSD.out.call hb); have qd := HC1.out.q.2.2.2.2; have fd1 := HC1.out.box.free 4; clear hn hb)
        clear q0 q1 q2 q3 q4 fq0 fq1 fq2 fq3 fq4 r0 r1 r2 r3 r4 fr0 fr1 fr2 fr3 fr4
        clear qd fd1
        have hs1 := HC1.out.put4 HN1.out
        obtain ⟨V1, hV1⟩ : ∃ V, V = w1.setCell ⟨b, 4, none⟩ (.slice A5 n d1) := ⟨_, rfl⟩
        rw [← hV1] at hs1 ⊢
        have HS1 := Lib.hid hs1
        clear hs1 hV1 HC1 HN1
        obtain ⟨q0, q1, q2, q3, q4⟩ := HS1.out.q
        have fq0 := HS1.out.box.free 0
        have fq1 := HS1.out.box.free 1
        have fq2 := HS1.out.box.free 2
        have fq3 := HS1.out.box.free 3
        have fq4 := HS1.out.box.free 4
        obtain ⟨r0, r1, r2, r3, r4⟩ := HS1.out.r
        have fr0 := HS1.out.res.free 0
        have fr1 := HS1.out.res.free 1
        have fr2 := HS1.out.res.free 2
        have fr3 := HS1.out.res.free 3
        have fr4 := HS1.out.res.free 4
        go_upto_region 16 with (go_at_call 16; (with_reducible refine (set_row 1 _ HS1.out.hF HS1.out.t hq (by omega)).mono ?_); rintro e w2 ⟨A6, d2, rfl, hn, hb⟩; have HN2 := Lib.hid hn; have HC2 := Lib.hid (HS1.out.call hb); have qd := HC2.out.q.2.2.1; have fd2 := HC2.out.box.free 2; clear hn hb)
        clear q0 q1 q2 q3 q4 fq0 fq1 fq2 fq3 fq4 r0 r1 r2 r3 r4 fr0 fr1 fr2 fr3 fr4
        clear qd fd2
        have hs2 := HC2.out.put2 HN2.out
        obtain ⟨V2, hV2⟩ : ∃ V, V = w2.setCell ⟨b, 2, none⟩ (.slice A6 n d2) := ⟨_, rfl⟩
        rw [← hV2] at hs2 ⊢
        have HS2 := Lib.hid hs2
        clear hs2 hV2 HC2 HN2
        obtain ⟨q0, q1, q2, q3, q4⟩ := HS2.out.q
        have fq0 := HS2.out.box.free 0
        have fq1 := HS2.out.box.free 1
        have fq2 := HS2.out.box.free 2
        have fq3 := HS2.out.box.free 3
        have fq4 := HS2.out.box.free 4
        obtain ⟨r0, r1, r2, r3, r4⟩ := HS2.out.r
        have fr0 := HS2.out.res.free 0
        have fr1 := HS2.out.res.free 1
        have fr2 := HS2.out.res.free 2
        have fr3 := HS2.out.res.free 3
        have fr4 := HS2.out.res.free 4
        go_wp2
        have HRU := Lib.hid (HS2.out.done (v := ustep v q) (by rw [HK.out]; rfl) (by rw [HV.out, HM.out]; rfl) (fun i hi => rfl) (fun i hi => by rw [HV.out]; rfl) (fun p hp => by
              rw [HV.out]
              by_cases e : p = q
              · subst e; rw [upas, putA_same, rput_same]; rfl
              · rw [upas, putA_off _ e, putC_off _ e, putS_off _ e, rput_other e]) (fun p hp ha => by
              rw [HV.out] at ha ⊢
              by_cases e : p = q
              · subst e
                rw [rput_same, upas, putA_e, putC_e, putS_e, putA_c, putC_same, HC.out]
                exact ⟨(HR.out.f p hp HA0.out).1, by omega⟩
              · rw [upas, putA_off _ e, putC_off _ e, putS_off _ e] at ha ⊢
                rw [rput_other e]
                exact HR.out.f p hp ha))
        refine bodyPost_ret (v := .tuple _) (results_cell4 rfl _ _ (b + 1) 31 _ (0, 0) _ rfl HS2.out.told.1 Tryd.underlying31 rfl (by kernel_rfl)) rfl ⟨_, _, _, _, _, _, _, rfl, HS2.out.told.2.2 _ HRU.out, HS2.out.told.2.1⟩
  · have HI1 := Lib.hid (inR_one p 0 ((n : Int) - 1) false (decide_eq_false (by omega)))
    have he : stpE n v p = 1 := by unfold stpE; rw [if_pos hp]
    have hd : stpD n v p = false := decide_eq_false fun h => hp h.1
    have hg : stpG n v p = 0 := by rw [stpG, hd]; rfl
    rw [hg, hd, stpS, he, if_neg (by omega)]
    clear hp he hd hg
    go_enter Tryd.func9, Tryd.ntmps9
    go_upto_region 1 with fail
    rw [← HW0.out, HBW.out]
    obtain ⟨q0, q1, q2, q3, q4⟩ := HS0.out.q
    have fq0 := HS0.out.box.free 0
    have fq1 := HS0.out.box.free 1
    have fq2 := HS0.out.box.free 2
    have fq3 := HS0.out.box.free 3
    have fq4 := HS0.out.box.free 4
    obtain ⟨r0, r1, r2, r3, r4⟩ := HS0.out.r
    have fr0 := HS0.out.res.free 0
    have fr1 := HS0.out.res.free 1
    have fr2 := HS0.out.res.free 2
    have fr3 := HS0.out.res.free 3
    have fr4 := HS0.out.res.free 4
    go_wp2_with (go_at_call 15; (with_reducible refine (HI1.out _).mono ?_); rintro e w' ⟨rfl, rfl⟩)
    refine bodyPost_ret (v := .tuple _) (results_cell4 rfl _ _ (b + 1) 31 _ (0, 0) _ rfl HS0.out.told.1 Tryd.underlying31 rfl (by kernel_rfl)) rfl ⟨_, _, _, _, _, _, _, rfl, HS0.out.told.2.2 _ (HS0.out.same HK.out.symm HM.out.symm HR.out.f), HS0.out.told.2.1⟩
end Go.Proofs.YtegplglokaoemaaDoor.Univ
