/-
  The reference of package univ: what BeginUniv answers.
-/
import Derived.Test.YtegplglokaoemaaDoorUnivRef2
import Derived.StillTailTactics
namespace Go.Proofs.YtegplglokaoemaaDoor.Univ
open Go.RowKit

theorem RS.same {F : Nat → Prop} {w W : World} {b n : Nat} {v : US} {va vc vt vd vl : Value} {fd fc : Nat → Int} {k m : Nat} (h : RS F w W b k m n va vc vt vd vl (fun i => ((v.add i : Nat) : Int)) (fun i => ((v.cell i : Nat) : Int)) (fun p => (((v.h p).a : Nat) : Int)) fd fc) (hk : v.k = k) (hm : v.m = m)
    (hf : ∀ p, p < n → (v.h p).a ≠ 0 → fd p = (((v.h p).e : Nat) : Int) ∧ fc p = (((v.h p).c : Nat) : Int)) : RU (FB F b) W n v va vc vt vd vl fd fc :=
  h.done hk hm (fun _ _ => rfl) (fun _ _ => rfl) (fun _ _ => rfl) hf
theorem inR_one (z lo hi : Int) (b : Bool) (h : decide (lo ≤ z ∧ z ≤ hi) = b) (w : World) : Calls Tryd.prog 15 #[.int .i64 z, .int .i64 lo, .int .i64 hi] w fun e w' => e = .returned (.bool b) ∧ w = w' := by
  rw [← h]; exact inR_any z lo hi w
set_option maxHeartbeats 4000000 in
theorem refbegin_any {F : Nat → Prop} {n : Nat} {v : US} {va vc vt vd vl : Value} {fd fc : Nat → Int} (w : World) (h : RU F w n v va vc vt vd vl fd fc) (hF : ∀ b, F b → b < w.heap.size) (hl : Loc n v) (h1 : 1 ≤ n) (h4 : n ≤ 4) (p x : Int) :
    Calls Tryd.prog 7 #[.agg #[va, vc, vt, vd, vl], .int .i64 p, .int .i64 x] w fun e w' => ∃ ua uc ut ud ul gd gc, e = .returned (.tuple #[.agg #[ua, uc, ut, ud, ul], .int .i64 (begE n v p x)]) ∧ RU F w' n (begS n v p x) ua uc ut ud ul gd gc ∧ Below w.heap.size w w' := by
  obtain ⟨A0, c0, A1, c1, A2, c2, A3, c3, A4, c4, rfl, rfl, rfl, rfl, rfl⟩ := h.forms
  have HR := Lib.hid h
  have hst := RS.start h hF
  have hk40 := hl.k
  have hm40 := hl.m
  obtain ⟨K, hK⟩ : ∃ K, K = v.k := ⟨_, rfl⟩
  obtain ⟨m, hm⟩ : ∃ m, m = v.m := ⟨_, rfl⟩
  obtain ⟨b, hb⟩ : ∃ b, b = w.heap.size := ⟨_, rfl⟩
  rw [← hK, ← hm] at hst ⊢
  rw [← hK] at hk40
  rw [← hm] at hm40
  obtain ⟨W0, hW0⟩ : ∃ W0, W0 = (w.alloc (.cells #[.slice A0 K c0, .slice A1 m c1, .slice A2 n c2, .slice A3 n c3, .slice A4 n c4] 31)).alloc (.cells #[.slice none 0 0, .slice none 0 0, .slice none 0 0, .slice none 0 0, .slice none 0 0] 31) := ⟨_, rfl⟩
  rw [← hW0, ← hb] at hst
  have HS0 := Lib.hid hst
  have HK := Lib.hid hK
  have HM := Lib.hid hm
  have hwn : IntKind.i64.wrap ((n : Int) - 1) = (n : Int) - 1 := IntWalk.i64_in _ (by omega)
  have HW0 := Lib.hid hW0
  have HBW := Lib.hid hb.symm
  clear hst h hF hK hm hb hW0
  by_cases hp : 0 ≤ p ∧ p < n
  · have HI1 := Lib.hid (inR_one p 0 ((n : Int) - 1) true (decide_eq_true (by omega)))
    by_cases hx : x < 0 ∨ 1000 < x
    · have HI2 := Lib.hid (inR_one x 0 1000 false (decide_eq_false (by omega)))
      have he : begE n v p x = 1 := by unfold begE; rw [if_pos (by omega)]
      rw [begS, he, if_neg (by omega)]
      clear hp hx he
      go_enter Tryd.func7, Tryd.ntmps7
      go_upto_region 1 with fail
      rw [← HW0.out, HBW.out]
      obtain ⟨q0, q1, q2, q3, q4⟩ := HS0.out.q
      have fq0 := HS0.out.box.free 0
      have fq1 := HS0.out.box.free 1
      have fq2 := HS0.out.box.free 2
      have fq3 := HS0.out.box.free 3
      have fq4 := HS0.out.box.free 4
      obtain ⟨r0, r1, r2, r3, r4⟩ := HS0.out.r
      have fr0 := HS0.out.res.free 0
      have fr1 := HS0.out.res.free 1
      have fr2 := HS0.out.res.free 2
      have fr3 := HS0.out.res.free 3
      have fr4 := HS0.out.res.free 4
      go_wp2_with (first | (go_at_call 15; (with_reducible refine (HI1.out _).mono ?_); rintro e w' ⟨rfl, rfl⟩) | (go_at_call 15; (with_reducible refine (HI2.out _).mono ?_); rintro e w' ⟨rfl, rfl⟩))
      refine bodyPost_ret (v := .tuple _) (results_cell2 rfl _ _ (b + 1) 31 _ (0, 0) _ rfl HS0.out.told.1 Tryd.underlying31 rfl (by kernel_rfl)) rfl ⟨_, _, _, _, _, _, _, rfl, HS0.out.told.2.2 _ (HS0.out.same HK.out.symm HM.out.symm HR.out.f), HS0.out.told.2.1⟩
    · have HI2 := Lib.hid (inR_one x 0 1000 true (decide_eq_true (by omega)))
      obtain ⟨q, rfl⟩ := Int.eq_ofNat_of_zero_le hp.1
      obtain ⟨y, rfl⟩ := Int.eq_ofNat_of_zero_le (show 0 ≤ x by omega)
      have hq : q < n := by omega
      have hqI : (q : Int) < n := by omega
      have he : begE n v q y = if (v.h q).a ≠ 0 then 7 else if v.k = 40 then 4 else 0 := by unfold begE; rw [if_neg (by omega)]; rfl
      obtain ⟨bt, ot, rfl, _, _, hct⟩ := HS0.out.t.at_ hq
      by_cases ha : (v.h q).a = 0
      · rw [if_neg (by omega)] at he
        rw [ha] at hct
        by_cases h40 : v.k = 40
        · rw [if_pos h40] at he
          have hK40 : K = 40 := by rw [HK.out]; exact h40
          have hKI : (40 : Int) ≤ K := by omega
          rw [begS, he, if_neg (by omega)]
          clear hp hx he h40 ha hK40
          go_enter Tryd.func7, Tryd.ntmps7
          go_upto_region 1 with fail
          rw [← HW0.out, HBW.out]
          obtain ⟨q0, q1, q2, q3, q4⟩ := HS0.out.q
          have fq0 := HS0.out.box.free 0
          have fq1 := HS0.out.box.free 1
          have fq2 := HS0.out.box.free 2
          have fq3 := HS0.out.box.free 3
          have fq4 := HS0.out.box.free 4
          obtain ⟨r0, r1, r2, r3, r4⟩ := HS0.out.r
          have fr0 := HS0.out.res.free 0
          have fr1 := HS0.out.res.free 1
          have fr2 := HS0.out.res.free 2
          have fr3 := HS0.out.res.free 3
          have fr4 := HS0.out.res.free 4
          go_wp2_with (first | (go_at_call 15; (with_reducible refine (HI1.out _).mono ?_); rintro e w' ⟨rfl, rfl⟩) | (go_at_call 15; (with_reducible refine (HI2.out _).mono ?_); rintro e w' ⟨rfl, rfl⟩))
          refine bodyPost_ret (v := .tuple _) (results_cell2 rfl _ _ (b + 1) 31 _ (0, 0) _ rfl HS0.out.told.1 Tryd.underlying31 rfl (by kernel_rfl)) rfl ⟨_, _, _, _, _, _, _, rfl, HS0.out.told.2.2 _ (HS0.out.same HK.out.symm HM.out.symm HR.out.f), HS0.out.told.2.1⟩
        · rw [if_neg h40] at he
          have hK40 : K ≠ 40 := by rw [HK.out]; exact h40
          have hKI : ¬ (40 : Int) ≤ K := by omega
          rw [begS, he, if_pos rfl]
          have hwK : K < 40 := by omega
          clear hp hx he h40
          go_enter Tryd.func7, Tryd.ntmps7
          go_upto_region 1 with fail
          rw [← HW0.out, HBW.out]
          obtain ⟨q0, q1, q2, q3, q4⟩ := HS0.out.q
          have fq0 := HS0.out.box.free 0
          have fq1 := HS0.out.box.free 1
          have fq2 := HS0.out.box.free 2
          have fq3 := HS0.out.box.free 3
          have fq4 := HS0.out.box.free 4
          obtain ⟨r0, r1, r2, r3, r4⟩ := HS0.out.r
          have fr0 := HS0.out.res.free 0
          have fr1 := HS0.out.res.free 1
          have fr2 := HS0.out.res.free 2
          have fr3 := HS0.out.res.free 3
          have fr4 := HS0.out.res.free 4
          go_upto_region 8 with (first | (go_at_call 15; (with_reducible refine (HI1.out _).mono ?_); rintro e w' ⟨rfl, rfl⟩) | (go_at_call 15; (with_reducible refine (HI2.out _).mono ?_); rintro e w' ⟨rfl, rfl⟩) | (go_at_call 16; (with_reducible refine (set_row (K : Int) _ HS0.out.hF HS0.out.d hq (by omega)).mono ?_); rintro e w1 ⟨A5, d1, rfl, hn, hb⟩; have HN1 := Lib.hid hn; have HC1 := Lib.hid (HS0.out.call hb); have qd := HC1.out.q.2.2.2.1; have fd1 := HC1.out.box.free 3; clear hn hb))
          clear hct
          clear q0 q1 q2 q3 q4 fq0 fq1 fq2 fq3 fq4 r0 r1 r2 r3 r4 fr0 fr1 fr2 fr3 fr4
          clear qd fd1
          have hs1 := HC1.out.put3 HN1.out
          obtain ⟨V1, hV1⟩ : ∃ V, V = w1.setCell ⟨b, 3, none⟩ (.slice A5 n d1) := ⟨_, rfl⟩
          rw [← hV1] at hs1 ⊢
          have HS1 := Lib.hid hs1
          clear hs1 hV1 HC1 HN1
          obtain ⟨q0, q1, q2, q3, q4⟩ := HS1.out.q
          have fq0 := HS1.out.box.free 0
          have fq1 := HS1.out.box.free 1
          have fq2 := HS1.out.box.free 2
          have fq3 := HS1.out.box.free 3
          have fq4 := HS1.out.box.free 4
          obtain ⟨r0, r1, r2, r3, r4⟩ := HS1.out.r
          have fr0 := HS1.out.res.free 0
          have fr1 := HS1.out.res.free 1
          have fr2 := HS1.out.res.free 2
          have fr3 := HS1.out.res.free 3
          have fr4 := HS1.out.res.free 4
          go_upto_region 9 with (go_at_call 17; (with_reducible refine (more_row (y : Int) _ HS1.out.hF HS1.out.a (by omega)).mono ?_); rintro e w2 ⟨A6, d2, rfl, hn, hb⟩; have HN2 := Lib.hid hn; have HC2 := Lib.hid (HS1.out.call hb); have qd := HC2.out.q.1; have fd2 := HC2.out.box.free 0; clear hn hb)
          clear q0 q1 q2 q3 q4 fq0 fq1 fq2 fq3 fq4 r0 r1 r2 r3 r4 fr0 fr1 fr2 fr3 fr4
          clear qd fd2
          have hs2 := HC2.out.put0 HN2.out
          obtain ⟨V2, hV2⟩ : ∃ V, V = w2.setCell ⟨b, 0, none⟩ (.slice A6 (K + 1) d2) := ⟨_, rfl⟩
          rw [← hV2] at hs2 ⊢
          have HS2 := Lib.hid hs2
          clear hs2 hV2 HC2 HN2
          obtain ⟨q0, q1, q2, q3, q4⟩ := HS2.out.q
          have fq0 := HS2.out.box.free 0
          have fq1 := HS2.out.box.free 1
          have fq2 := HS2.out.box.free 2
          have fq3 := HS2.out.box.free 3
          have fq4 := HS2.out.box.free 4
          obtain ⟨r0, r1, r2, r3, r4⟩ := HS2.out.r
          have fr0 := HS2.out.res.free 0
          have fr1 := HS2.out.res.free 1
          have fr2 := HS2.out.res.free 2
          have fr3 := HS2.out.res.free 3
          have fr4 := HS2.out.res.free 4
          go_upto_region 10 with (go_at_call 16; (with_reducible refine (set_row 1 _ HS2.out.hF HS2.out.t hq (by omega)).mono ?_); rintro e w3 ⟨A7, d3, rfl, hn, hb⟩; have HN3 := Lib.hid hn; have HC3 := Lib.hid (HS2.out.call hb); have qd := HC3.out.q.2.2.1; have fd3 := HC3.out.box.free 2; clear hn hb)
          clear q0 q1 q2 q3 q4 fq0 fq1 fq2 fq3 fq4 r0 r1 r2 r3 r4 fr0 fr1 fr2 fr3 fr4
          clear qd fd3
          have hs3 := HC3.out.put2 HN3.out
          obtain ⟨V3, hV3⟩ : ∃ V, V = w3.setCell ⟨b, 2, none⟩ (.slice A7 n d3) := ⟨_, rfl⟩
          rw [← hV3] at hs3 ⊢
          have HS3 := Lib.hid hs3
          clear hs3 hV3 HC3 HN3
          obtain ⟨q0, q1, q2, q3, q4⟩ := HS3.out.q
          have fq0 := HS3.out.box.free 0
          have fq1 := HS3.out.box.free 1
          have fq2 := HS3.out.box.free 2
          have fq3 := HS3.out.box.free 3
          have fq4 := HS3.out.box.free 4
          obtain ⟨r0, r1, r2, r3, r4⟩ := HS3.out.r
          have fr0 := HS3.out.res.free 0
          have fr1 := HS3.out.res.free 1
          have fr2 := HS3.out.res.free 2
          have fr3 := HS3.out.res.free 3
          have fr4 := HS3.out.res.free 4
          go_upto_region 11 with (go_at_call 16; (with_reducible refine (set_row 0 _ HS3.out.hF HS3.out.l hq (by omega)).mono ?_); rintro e w4 ⟨A8, d4, rfl, hn, hb⟩; have HN4 := Lib.hid hn; have HC4 := Lib.hid (HS3.out.call hb); have qd := HC4.out.q.2.2.2.2; have fd4 := HC4.out.box.free 4; clear hn hb)
          clear q0 q1 q2 q3 q4 fq0 fq1 fq2 fq3 fq4 r0 r1 r2 r3 r4 fr0 fr1 fr2 fr3 fr4
          clear qd fd4
          have hs4 := HC4.out.put4 HN4.out
          obtain ⟨V4, hV4⟩ : ∃ V, V = w4.setCell ⟨b, 4, none⟩ (.slice A8 n d4) := ⟨_, rfl⟩
          rw [← hV4] at hs4 ⊢
          have HS4 := Lib.hid hs4
          clear hs4 hV4 HC4 HN4
          obtain ⟨q0, q1, q2, q3, q4⟩ := HS4.out.q
          have fq0 := HS4.out.box.free 0
          have fq1 := HS4.out.box.free 1
          have fq2 := HS4.out.box.free 2
          have fq3 := HS4.out.box.free 3
          have fq4 := HS4.out.box.free 4
          obtain ⟨r0, r1, r2, r3, r4⟩ := HS4.out.r
          have fr0 := HS4.out.res.free 0
          have fr1 := HS4.out.res.free 1
          have fr2 := HS4.out.res.free 2
          have fr3 := HS4.out.res.free 3
          have fr4 := HS4.out.res.free 4
          go_wp2
          have HRU := Lib.hid (HS4.out.done (v := ubeg v q y) (by rw [HK.out]; rfl) (by rw [HM.out]; rfl) (fun i hi => by
              show ((uput v.add v.k y i : Nat) : Int) = _
              rw [← HK.out]
              by_cases e : i = K
              · rw [e, uput_same, rput_same]
              · rw [uput_other e, rput_other e]) (fun i hi => rfl) (fun p hp => by
              show (((uput v.h q ⟨1, 0, 0, v.k⟩ p).a : Nat) : Int) = _
              by_cases e : p = q
              · rw [e, uput_same, rput_same]; rfl
              · rw [uput_other e, rput_other e]) (fun p hp ha => by
              have hh : (ubeg v q y).h p = uput v.h q ⟨1, 0, 0, v.k⟩ p := rfl
              rw [hh] at ha ⊢
              by_cases e : p = q
              · rw [e, uput_same, rput_same, rput_same, HK.out]; exact ⟨rfl, rfl⟩
              · rw [uput_other e] at ha ⊢
                rw [rput_other e, rput_other e]
                exact HR.out.f p hp ha))
          refine bodyPost_ret (v := .tuple _) (results_cell2 rfl _ _ (b + 1) 31 _ (0, 0) _ rfl HS4.out.told.1 Tryd.underlying31 rfl (by kernel_rfl)) rfl ⟨_, _, _, _, _, _, _, rfl, HS4.out.told.2.2 _ HRU.out, HS4.out.told.2.1⟩
      · rw [if_pos ha] at he
        rw [begS, he, if_neg (by omega)]
        have hI : (((v.h q).a : Int) != 0) = true := by simp; omega
        clear hp hx he ha
        go_enter Tryd.func7, Tryd.ntmps7
        go_upto_region 1 with fail
        rw [← HW0.out, HBW.out]
        obtain ⟨q0, q1, q2, q3, q4⟩ := HS0.out.q
        have fq0 := HS0.out.box.free 0
        have fq1 := HS0.out.box.free 1
        have fq2 := HS0.out.box.free 2
        have fq3 := HS0.out.box.free 3
        have fq4 := HS0.out.box.free 4
        obtain ⟨r0, r1, r2, r3, r4⟩ := HS0.out.r
        have fr0 := HS0.out.res.free 0
        have fr1 := HS0.out.res.free 1
        have fr2 := HS0.out.res.free 2
        have fr3 := HS0.out.res.free 3
        have fr4 := HS0.out.res.free 4
        go_wp2_with (first | (go_at_call 15; (with_reducible refine (HI1.out _).mono ?_); rintro e w' ⟨rfl, rfl⟩) | (go_at_call 15; (with_reducible refine (HI2.out _).mono ?_); rintro e w' ⟨rfl, rfl⟩))
        refine bodyPost_ret (v := .tuple _) (results_cell2 rfl _ _ (b + 1) 31 _ (0, 0) _ rfl HS0.out.told.1 Tryd.underlying31 rfl (by kernel_rfl)) rfl ⟨_, _, _, _, _, _, _, rfl, HS0.out.told.2.2 _ (HS0.out.same HK.out.symm HM.out.symm HR.out.f), HS0.out.told.2.1⟩
  · have HI1 := Lib.hid (inR_one p 0 ((n : Int) - 1) false (decide_eq_false (by omega)))
    have he : begE n v p x = 1 := by unfold begE; rw [if_pos (by omega)]
    rw [begS, he, if_neg (by omega)]
    clear hp he
    go_enter Tryd.func7, Tryd.ntmps7
    go_upto_region 1 with fail
    rw [← HW0.out, HBW.out]
    obtain ⟨q0, q1, q2, q3, q4⟩ := HS0.out.q
    have fq0 := HS0.out.box.free 0
    have fq1 := HS0.out.box.free 1
    have fq2 := HS0.out.box.free 2
    have fq3 := HS0.out.box.free 3
    have fq4 := HS0.out.box.free 4
    obtain ⟨r0, r1, r2, r3, r4⟩ := HS0.out.r
    have fr0 := HS0.out.res.free 0
    have fr1 := HS0.out.res.free 1
    have fr2 := HS0.out.res.free 2
    have fr3 := HS0.out.res.free 3
    have fr4 := HS0.out.res.free 4
    go_wp2_with (go_at_call 15; (with_reducible refine (HI1.out _).mono ?_); rintro e w' ⟨rfl, rfl⟩)
    refine bodyPost_ret (v := .tuple _) (results_cell2 rfl _ _ (b + 1) 31 _ (0, 0) _ rfl HS0.out.told.1 Tryd.underlying31 rfl (by kernel_rfl)) rfl ⟨_, _, _, _, _, _, _, rfl, HS0.out.told.2.2 _ (HS0.out.same HK.out.symm HM.out.symm HR.out.f), HS0.out.told.2.1⟩
end Go.Proofs.YtegplglokaoemaaDoor.Univ
