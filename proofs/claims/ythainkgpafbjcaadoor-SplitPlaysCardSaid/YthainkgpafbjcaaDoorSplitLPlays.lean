/-
  The walk of latchgarthlaw2.SplitPlays: it answers true, whatever the number of hands and the script.
-/
import Derived.Test.YthainkgpafbjcaaDoorSplitNewM
import Derived.Test.YthainkgpafbjcaaDoorAs2
import Derived.Deep.DrawnRows
namespace Go.Proofs.YthainkgpafbjcaaDoor.Split
open Go.RowKit
attribute [local go_sem ↓] Go.wp_at_zero Go.wp_at_succ

theorem inL_true (n lo hi : Int) (h0 : lo ≤ n) (h1 : n ≤ hi) (w : World) : Calls Tryd.prog 8 #[.int .i64 n, .int .i64 lo, .int .i64 hi] w fun e w' => e = .returned (.bool true) ∧ w = w' := by
  go_enter Tryd.func8, Tryd.ntmps8
  go_wp2
  go_ret
  exact ⟨rfl, rfl⟩
theorem inL_false (n lo hi : Int) (h : ¬ (lo ≤ n ∧ n ≤ hi)) (w : World) : Calls Tryd.prog 8 #[.int .i64 n, .int .i64 lo, .int .i64 hi] w fun e w' => e = .returned (.bool false) ∧ w = w' := by
  by_cases h0 : lo ≤ n
  · have h1 : ¬ n ≤ hi := fun k => h ⟨h0, k⟩
    clear h
    go_enter Tryd.func8, Tryd.ntmps8
    go_wp2
    go_ret
    exact ⟨rfl, rfl⟩
  · clear h
    go_enter Tryd.func8, Tryd.ntmps8
    go_wp2
    go_ret
    exact ⟨rfl, rfl⟩

/-- The lock and the machine, both beside what was there. -/
structure PlAt (w wr : World) (g m n : Nat) (s s' : LSt) (A : Nat) (x1 x2 x3 : Value) : Prop where
  lk : LkAt w wr g n s A
  mlow : w.heap.size ≤ m
  mat : MIn wr (fun b => b = g) m n x1 x2 x3 (lkWords n s') (lkLines n s') (lkOwns n s')
section
variable {w wr w' : World} {g m n A : Nat} {s s' s2 : LSt} {x1 x2 x3 : Value}
theorem PlAt.put {w3 : World} {y1 y2 y3 : Value} (h : PlAt w wr g m n s s' A x1 x2 x3) (hb : Below wr.heap.size wr w3) (hmc : Mc w3 (New (fun b => b ≠ m ∧ ¬ b = g ∧ b < wr.heap.size) wr w3) n (.agg #[.int .i64 n, y1, y2, y3]) (lkWords n s2) (lkLines n s2) (lkOwns n s2)) :
    PlAt w ((((w3.setCell ⟨m, 0, none⟩ (.int .i64 n)).setCell ⟨m, 1, none⟩ y1).setCell ⟨m, 2, none⟩ y2).setCell ⟨m, 3, none⟩ y3) g m n s s2 A y1 y2 y3 := by
  have hne : m ≠ g := h.mat.far
  exact ⟨((((h.lk.on hb (Nat.le_refl _)).other h.mlow hne).other h.mlow hne).other h.mlow hne).other h.mlow hne, h.mlow, h.mat.put hb hmc⟩
theorem PlAt.on (h : PlAt w wr g m n s s' A x1 x2 x3) (hb : Below wr.heap.size wr w') : PlAt w w' g m n s s' A x1 x2 x3 := ⟨h.lk.on hb (Nat.le_refl _), h.mlow, h.mat.below hb⟩
theorem stepPl (h : PlAt w wr g m n s s' A x1 x2 x3) (hA : A ≤ 100000) (p : Int) :
    Calls Tryd.prog 10 #[.pointer (some ⟨g, 0, none⟩), .int .i64 p] wr fun e w' => e = .returned (errV 40 (perr n p)) ∧ PlAt w w' g m n (lkStep n s p) s' (A + 1) x1 x2 x3 :=
  (stepT h.lk hA p).mono fun _ _ ⟨he, hk, ht⟩ => ⟨he, ⟨hk, h.mlow, h.mat.touch ht⟩⟩
theorem PlAt.lines {A2 : Option Addr} {c2 : Nat} (h : PlAt w wr g m n s s' A x1 (.slice A2 n c2) x3) : ∃ b o, A2 = some ⟨b, o, none⟩ ∧ ∀ j : Nat, j < n → wr.cell? ⟨b, o + j, none⟩ = some (.int .i64 (lkAt n s' j)) := by
  obtain ⟨A, c, e, _, hc⟩ := h.mat.lists.2
  injection e with e _ _
  obtain ⟨b, o, e2, _, hcell⟩ := hc (by have := h.lk.pos; simp [lkLines]; omega)
  exact ⟨b, o, e.trans e2, fun j hj => hcell j _ (by rw [lkLines, range_get _ hj, lkAt_in hj])⟩
theorem PlAt.owns {A3 : Option Addr} {c3 : Nat} (h : PlAt w wr g m n s s' A x1 x2 (.slice A3 n c3)) : ∃ b o, A3 = some ⟨b, o, none⟩ ∧ ∀ j : Nat, j < n → ∃ bp op cp, wr.cell? ⟨b, o + j, none⟩ = some (.slice (some ⟨bp, op, none⟩) 2 cp) ∧ wr.cell? ⟨bp, op, none⟩ = some (.int .i64 (s'.v.s j).r) ∧ wr.cell? ⟨bp, op + 1, none⟩ = some (.int .i64 (s'.v.s j).c) := by
  obtain ⟨wv, av, ov, e, _, _, h3⟩ := h.mat.mc
  injection e with e
  simp at e
  obtain ⟨rfl, rfl, rfl⟩ := e
  obtain ⟨A, c, e, _, hc⟩ := h3
  injection e with e _ _
  obtain ⟨b, o, e2, _, hcell⟩ := hc (by have := h.lk.pos; simp [lkOwns]; omega)
  refine ⟨b, o, e.trans e2, fun j hj => ?_⟩
  obtain ⟨u, hu, A4, c4, rfl, _, k4⟩ := hcell j [(((s'.v.s j).r : Nat) : Int), (((s'.v.s j).c : Nat) : Int)] (by rw [lkOwns, range_get _ hj])
  obtain ⟨bp, op, rfl, _, hcp⟩ := k4 (by simp)
  exact ⟨bp, op, c4, hu, hcp 0 _ rfl, hcp 1 _ rfl⟩
theorem namePl (h : PlAt w wr g m n s s' A x1 x2 x3) (p : Int) :
    Calls Tryd.prog 13 #[.pointer (some ⟨g, 0, none⟩), .int .i64 p] wr fun e w' => e = .returned (.int .i64 (lkName n s p)) ∧ PlAt w w' g m n s s' A x1 x2 x3 ∧ Below wr.heap.size wr w' :=
  (nameL h.lk p).mono fun _ _ ⟨he, _, hb⟩ => ⟨he, h.on hb, hb⟩
end
theorem held2 {V W : World} (hb : Below V.heap.size V W) {a b : Addr} {u1 u2 : Value} (h : V.cell? a = some u1 ∧ V.cell? b = some u2) : W.cell? a = some u1 ∧ W.cell? b = some u2 :=
  ⟨(hb.cell (lt_of_cell h.1)).trans h.1, (hb.cell (lt_of_cell h.2)).trans h.2⟩
theorem name_five {n : Nat} {s : LSt} {j : Nat} (hj : j < n) (h : lkAt n s j = 5) : lkName n s j = (pn (s.v.s j).r (s.v.s j).c : Nat) := by
  rw [lkAt_in hj] at h
  rw [lkName_in hj]; unfold spnam pn; rw [if_pos h]; omega
theorem name_not {n : Nat} {s : LSt} {j : Nat} (hj : j < n) (h : lkAt n s j ≠ 5) : lkName n s j = -1 := by
  rw [lkAt_in hj] at h
  rw [lkName_in hj]; unfold spnam; rw [if_neg h]; omega
theorem mc_formN {w : World} {P : Nat → Prop} {v : Value} {n : Nat} {s : LSt} (h : Mc w P n v (lkWords n s) (lkLines n s) (lkOwns n s)) : ∃ A1 k1 c1 A2 c2 A3 c3, v = .agg #[.int .i64 n, .slice A1 k1 c1, .slice A2 n c2, .slice A3 n c3] := by
  obtain ⟨wv, av, ov, rfl, ⟨A1, c1, rfl, _⟩, ⟨A2, c2, rfl, _⟩, ⟨A3, c3, rfl, _⟩⟩ := h
  exact ⟨A1, (lkWords n s).length, c1, A2, c2, A3, c3, by simp [lkLines, lkOwns]⟩
theorem perr_hand {n : Nat} {p : Int} (h0 : 0 ≤ p) (h1 : p ≤ (n : Int) - 1) : perr n p = 0 := if_pos (by omega)
theorem perr_none {n : Nat} {p : Int} (h : ¬ (0 ≤ p ∧ p ≤ (n : Int) - 1)) : perr n p = 1 ∧ ∀ s, lkStep n s p = s := ⟨if_neg (by omega), fun s => lkStep_out (by omega)⟩
theorem refPl {n A : Nat} {s : LSt} (hok : lkOk n s) (hn : n ≤ 4) (hf : lkFit n s A) (hA : A ≤ 100000) (p : Int) (h0 : 0 ≤ p) (h1 : p ≤ (n : Int) - 1) (v : Value) (w : World) {P : Nat → Prop} (hP : ∀ b, P b → b < w.heap.size) (h : Mc w P n v (lkWords n s) (lkLines n s) (lkOwns n s)) :
    Calls Tryd.prog 9 #[v, .int .i64 p] w fun e w' => ∃ v', e = .returned v' ∧ Mc w' (New P w w') n v' (lkWords n (lkStep n s p)) (lkLines n (lkStep n s p)) (lkOwns n (lkStep n s p)) ∧ Below w.heap.size w w' := by
  obtain ⟨q, rfl⟩ := Int.eq_ofNat_of_zero_le h0
  rw [lkStep_in (show q < n by omega)]
  exact lkRef_any hok hn hf hA (by omega) v w hP h

set_option maxRecDepth 100000 in
set_option maxHeartbeats 8000000 in
theorem plays_any (z : Int) (sv : Value) (script : List Int) (w : World) (hn : Nums w w.heap.size sv script) (hg : ErrVar w) :
    Calls Tryd.prog 3 #[.int .i64 z, sv] w fun e w' => e = .returned (.bool true) ∧ Below w.heap.size w w' := by
  obtain ⟨A, c, rfl, hlen, hn⟩ := hn
  have HN := Lib.hid hn
  have HG := Lib.hid hg
  clear hn hg
  by_cases hz : 1 ≤ z ∧ z ≤ 4
  · obtain ⟨n, rfl⟩ := Int.eq_ofNat_of_zero_le (show 0 ≤ z by omega)
    have h1 : 1 ≤ n := by omega
    have h4 : n ≤ 4 := by omega
    have h1I : ¬ (n : Int) < 1 := by omega
    have h4I : ¬ 4 < (n : Int) := by omega
    have hw1 : IntKind.i64.wrap ((n : Int) - 1) = (n : Int) - 1 := IntWalk.i64_in _ (by omega)
    obtain ⟨n1, hn1⟩ : ∃ n1, n1 = n + 1 := ⟨_, rfl⟩
    obtain ⟨n2, hn2⟩ : ∃ n2, n2 = n * (n + 1) := ⟨_, rfl⟩
    have hn20 : n2 ≤ 4 * 5 := by rw [hn2]; exact Nat.mul_le_mul (by omega) (by omega)
    have hw2 : IntKind.i64.wrap ((n : Int) + 1) = (n1 : Int) := (IntWalk.i64_in _ (by omega)).trans (by omega)
    have hw3 : IntKind.i64.wrap ((n : Int) * (n1 : Int)) = (n2 : Int) := by
      rw [← Int.natCast_mul, hn1, ← hn2]; exact IntWalk.i64_in _ (by omega)
    have HN2 := Lib.hid hn2
    clear hn2 hn1
    clear hz
    go_enter Tryd.func3, Tryd.ntmps3
    go_upto_region 7 with (first | (go_at_call 4; refine (newL (Below.refl _ _) h1 h4).mono ?_; rintro e w1 ⟨g, rfl, hl⟩; have HL := Lib.hid hl; clear hl) | (go_at_call 7; refine (zeros_any n2 (by omega) w1).mono ?_; rintro e w2 ⟨v2, rfl, hm2, hb2⟩; have HM2 := Lib.hid hm2; have HB2 := Lib.hid hb2; clear hm2 hb2) | (go_at_call 6; refine (newMach_any n h4 v2 w1 w2 (by have h := HM2.out; rw [HN2.out] at h; exact h) HB2.out).mono ?_; rintro e w3 ⟨v3, rfl, hm3, hb3⟩; have HM3 := Lib.hid hm3; have HB3 := Lib.hid hb3; obtain ⟨A1, k1, c1, A2, c2, A3, c3, rfl⟩ := mc_formN hm3; clear hm3 hb3))
    obtain ⟨m, hmm⟩ : ∃ m, m = w3.heap.size := ⟨_, rfl⟩
    obtain ⟨V, hV⟩ : ∃ V, V = w3.alloc (.cells #[.int .i64 n, .slice A1 k1 c1, .slice A2 n c2, .slice A3 n c3] 31) := ⟨_, rfl⟩
    have hPL : PlAt w V g m n (lkNew n) (lkNew n) 0 (.slice A1 k1 c1) (.slice A2 n c2) (.slice A3 n c3) := by
      have hg1 := HL.out.lk.lt
      have hs3 := HB3.out.size
      have hbV : Below w1.heap.size w1 V := by rw [hV]; exact HB3.out.alloc hs3 _
      have hVs : V.heap.size = w3.heap.size + 1 := by rw [hV]; simp
      refine ⟨HL.out.on hbV (Nat.le_refl _), by have := HL.out.below.size; omega, by rw [hV, hmm]; exact Block.made w3 _ _, by omega, fun b hb => by omega, ?_⟩
      refine HM3.out.keep (fun b hb => ?_) fun p hp => ?_
      · exact ⟨by omega, by omega, by omega⟩
      · rw [hV]
        exact World.cell?_alloc_lt w3 _ p (by omega)
    have HPL := Lib.hid hPL
    rw [← hV, ← hmm]
    clear hV hmm hPL HL HM3 HB3
    go_wp2
    go_loopw [8] (fun i wr => ∃ (k : Nat) (s : LSt) (B1 : Option Addr) (m1 d1 : Nat) (B2 : Option Addr) (d2 : Nat) (B3 : Option Addr) (d3 : Nat), k ≤ script.length ∧ i = .int .i64 k ∧ k ≤ 200 ∧ PlAt w wr g m n s s k (.slice B1 m1 d1) (.slice B2 n d2) (.slice B3 n d3)) (fun i _ => script.length - (intOf i).toNat)
    case atStart => exact ⟨0, _, _, _, _, _, _, _, _, by omega, rfl, by omega, HPL.out⟩
    case round =>
      clear HPL
      obtain ⟨k, s, B1, m1, d1, B2, d2, B3, d3, hk, rfl, hk4, hpl⟩ := hrel
      have HPL := Lib.hid hpl
      clear hpl
      by_cases hgo : k < script.length ∧ k < 200
      · have hI : (k : Int) < script.length := by omega
        have h4k : (k : Int) < 200 := by omega
        obtain ⟨hlt, _⟩ := hgo
        obtain ⟨b, o, rfl, hbb, hcc⟩ := HN.out (by omega)
        obtain ⟨p, hp⟩ : ∃ x, script[k]? = some x := ⟨script[k], List.getElem?_eq_getElem hlt⟩
        have hxc := (HPL.out.lk.below.cell (p := ⟨b, o + k, none⟩) hbb).trans (hcc k p hp)
        clear hcc hp
        obtain ⟨q0, q1, q2, q3, q4, q5, q6, q7⟩ := HPL.out.mat.cells
        by_cases hpr : 0 ≤ p ∧ p ≤ (n : Int) - 1
        · obtain ⟨hp0, hp1⟩ := hpr
          have HE := Lib.hid (perr_hand hp0 hp1)
          have HP0 := Lib.hid hp0
          have HP1 := Lib.hid hp1
          clear hp0 hp1
          go_upto_region 15 with (first | (go_at_call 8; (with_reducible refine (inL_true p 0 _ HP0.out HP1.out _).mono ?_); rintro e w' ⟨rfl, rfl⟩) | (go_at_call 9; (with_reducible refine (refPl HPL.out.lk.ok h4 HPL.out.lk.fit (by omega) p HP0.out HP1.out _ _ (fun _ hb => hb.2.2) HPL.out.mat.mc).mono ?_); rintro e w3 ⟨v3, rfl, hm3, hb3⟩; have HB3 := Lib.hid hb3; have HM3 := Lib.hid hm3; obtain ⟨C1, n1, e1, C2, e2, C3, e3, rfl⟩ := mc_formN hm3; obtain ⟨q0, q1, q2, q3, q4, q5, q6, q7⟩ := (HPL.out.on hb3).mat.cells; clear hm3 hb3))
          obtain ⟨U, hU⟩ : ∃ U, U = (((w3.setCell ⟨m, 0, none⟩ (.int .i64 n)).setCell ⟨m, 1, none⟩ (.slice C1 n1 e1)).setCell ⟨m, 2, none⟩ (.slice C2 n e2)).setCell ⟨m, 3, none⟩ (.slice C3 n e3) := ⟨_, rfl⟩
          have HQ := Lib.hid (show PlAt w U g m n s (lkStep n s p) k (.slice C1 n1 e1) (.slice C2 n e2) (.slice C3 n e3) by rw [hU]; exact HPL.out.put HB3.out HM3.out)
          rw [← hU]
          clear hU q0 q1 q2 q3 q4 q5 q6 q7 hxc
          go_wp2_with (first | (go_at_call 10; (with_reducible refine (stepPl HQ.out (by omega) p).mono ?_); rw [HE.out]; rintro e w5 ⟨rfl, h5⟩; have H5 := Lib.hid h5; clear h5) | (go_at_call 5; (with_reducible refine (errorIs_any 0 0 w5 (HG.out.below H5.out.lk.below HG.out.lt)).mono ?_); rw [decide_eq_true rfl]; rintro e w6 ⟨rfl, hb6⟩; have HR := Lib.hid (H5.out.on hb6); clear hb6))
          go_loopw [11] (fun q wr => ∃ j : Nat, j ≤ n ∧ q = .int .i64 j ∧ PlAt w wr g m n (lkStep n s p) (lkStep n s p) (k + 1) (.slice C1 n1 e1) (.slice C2 n e2) (.slice C3 n e3)) (fun q _ => n - (intOf q).toNat)
          case atStart => exact ⟨0, by omega, rfl, HR.out⟩
          case round =>
            obtain ⟨j, hj, rfl, hj2⟩ := hrel
            have HJ := Lib.hid hj2
            clear hj2
            by_cases hjl : j < n
            · have hjI : (j : Int) < n := by omega
              obtain ⟨b9, o9, eA, hcell⟩ := HJ.out.lines
              subst eA
              have z9 := hcell j hjl
              have z2 := HJ.out.mat.cells.2.2.1
              by_cases h5 : lkAt n (lkStep n s p) j = 5
              · have hc5 : (((lkAt n (lkStep n s p) j : Nat) : Int) == 5) = true := by simp; omega
                obtain ⟨b8, o8, eA, hown⟩ := HJ.out.owns
                subst eA
                obtain ⟨bp, op, cp, y8, yr, yc⟩ := hown j hjl
                have z3 := HJ.out.mat.cells.2.2.2.1
                have hdep : ((lkStep n s p).v.s j).r + ((lkStep n s p).v.s j).c < 4 := by have h1 : ((lkStep n s p).v.s j).r + ((lkStep n s p).v.s j).c < n := SOk.depth HJ.out.lk.ok hjl; omega
                have HPL := Lib.hid (fun w0 => place_any hdep w0)
                have hnm := name_five hjl h5
                obtain ⟨d, hd⟩ : ∃ d, d = pn ((lkStep n s p).v.s j).r ((lkStep n s p).v.s j).c := ⟨_, rfl⟩
                rw [← hd] at HPL hnm
                have HNM := Lib.hid hnm
                obtain ⟨r, hr⟩ : ∃ r, r = ((lkStep n s p).v.s j).r := ⟨_, rfl⟩
                obtain ⟨cc, hc⟩ : ∃ cc, cc = ((lkStep n s p).v.s j).c := ⟨_, rfl⟩
                rw [← hr] at HPL yr
                rw [← hc] at HPL yc
                have HS8 := Lib.hid (show (fun W : World => W.cell? ⟨m, 3, none⟩ = some (.slice (some ⟨b8, o8, none⟩) n e3) ∧ W.cell? ⟨b8, o8 + j, none⟩ = some (.slice (some ⟨bp, op, none⟩) 2 cp) ∧ W.cell? ⟨bp, op, none⟩ = some (.int .i64 r) ∧ W.cell? ⟨bp, op + 1, none⟩ = some (.int .i64 cc)) wr.drew from ⟨z3, y8, yr, yc⟩)
                clear hown hcell hdep hnm hd hr hc h5 z3 y8 yr yc
                go_wp2_with fail
                go_region_held3 (fun W : World => W.cell? ⟨m, 3, none⟩ = some (.slice (some ⟨b8, o8, none⟩) n e3) ∧ W.cell? ⟨b8, o8 + j, none⟩ = some (.slice (some ⟨bp, op, none⟩) 2 cp) ∧ W.cell? ⟨bp, op, none⟩ = some (.int .i64 r) ∧ W.cell? ⟨bp, op + 1, none⟩ = some (.int .i64 cc)) (exact HS8.out) ((go_at_call 11; (with_reducible refine (HPL.out _).mono ?_); rintro e w7 ⟨rfl, rfl⟩))
                all_goals
                  go_wp2_with fail
                  have HPU := Lib.hid (HJ.out.on (w' := wr.drew) (Below.refl _ _).drew)
                  have HS9 := Lib.hid (show (fun W : World => W.cell? ⟨m, 2, none⟩ = some (.slice (some ⟨b9, o9, none⟩) n e2) ∧ W.cell? ⟨b9, o9 + j, none⟩ = some (.int .i64 (lkAt n (lkStep n s p) j))) wr.drew.drew from ⟨z2, z9⟩)
                  have HPD := Lib.hid (HPU.out.on (w' := wr.drew.drew) (Below.refl _ _).drew)
                  have HA9 := Lib.hid (atL HPD.out.lk j)
                  have HB9 := Lib.hid (namePl HPD.out j)
                  rw [HNM.out] at HB9
                  have hne : (((lkAt n (lkStep n s p) j : Nat) : Int) != ((lkAt n (lkStep n s p) j : Nat) : Int)) = false := by simp
                  have hnn : ((d : Int) != (d : Int)) = false := by simp
                  clear z2 z9
                  go_region_held3 (fun W : World => W.cell? ⟨m, 2, none⟩ = some (.slice (some ⟨b9, o9, none⟩) n e2) ∧ W.cell? ⟨b9, o9 + j, none⟩ = some (.int .i64 (lkAt n (lkStep n s p) j))) (first | exact HS9.out | exact HS10.out) (first | (go_at_call 12; (with_reducible refine HA9.out.mono ?_); rintro e w9 ⟨rfl, rfl⟩) | (go_at_call 13; (with_reducible refine HB9.out.mono ?_); rintro e w10 ⟨rfl, h10, hb10⟩; have H10 := Lib.hid h10; have HS10 := Lib.hid (held2 hb10 HS9.out); clear h10 hb10))
                  all_goals
                    go_wp2
                    go_roundw
                    case rel => exact ⟨j + 1, by omega, by go_num, H10.out⟩
                    case measure => simp [intOf]; omega
              · have hc5 : (((lkAt n (lkStep n s p) j : Nat) : Int) == 5) = false := by simp; omega
                have HNM := Lib.hid (name_not hjl h5)
                clear hcell h5
                have HPU := HJ
                go_wp2_with fail
                have HS9 := Lib.hid (show (fun W : World => W.cell? ⟨m, 2, none⟩ = some (.slice (some ⟨b9, o9, none⟩) n e2) ∧ W.cell? ⟨b9, o9 + j, none⟩ = some (.int .i64 (lkAt n (lkStep n s p) j))) wr.drew from ⟨z2, z9⟩)
                have HPD := Lib.hid (HPU.out.on (w' := wr.drew) (Below.refl _ _).drew)
                have HA9 := Lib.hid (atL HPD.out.lk j)
                have HB9 := Lib.hid (namePl HPD.out j)
                rw [HNM.out] at HB9
                have hne : (((lkAt n (lkStep n s p) j : Nat) : Int) != ((lkAt n (lkStep n s p) j : Nat) : Int)) = false := by simp
                have hnn : ((-1 : Int) != (-1 : Int)) = false := by simp
                clear z2 z9
                go_region_held3 (fun W : World => W.cell? ⟨m, 2, none⟩ = some (.slice (some ⟨b9, o9, none⟩) n e2) ∧ W.cell? ⟨b9, o9 + j, none⟩ = some (.int .i64 (lkAt n (lkStep n s p) j))) (first | exact HS9.out | exact HS10.out) (first | (go_at_call 12; (with_reducible refine HA9.out.mono ?_); rintro e w9 ⟨rfl, rfl⟩) | (go_at_call 13; (with_reducible refine HB9.out.mono ?_); rintro e w10 ⟨rfl, h10, hb10⟩; have H10 := Lib.hid h10; have HS10 := Lib.hid (held2 hb10 HS9.out); clear h10 hb10))
                all_goals
                  go_wp2
                  go_roundw
                  case rel => exact ⟨j + 1, by omega, by go_num, H10.out⟩
                  case measure => simp [intOf]; omega
            · obtain rfl : j = n := by omega
              have hjI : ¬ (j : Int) < j := by omega
              go_wp2
              go_roundw
              case rel => exact ⟨k + 1, _, _, _, _, _, _, _, _, by omega, by go_num, by omega, HJ.out⟩
              case measure => simp [intOf]; omega
        · have HE := Lib.hid (perr_none hpr).1
          have HQ := Lib.hid (show PlAt w wr g m n s (lkStep n s p) k (.slice B1 m1 d1) (.slice B2 n d2) (.slice B3 n d3) by rw [(perr_none hpr).2 s]; exact HPL.out)
          have HPR := Lib.hid hpr
          clear hpr
          go_upto_region 15 with (go_at_call 8; (with_reducible refine (inL_false p 0 _ HPR.out _).mono ?_); rintro e w' ⟨rfl, rfl⟩)
          clear q0 q1 q2 q3 q4 q5 q6 q7 hxc
          go_wp2_with (first | (go_at_call 10; (with_reducible refine (stepPl HQ.out (by omega) p).mono ?_); rw [HE.out]; rintro e w5 ⟨rfl, h5⟩; have H5 := Lib.hid h5; clear h5) | (go_at_call 5; (with_reducible refine (errorIs_any 1 1 w5 (HG.out.below H5.out.lk.below HG.out.lt)).mono ?_); rw [decide_eq_true rfl]; rintro e w6 ⟨rfl, hb6⟩; have HR := Lib.hid (H5.out.on hb6); clear hb6))
          go_loopw [11] (fun q wr => ∃ j : Nat, j ≤ n ∧ q = .int .i64 j ∧ PlAt w wr g m n (lkStep n s p) (lkStep n s p) (k + 1) (.slice B1 m1 d1) (.slice B2 n d2) (.slice B3 n d3)) (fun q _ => n - (intOf q).toNat)
          case atStart => exact ⟨0, by omega, rfl, HR.out⟩
          case round =>
            obtain ⟨j, hj, rfl, hj2⟩ := hrel
            have HJ := Lib.hid hj2
            clear hj2
            by_cases hjl : j < n
            · have hjI : (j : Int) < n := by omega
              obtain ⟨b9, o9, eA, hcell⟩ := HJ.out.lines
              subst eA
              have z9 := hcell j hjl
              have z2 := HJ.out.mat.cells.2.2.1
              by_cases h5 : lkAt n (lkStep n s p) j = 5
              · have hc5 : (((lkAt n (lkStep n s p) j : Nat) : Int) == 5) = true := by simp; omega
                obtain ⟨b8, o8, eA, hown⟩ := HJ.out.owns
                subst eA
                obtain ⟨bp, op, cp, y8, yr, yc⟩ := hown j hjl
                have z3 := HJ.out.mat.cells.2.2.2.1
                have hdep : ((lkStep n s p).v.s j).r + ((lkStep n s p).v.s j).c < 4 := by have h1 : ((lkStep n s p).v.s j).r + ((lkStep n s p).v.s j).c < n := SOk.depth HJ.out.lk.ok hjl; omega
                have HPL := Lib.hid (fun w0 => place_any hdep w0)
                have hnm := name_five hjl h5
                obtain ⟨d, hd⟩ : ∃ d, d = pn ((lkStep n s p).v.s j).r ((lkStep n s p).v.s j).c := ⟨_, rfl⟩
                rw [← hd] at HPL hnm
                have HNM := Lib.hid hnm
                obtain ⟨r, hr⟩ : ∃ r, r = ((lkStep n s p).v.s j).r := ⟨_, rfl⟩
                obtain ⟨cc, hc⟩ : ∃ cc, cc = ((lkStep n s p).v.s j).c := ⟨_, rfl⟩
                rw [← hr] at HPL yr
                rw [← hc] at HPL yc
                have HS8 := Lib.hid (show (fun W : World => W.cell? ⟨m, 3, none⟩ = some (.slice (some ⟨b8, o8, none⟩) n d3) ∧ W.cell? ⟨b8, o8 + j, none⟩ = some (.slice (some ⟨bp, op, none⟩) 2 cp) ∧ W.cell? ⟨bp, op, none⟩ = some (.int .i64 r) ∧ W.cell? ⟨bp, op + 1, none⟩ = some (.int .i64 cc)) wr.drew from ⟨z3, y8, yr, yc⟩)
                clear hown hcell hdep hnm hd hr hc h5 z3 y8 yr yc
                go_wp2_with fail
                go_region_held3 (fun W : World => W.cell? ⟨m, 3, none⟩ = some (.slice (some ⟨b8, o8, none⟩) n d3) ∧ W.cell? ⟨b8, o8 + j, none⟩ = some (.slice (some ⟨bp, op, none⟩) 2 cp) ∧ W.cell? ⟨bp, op, none⟩ = some (.int .i64 r) ∧ W.cell? ⟨bp, op + 1, none⟩ = some (.int .i64 cc)) (exact HS8.out) ((go_at_call 11; (with_reducible refine (HPL.out _).mono ?_); rintro e w7 ⟨rfl, rfl⟩))
                all_goals
                  go_wp2_with fail
                  have HPU := Lib.hid (HJ.out.on (w' := wr.drew) (Below.refl _ _).drew)
                  have HS9 := Lib.hid (show (fun W : World => W.cell? ⟨m, 2, none⟩ = some (.slice (some ⟨b9, o9, none⟩) n d2) ∧ W.cell? ⟨b9, o9 + j, none⟩ = some (.int .i64 (lkAt n (lkStep n s p) j))) wr.drew.drew from ⟨z2, z9⟩)
                  have HPD := Lib.hid (HPU.out.on (w' := wr.drew.drew) (Below.refl _ _).drew)
                  have HA9 := Lib.hid (atL HPD.out.lk j)
                  have HB9 := Lib.hid (namePl HPD.out j)
                  rw [HNM.out] at HB9
                  have hne : (((lkAt n (lkStep n s p) j : Nat) : Int) != ((lkAt n (lkStep n s p) j : Nat) : Int)) = false := by simp
                  have hnn : ((d : Int) != (d : Int)) = false := by simp
                  clear z2 z9
                  go_region_held3 (fun W : World => W.cell? ⟨m, 2, none⟩ = some (.slice (some ⟨b9, o9, none⟩) n d2) ∧ W.cell? ⟨b9, o9 + j, none⟩ = some (.int .i64 (lkAt n (lkStep n s p) j))) (first | exact HS9.out | exact HS10.out) (first | (go_at_call 12; (with_reducible refine HA9.out.mono ?_); rintro e w9 ⟨rfl, rfl⟩) | (go_at_call 13; (with_reducible refine HB9.out.mono ?_); rintro e w10 ⟨rfl, h10, hb10⟩; have H10 := Lib.hid h10; have HS10 := Lib.hid (held2 hb10 HS9.out); clear h10 hb10))
                  all_goals
                    go_wp2
                    go_roundw
                    case rel => exact ⟨j + 1, by omega, by go_num, H10.out⟩
                    case measure => simp [intOf]; omega
              · have hc5 : (((lkAt n (lkStep n s p) j : Nat) : Int) == 5) = false := by simp; omega
                have HNM := Lib.hid (name_not hjl h5)
                clear hcell h5
                have HPU := HJ
                go_wp2_with fail
                have HS9 := Lib.hid (show (fun W : World => W.cell? ⟨m, 2, none⟩ = some (.slice (some ⟨b9, o9, none⟩) n d2) ∧ W.cell? ⟨b9, o9 + j, none⟩ = some (.int .i64 (lkAt n (lkStep n s p) j))) wr.drew from ⟨z2, z9⟩)
                have HPD := Lib.hid (HPU.out.on (w' := wr.drew) (Below.refl _ _).drew)
                have HA9 := Lib.hid (atL HPD.out.lk j)
                have HB9 := Lib.hid (namePl HPD.out j)
                rw [HNM.out] at HB9
                have hne : (((lkAt n (lkStep n s p) j : Nat) : Int) != ((lkAt n (lkStep n s p) j : Nat) : Int)) = false := by simp
                have hnn : ((-1 : Int) != (-1 : Int)) = false := by simp
                clear z2 z9
                go_region_held3 (fun W : World => W.cell? ⟨m, 2, none⟩ = some (.slice (some ⟨b9, o9, none⟩) n d2) ∧ W.cell? ⟨b9, o9 + j, none⟩ = some (.int .i64 (lkAt n (lkStep n s p) j))) (first | exact HS9.out | exact HS10.out) (first | (go_at_call 12; (with_reducible refine HA9.out.mono ?_); rintro e w9 ⟨rfl, rfl⟩) | (go_at_call 13; (with_reducible refine HB9.out.mono ?_); rintro e w10 ⟨rfl, h10, hb10⟩; have H10 := Lib.hid h10; have HS10 := Lib.hid (held2 hb10 HS9.out); clear h10 hb10))
                all_goals
                  go_wp2
                  go_roundw
                  case rel => exact ⟨j + 1, by omega, by go_num, H10.out⟩
                  case measure => simp [intOf]; omega
            · obtain rfl : j = n := by omega
              have hjI : ¬ (j : Int) < j := by omega
              go_wp2
              go_roundw
              case rel => exact ⟨k + 1, _, _, _, _, _, _, _, _, by omega, by go_num, by omega, HJ.out⟩
              case measure => simp [intOf]; omega
      · have hh : (k : Int) < script.length ∧ ¬ (k : Int) < 200 ∨ ¬ (k : Int) < script.length := by omega
        have ha1 : lkAt n s (-1) = 0 := by rw [lkAt, if_neg (by omega)]
        have ha2 : lkName n s n = -1 := by rw [lkName, if_neg (by omega)]
        have HA1 := Lib.hid ha1
        have HA2 := Lib.hid ha2
        clear hgo ha1 ha2
        rcases hh with ⟨hI, hJ⟩ | hI
        all_goals
          go_wp2_with (first | (go_at_call 12; (with_reducible refine (atL HPL.out.lk (-1)).mono ?_); rw [HA1.out]; rintro e w' ⟨rfl, rfl⟩) | (go_at_call 13; (with_reducible refine (namePl HPL.out n).mono ?_); rw [HA2.out]; rintro e w' ⟨rfl, h9, -⟩; have H9 := Lib.hid h9; clear h9))
          go_ret
          exact ⟨rfl, H9.out.lk.below⟩
  · have HZ := Lib.hid hz
    by_cases hz1 : z < 1
    · clear hz
      go_enter Tryd.func3, Tryd.ntmps3
      go_wp2_with (first | (go_at_call 4; refine (newBad (Below.refl _ _) z HZ.out).mono ?_; rintro e w2 ⟨rfl, hb⟩; have HB2 := Lib.hid hb; clear hb) | (go_at_call 5; refine (errorIs_any 1 1 w2 (HG.out.below HB2.out HG.out.lt)).mono ?_; rw [decide_eq_true rfl]; rintro e w3 ⟨rfl, hb⟩; have HB3 := Lib.hid hb; clear hb))
      go_ret
      exact ⟨rfl, HB2.out.trans (HB3.out.mono HB2.out.size)⟩
    · have hz4 : 4 < z := by omega
      clear hz
      go_enter Tryd.func3, Tryd.ntmps3
      go_wp2_with (first | (go_at_call 4; refine (newBad (Below.refl _ _) z HZ.out).mono ?_; rintro e w2 ⟨rfl, hb⟩; have HB2 := Lib.hid hb; clear hb) | (go_at_call 5; refine (errorIs_any 1 1 w2 (HG.out.below HB2.out HG.out.lt)).mono ?_; rw [decide_eq_true rfl]; rintro e w3 ⟨rfl, hb⟩; have HB3 := Lib.hid hb; clear hb))
      go_ret
      exact ⟨rfl, HB2.out.trans (HB3.out.mono HB2.out.size)⟩
end Go.Proofs.YthainkgpafbjcaaDoor.Split
