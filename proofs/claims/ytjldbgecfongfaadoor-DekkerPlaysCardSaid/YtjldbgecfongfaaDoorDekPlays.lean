/-
  The walk of latchgarthlaw2.DekkerPlays: it answers true, whatever the script.
-/
import Derived.Test.YtjldbgecfongfaaDoorDekW
import Derived.Test.YtjldbgecfongfaaDoorAs2
import Derived.Test.YtjldbgecfongfaaDoorMachNew
import Derived.Test.YtjldbgecfongfaaDoorInts
import Derived.Deep.DrawnRows
namespace Go.Proofs.YtjldbgecfongfaaDoor
open Go.RowKit
attribute [local go_sem ↓] Go.wp_at_zero Go.wp_at_succ

theorem inL_true (n lo hi : Int) (h0 : lo ≤ n) (h1 : n ≤ hi) (w : World) : Calls Tryd.prog 7 #[.int .i64 n, .int .i64 lo, .int .i64 hi] w fun e w' => e = .returned (.bool true) ∧ w = w' := by
  go_enter Tryd.func7, Tryd.ntmps7
  go_wp2
  go_ret
  exact ⟨rfl, rfl⟩
theorem inL_false (n lo hi : Int) (h : ¬ (lo ≤ n ∧ n ≤ hi)) (w : World) : Calls Tryd.prog 7 #[.int .i64 n, .int .i64 lo, .int .i64 hi] w fun e w' => e = .returned (.bool false) ∧ w = w' := by
  by_cases h0 : lo ≤ n
  · have h1 : ¬ n ≤ hi := fun k => h ⟨h0, k⟩
    clear h
    go_enter Tryd.func7, Tryd.ntmps7
    go_wp2
    go_ret
    exact ⟨rfl, rfl⟩
  · clear h
    go_enter Tryd.func7, Tryd.ntmps7
    go_wp2
    go_ret
    exact ⟨rfl, rfl⟩

/-- In block m the reference's machine is as the row says. -/
structure MAt (wr : World) (g m : Nat) (s : List Int) (x1 x2 x3 : Value) : Prop where
  blk : Block wr m 27 #[.int .i64 2, x1, x2, x3]
  far : m ≠ g
  glt : g < wr.heap.size
  mc : Mc wr (fun b => b ≠ m ∧ b ≠ g ∧ b < wr.heap.size) 2 (.agg #[.int .i64 2, x1, x2, x3]) (s.take 3) (s.drop 3) [[], []]
theorem MAt.cells {wr : World} {g m : Nat} {s : List Int} {x1 x2 x3 : Value} (h : MAt wr g m s x1 x2 x3) :
    wr.cell? ⟨m, 0, none⟩ = some (.int .i64 2) ∧ wr.cell? ⟨m, 1, none⟩ = some x1 ∧ wr.cell? ⟨m, 2, none⟩ = some x2 ∧ wr.cell? ⟨m, 3, none⟩ = some x3 ∧ wr.frozen? ⟨m, 0, none⟩ = false ∧ wr.frozen? ⟨m, 1, none⟩ = false ∧ wr.frozen? ⟨m, 2, none⟩ = false ∧ wr.frozen? ⟨m, 3, none⟩ = false :=
  ⟨(h.blk.cell 0).trans rfl, (h.blk.cell 1).trans rfl, (h.blk.cell 2).trans rfl, (h.blk.cell 3).trans rfl, h.blk.free 0, h.blk.free 1, h.blk.free 2, h.blk.free 3⟩
theorem MAt.touch {wr w' : World} {g m : Nat} {s : List Int} {x1 x2 x3 : Value} (h : MAt wr g m s x1 x2 x3) (ht : Touch (fun i => i = g) wr w') : MAt w' g m s x1 x2 x3 :=
  ⟨h.blk.touch ht h.far, h.far, Nat.lt_of_lt_of_le h.glt ht.size, h.mc.keep (fun _ hb => ⟨hb.1, hb.2.1, Nat.lt_of_lt_of_le hb.2.2 ht.size⟩) fun _ hp => ht.cell hp.2.2 hp.2.1⟩
theorem MAt.below {wr w' : World} {g m : Nat} {s : List Int} {x1 x2 x3 : Value} (h : MAt wr g m s x1 x2 x3) (hb : Below wr.heap.size wr w') : MAt w' g m s x1 x2 x3 :=
  ⟨h.blk.below hb h.blk.lt, h.far, Nat.lt_of_lt_of_le h.glt hb.size, h.mc.keep (fun _ hb' => ⟨hb'.1, hb'.2.1, Nat.lt_of_lt_of_le hb'.2.2 hb.size⟩) fun _ hp => hb.cell hp.2.2⟩
theorem MAt.lists {wr : World} {g m : Nat} {s : List Int} {x1 x2 x3 : Value} (h : MAt wr g m s x1 x2 x3) : Nums wr wr.heap.size x1 (s.take 3) ∧ Nums wr wr.heap.size x2 (s.drop 3) := by
  obtain ⟨wv, av, ov, e, h1, h2, _⟩ := h.mc
  injection e with e
  injection e with e
  injection e with _ e
  injection e with e1 e
  injection e with e2 _
  subst e1 e2
  exact ⟨h1.nums fun _ hb => hb.2.2, h2.nums fun _ hb => hb.2.2⟩
/-- The machine that a step told is put into its place. -/
theorem MAt.put {wr w3 : World} {g m : Nat} {s s' : List Int} {x1 x2 x3 y1 y2 y3 : Value} (h : MAt wr g m s x1 x2 x3) (hb : Below wr.heap.size wr w3) (hmc : Mc w3 (New (fun b => b ≠ m ∧ b ≠ g ∧ b < wr.heap.size) wr w3) 2 (.agg #[.int .i64 2, y1, y2, y3]) (s'.take 3) (s'.drop 3) [[], []]) :
    MAt ((((w3.setCell ⟨m, 0, none⟩ (.int .i64 2)).setCell ⟨m, 1, none⟩ y1).setCell ⟨m, 2, none⟩ y2).setCell ⟨m, 3, none⟩ y3) g m s' y1 y2 y3 := by
  have hm := h.blk.lt
  have hg := h.glt
  have hs := hb.size
  refine ⟨((((h.blk.below hb h.blk.lt).put 0 _).put 1 _).put 2 _).put 3 _, h.far, by simp [World.setCell]; omega, hmc.keep (fun b hb' => ?_) fun p hp => four_off w3 m _ _ _ _ p ?_⟩
  · rcases hb' with hb' | hb'
    · exact ⟨hb'.1, hb'.2.1, by simp [World.setCell]; omega⟩
    · exact ⟨by omega, by omega, by simp [World.setCell]; omega⟩
  · rcases hp with hp | hp
    · exact hp.1
    · omega

theorem MAt.form {wr : World} {g m : Nat} {s : List Int} {x1 x2 x3 : Value} (h : MAt wr g m s x1 x2 x3) (hs : s.length = 5) : ∃ A1 c1 A2 c2 A3 c3, x1 = .slice A1 3 c1 ∧ x2 = .slice A2 2 c2 ∧ x3 = .slice A3 2 c3 := by
  obtain ⟨A1, c1, A2, c2, A3, c3, e⟩ := mc_form h.mc
  injection e with e
  injection e with e
  injection e with _ e
  injection e with e1 e
  injection e with e2 e
  injection e with e3 _
  exact ⟨A1, c1, A2, c2, A3, c3, by rw [e1]; simp [hs], by rw [e2]; simp [hs], by rw [e3]; rfl⟩
theorem getD_at' {l : List Int} {i : Nat} (h : i < l.length) : l[i]? = some (l.getD i 0) := by simp [List.getD_eq_getElem?_getD, List.getElem?_eq_getElem h]
theorem MAt.lines {wr : World} {g m : Nat} {s : List Int} {x1 x3 : Value} {A2 : Option Addr} {c2 : Nat} (h : MAt wr g m s x1 (.slice A2 2 c2) x3) (hl : s.length = 5) : ∃ b o, A2 = some ⟨b, o, none⟩ ∧ ∀ j, j < 2 → wr.cell? ⟨b, o + j, none⟩ = some (.int .i64 (atP s j)) := by
  obtain ⟨A, c, e, _, hc⟩ := h.lists.2
  injection e with e _ _
  obtain ⟨b, o, e2, _, hcell⟩ := hc (by rw [List.length_drop]; omega)
  exact ⟨b, o, e.trans e2, fun j hj => hcell j _ (by rw [List.getElem?_drop, atP, getD_at' (by omega)])⟩
theorem mc_form5 {w : World} {P : Nat → Prop} {v : Value} {s : List Int} (h : Mc w P 2 v (s.take 3) (s.drop 3) [[], []]) (hs : s.length = 5) : ∃ A1 c1 A2 c2 A3 c3, v = .agg #[.int .i64 2, .slice A1 3 c1, .slice A2 2 c2, .slice A3 2 c3] := by
  obtain ⟨A1, c1, A2, c2, A3, c3, e⟩ := mc_form h
  exact ⟨A1, c1, A2, c2, A3, c3, by rw [e]; simp [hs]⟩
theorem nums3 {w : World} {B : Nat} {v : Value} {l : List Int} (h : Nums w B v (l.take 3)) (hl : l.length = 5) : ∃ A c, v = .slice A 3 c := by
  obtain ⟨A, c, e, _, _⟩ := h
  exact ⟨A, c, by rw [e]; simp [hl]⟩
theorem pall_len {s : List Int} (h : s ∈ pall) : s.length = 5 := by
  obtain ⟨f0, f1, t, a0, a1, rfl, -⟩ := pall_parts h
  rfl
/-- The lock and the machine, both beside what was there. -/
structure PlAt (w wr : World) (g m : Nat) (s s' : List Int) (x1 x2 x3 : Value) : Prop where
  lk : LkAt w wr g s
  mlow : w.heap.size ≤ m
  mat : MAt wr g m s' x1 x2 x3
theorem PlAt.put {w wr w3 : World} {g m : Nat} {s s' s2 : List Int} {x1 x2 x3 y1 y2 y3 : Value} (h : PlAt w wr g m s s' x1 x2 x3) (hb : Below wr.heap.size wr w3) (hmc : Mc w3 (New (fun b => b ≠ m ∧ b ≠ g ∧ b < wr.heap.size) wr w3) 2 (.agg #[.int .i64 2, y1, y2, y3]) (s2.take 3) (s2.drop 3) [[], []]) :
    PlAt w ((((w3.setCell ⟨m, 0, none⟩ (.int .i64 2)).setCell ⟨m, 1, none⟩ y1).setCell ⟨m, 2, none⟩ y2).setCell ⟨m, 3, none⟩ y3) g m s s2 y1 y2 y3 := by
  have hne : g ≠ m := fun e => h.mat.far e.symm
  refine ⟨⟨h.lk.new, ?_, ?_, h.lk.all⟩, h.mlow, h.mat.put hb hmc⟩
  · exact ((((Block.below h.lk.lk hb h.lk.lk.lt).far (p := ⟨m, 0, none⟩) hne _).far (p := ⟨m, 1, none⟩) hne _).far (p := ⟨m, 2, none⟩) hne _).far (p := ⟨m, 3, none⟩) hne _
  · exact ((((h.lk.below.trans (hb.mono h.lk.below.size)).setCell h.mlow _).setCell h.mlow _).setCell h.mlow _).setCell h.mlow _
theorem PlAt.on {w wr w' : World} {g m : Nat} {s s' : List Int} {x1 x2 x3 : Value} (h : PlAt w wr g m s s' x1 x2 x3) (hb : Below wr.heap.size wr w') : PlAt w w' g m s s' x1 x2 x3 :=
  ⟨⟨h.lk.new, Block.below h.lk.lk hb h.lk.lk.lt, h.lk.below.trans (hb.mono h.lk.below.size), h.lk.all⟩, h.mlow, h.mat.below hb⟩
theorem stepPl {w wr : World} {g m : Nat} {s s' : List Int} {x1 x2 x3 : Value} (h : PlAt w wr g m s s' x1 x2 x3) (p : Int) :
    Calls Tryd.prog 10 #[.pointer (some ⟨g, 0, none⟩), .int .i64 p] wr fun e w' => e = .returned (errV 45 (perr p)) ∧ PlAt w w' g m (pstp s p) s' x1 x2 x3 :=
  (step_any s h.lk.all g wr h.lk.lk p).mono fun _ _ ⟨he, hk, ht⟩ => ⟨he, ⟨h.lk.turn hk ht (pall_stp h.lk.all p), h.mlow, h.mat.touch ht⟩⟩
theorem wordsPl {w wr : World} {g m : Nat} {s s' : List Int} {x1 x2 x3 : Value} (h : PlAt w wr g m s s' x1 x2 x3) :
    Calls Tryd.prog 12 #[.pointer (some ⟨g, 0, none⟩)] wr fun e w' => ∃ v, e = .returned v ∧ Nums w' w'.heap.size v (s.take 3) ∧ PlAt w w' g m s s' x1 x2 x3 :=
  (words_any s h.lk.all g wr h.lk.lk).mono fun _ _ ⟨v, he, hn, hb⟩ => ⟨v, he, hn, h.on hb⟩
theorem perr_hand {p : Int} (h0 : 0 ≤ p) (h1 : p ≤ 1) : perr p = 0 := if_pos (by omega)
theorem perr_none {p : Int} (h : ¬ (0 ≤ p ∧ p ≤ 1)) : perr p = 1 ∧ ∀ s, pstp s p = s := ⟨if_neg (by omega), fun s => by rw [pstp, if_neg (by omega), if_neg (by omega)]⟩

set_option maxRecDepth 100000 in
set_option maxHeartbeats 8000000 in
theorem plays_any (sv : Value) (script : List Int) (w : World) (hn : Nums w w.heap.size sv script) (hg : ErrVar w) :
    Calls Tryd.prog 3 #[sv] w fun e w' => e = .returned (.bool true) ∧ Below w.heap.size w w' := by
  obtain ⟨A, c, rfl, hlen, hn⟩ := hn
  have HN := Lib.hid hn
  have HG := Lib.hid hg
  clear hn hg
  go_enter Tryd.func3, Tryd.ntmps3
  go_wp2_with (first | (go_at_call 4; refine (newL (Below.refl _ _)).mono ?_; rintro e w1 ⟨g, rfl, hl⟩; have HL := Lib.hid hl; clear hl) | (go_at_call 6; refine (zeros_any 3 (by omega) w1).mono ?_; rintro e w2 ⟨v2, rfl, hn2, hb2⟩; have HN2 := Lib.hid hn2; have HB2 := Lib.hid hb2; clear hn2 hb2) | (go_at_call 5; refine (machNew_any 2 0 (by omega) (by omega) _ _ w2 (fun _ hb => hb.2) HN2.out).mono ?_; rintro e w3 ⟨v3, rfl, hm3, hb3⟩; have HM3 := Lib.hid hm3; have HB3 := Lib.hid hb3; obtain ⟨A1, c1, A2, c2, A3, c3, rfl⟩ := mc_form hm3; clear hm3 hb3))
  obtain ⟨m, hmm⟩ : ∃ m, m = w3.heap.size := ⟨_, rfl⟩
  obtain ⟨V, hV⟩ : ∃ V, V = w3.alloc (.cells #[.int .i64 2, .slice A1 3 c1, .slice A2 2 c2, .slice A3 2 c3] 27) := ⟨_, rfl⟩
  have hPL : PlAt w V g m pnew pnew (.slice A1 3 c1) (.slice A2 2 c2) (.slice A3 2 c3) := by
    have hg1 := HL.out.lk.lt
    have hs2 := HB2.out.size
    have hs3 := HB3.out.size
    have hbV : Below w1.heap.size w1 V := by rw [hV]; exact (HB2.out.trans (HB3.out.mono hs2)).alloc (by omega) _
    have hVs : V.heap.size = w3.heap.size + 1 := by rw [hV]; simp
    refine ⟨⟨HL.out.new, Block.below HL.out.lk hbV hg1, HL.out.below.trans (hbV.mono HL.out.below.size), HL.out.all⟩, by have := HL.out.below.size; omega, ?_, by omega, by omega, ?_⟩
    · rw [hV, hmm]; exact Block.made w3 _ _
    · refine HM3.out.keep (fun b hb => ?_) fun p hp => ?_
      · rcases hb with hb | hb
        · exact ⟨by omega, by omega, by omega⟩
        · exact ⟨by omega, by omega, by omega⟩
      · rw [hV]
        exact World.cell?_alloc_lt w3 _ p (by rcases hp with hp | hp <;> omega)
  have HPL := Lib.hid hPL
  go_upto_region 4 with fail
  rw [← hV, ← hmm]
  clear hV hmm hPL
  go_loopw [5] (fun i wr => ∃ (k : Nat) (s : List Int) (B1 : Option Addr) (d1 : Nat) (B2 : Option Addr) (d2 : Nat) (B3 : Option Addr) (d3 : Nat), k ≤ script.length ∧ i = .int .i64 k ∧ PlAt w wr g m s s (.slice B1 3 d1) (.slice B2 2 d2) (.slice B3 2 d3)) (fun i _ => script.length - (intOf i).toNat)
  case atStart => exact ⟨0, pnew, _, _, _, _, _, _, by omega, rfl, HPL.out⟩
  case round =>
    clear HPL
    obtain ⟨k, s, B1, d1, B2, d2, B3, d3, hk, rfl, hpl⟩ := hrel
    have HPL := Lib.hid hpl
    clear hpl
    by_cases hgo : k < script.length ∧ k < 400
    · have hI : (k : Int) < script.length := by omega
      have h4 : (k : Int) < 400 := by omega
      obtain ⟨hlt, _⟩ := hgo
      obtain ⟨b, o, rfl, hbb, hcc⟩ := HN.out (by omega)
      obtain ⟨p, hp⟩ : ∃ x, script[k]? = some x := ⟨script[k], List.getElem?_eq_getElem hlt⟩
      have hxc := (HPL.out.lk.below.cell (p := ⟨b, o + k, none⟩) hbb).trans (hcc k p hp)
      clear hcc hp
      obtain ⟨q0, q1, q2, q3, q4, q5, q6, q7⟩ := HPL.out.mat.cells
      by_cases hpr : 0 ≤ p ∧ p ≤ 1
      · obtain ⟨hp0, hp1⟩ := hpr
        have HE := Lib.hid (perr_hand hp0 hp1)
        go_wp2_with (first | (go_at_call 7; (with_reducible refine (inL_true p 0 1 hp0 hp1 _).mono ?_); rintro e w' ⟨rfl, rfl⟩) | (go_at_call 8; refine (refDek_any s HPL.out.lk.all p hp0 hp1 _ [[], []] wr (fun _ hb => hb.2.2) HPL.out.mat.mc).mono ?_; rintro e w3 ⟨v3, rfl, hm3, hb3⟩; have HB3 := Lib.hid hb3; have HM3 := Lib.hid hm3; obtain ⟨C1, e1, C2, e2, C3, e3, rfl⟩ := mc_form5 hm3 (pall_len (pall_stp HPL.out.lk.all p)); obtain ⟨q0, q1, q2, q3, q4, q5, q6, q7⟩ := (HPL.out.on hb3).mat.cells; clear hm3 hb3))
        obtain ⟨U, hU⟩ : ∃ U, U = (((w3.setCell ⟨m, 0, none⟩ (.int .i64 2)).setCell ⟨m, 1, none⟩ (.slice C1 3 e1)).setCell ⟨m, 2, none⟩ (.slice C2 2 e2)).setCell ⟨m, 3, none⟩ (.slice C3 2 e3) := ⟨_, rfl⟩
        have HQ := Lib.hid (show PlAt w U g m s (pstp s p) (.slice C1 3 e1) (.slice C2 2 e2) (.slice C3 2 e3) by rw [hU]; exact HPL.out.put HB3.out HM3.out)
        rw [← hU]
        clear hU q0 q1 q2 q3 q4 q5 q6 q7 hxc
        have HQD := Lib.hid (HQ.out.on (w' := U.drew) (Below.refl _ _).drew)
        go_region_with ((first | (go_at_call 10; (with_reducible refine (stepPl HQD.out p).mono ?_); rw [HE.out]; rintro e w5 ⟨rfl, h5⟩; have H5 := Lib.hid h5; clear h5) | (go_at_call 9; (with_reducible refine (errorIs_any 0 0 w5 (HG.out.below H5.out.lk.below HG.out.lt)).mono ?_); rw [decide_eq_true rfl]; rintro e w6 ⟨rfl, hb6⟩; have H6 := Lib.hid (H5.out.on hb6); have z6 := H6.out.mat.cells.2.1; clear hb6) | (go_at_call 12; (with_reducible refine (wordsPl H6.out).mono ?_); rintro e w7 ⟨v7, rfl, hn7, h7⟩; have H7 := Lib.hid h7; have z7 := H7.out.mat.cells.2.1; have HN7 := Lib.hid hn7; obtain ⟨A7, c7, rfl⟩ := nums3 hn7 (pall_len h7.lk.all); clear h7) | (go_at_call 11; refine (ints_any ((pstp s p).take 3) ((pstp s p).take 3) _ _ _ _ w7 HN7.out H7.out.mat.lists.1).mono ?_; rw [decide_eq_true rfl]; rintro e w8 ⟨rfl, n8, rfl⟩; have HR := Lib.hid (H7.out.on (w' := w7.drewN n8) (below_drewN (Below.refl _ _) n8)))))
        all_goals
          go_wp2
          go_loopw [8] (fun q wr => ∃ j : Nat, j ≤ 2 ∧ q = .int .i64 j ∧ PlAt w wr g m (pstp s p) (pstp s p) (.slice C1 3 e1) (.slice C2 2 e2) (.slice C3 2 e3)) (fun q _ => 2 - (intOf q).toNat)
          case atStart => exact ⟨0, by omega, rfl, HR.out⟩
          case round =>
            obtain ⟨j, hj, rfl, hj2⟩ := hrel
            have HJ := Lib.hid hj2
            clear hj2
            by_cases hjl : j < 2
            · have hjI : (j : Int) < 2 := by omega
              obtain ⟨b9, o9, eA, hcell⟩ := HJ.out.mat.lines (pall_len HJ.out.lk.all)
              subst eA
              have hx9 := hcell j hjl
              have hm2 := HJ.out.mat.cells.2.2.1
              have HS9 := Lib.hid (show (fun W : World => W.cell? ⟨m, 2, none⟩ = some (.slice (some ⟨b9, o9, none⟩) 2 e2) ∧ W.cell? ⟨b9, o9 + j, none⟩ = some (.int .i64 (atP (pstp s p) j))) wr.drew from ⟨hm2, hx9⟩)
              have HA9 := Lib.hid (atL (HJ.out.on (w' := wr.drew) (Below.refl _ _).drew).lk j hjl)
              have hne : (atP (pstp s p) j != atP (pstp s p) j) = false := by simp
              clear hcell hm2 hx9
              go_wp2_with fail
              go_region_held3 (fun W => W.cell? ⟨m, 2, none⟩ = some (.slice (some ⟨b9, o9, none⟩) 2 e2) ∧ W.cell? ⟨b9, o9 + j, none⟩ = some (.int .i64 (atP (pstp s p) j))) (exact HS9.out) ((go_at_call 13; (with_reducible refine HA9.out.mono ?_); rintro e w9 ⟨rfl, rfl⟩))
              all_goals
                go_wp2
                go_roundw
                case rel => exact ⟨j + 1, by omega, by go_num, HJ.out.on (below_drewN (Below.refl _ _) 1)⟩
                case measure => simp [intOf]; omega
            · obtain rfl : j = 2 := by omega
              go_wp2
              go_roundw
              case rel => exact ⟨k + 1, pstp s p, _, _, _, _, _, _, by omega, by go_num, HJ.out⟩
              case measure => simp [intOf]; omega
      · have HE := Lib.hid (perr_none hpr).1
        have HQ := Lib.hid (show PlAt w wr g m s (pstp s p) (.slice B1 3 d1) (.slice B2 2 d2) (.slice B3 2 d3) by rw [(perr_none hpr).2 s]; exact HPL.out)
        have HPR := Lib.hid hpr
        clear hpr
        go_wp2_with (go_at_call 7; (with_reducible refine (inL_false p 0 1 HPR.out _).mono ?_); rintro e w' ⟨rfl, rfl⟩)
        clear q0 q1 q2 q3 q4 q5 q6 q7 hxc
        have HQD := Lib.hid (HQ.out.on (w' := wr.drew) (Below.refl _ _).drew)
        go_region_with ((first | (go_at_call 10; (with_reducible refine (stepPl HQD.out p).mono ?_); rw [HE.out]; rintro e w5 ⟨rfl, h5⟩; have H5 := Lib.hid h5; clear h5) | (go_at_call 9; (with_reducible refine (errorIs_any 1 1 w5 (HG.out.below H5.out.lk.below HG.out.lt)).mono ?_); rw [decide_eq_true rfl]; rintro e w6 ⟨rfl, hb6⟩; have H6 := Lib.hid (H5.out.on hb6); have z6 := H6.out.mat.cells.2.1; clear hb6) | (go_at_call 12; (with_reducible refine (wordsPl H6.out).mono ?_); rintro e w7 ⟨v7, rfl, hn7, h7⟩; have H7 := Lib.hid h7; have z7 := H7.out.mat.cells.2.1; have HN7 := Lib.hid hn7; obtain ⟨A7, c7, rfl⟩ := nums3 hn7 (pall_len h7.lk.all); clear h7) | (go_at_call 11; refine (ints_any ((pstp s p).take 3) ((pstp s p).take 3) _ _ _ _ w7 HN7.out H7.out.mat.lists.1).mono ?_; rw [decide_eq_true rfl]; rintro e w8 ⟨rfl, n8, rfl⟩; have HR := Lib.hid (H7.out.on (w' := w7.drewN n8) (below_drewN (Below.refl _ _) n8)))))
        all_goals
          go_wp2
          go_loopw [8] (fun q wr => ∃ j : Nat, j ≤ 2 ∧ q = .int .i64 j ∧ PlAt w wr g m (pstp s p) (pstp s p) (.slice B1 3 d1) (.slice B2 2 d2) (.slice B3 2 d3)) (fun q _ => 2 - (intOf q).toNat)
          case atStart => exact ⟨0, by omega, rfl, HR.out⟩
          case round =>
            obtain ⟨j, hj, rfl, hj2⟩ := hrel
            have HJ := Lib.hid hj2
            clear hj2
            by_cases hjl : j < 2
            · have hjI : (j : Int) < 2 := by omega
              obtain ⟨b9, o9, eA, hcell⟩ := HJ.out.mat.lines (pall_len HJ.out.lk.all)
              subst eA
              have hx9 := hcell j hjl
              have hm2 := HJ.out.mat.cells.2.2.1
              have HS9 := Lib.hid (show (fun W : World => W.cell? ⟨m, 2, none⟩ = some (.slice (some ⟨b9, o9, none⟩) 2 d2) ∧ W.cell? ⟨b9, o9 + j, none⟩ = some (.int .i64 (atP (pstp s p) j))) wr.drew from ⟨hm2, hx9⟩)
              have HA9 := Lib.hid (atL (HJ.out.on (w' := wr.drew) (Below.refl _ _).drew).lk j hjl)
              have hne : (atP (pstp s p) j != atP (pstp s p) j) = false := by simp
              clear hcell hm2 hx9
              go_wp2_with fail
              go_region_held3 (fun W => W.cell? ⟨m, 2, none⟩ = some (.slice (some ⟨b9, o9, none⟩) 2 d2) ∧ W.cell? ⟨b9, o9 + j, none⟩ = some (.int .i64 (atP (pstp s p) j))) (exact HS9.out) ((go_at_call 13; (with_reducible refine HA9.out.mono ?_); rintro e w9 ⟨rfl, rfl⟩))
              all_goals
                go_wp2
                go_roundw
                case rel => exact ⟨j + 1, by omega, by go_num, HJ.out.on (below_drewN (Below.refl _ _) 1)⟩
                case measure => simp [intOf]; omega
            · obtain rfl : j = 2 := by omega
              go_wp2
              go_roundw
              case rel => exact ⟨k + 1, pstp s p, _, _, _, _, _, _, by omega, by go_num, HJ.out⟩
              case measure => simp [intOf]; omega
    · have hh : (k : Int) < script.length ∧ ¬ (k : Int) < 400 ∨ ¬ (k : Int) < script.length := by omega
      clear hgo
      rcases hh with ⟨hI, hJ⟩ | hI
      all_goals
        go_wp2_with (first | (go_at_call 13; (with_reducible refine (at_none g _ (-1) (by omega)).mono ?_); rintro e w' ⟨rfl, rfl⟩) | (go_at_call 13; (with_reducible refine (at_none g _ 2 (by omega)).mono ?_); rintro e w' ⟨rfl, rfl⟩))
        go_ret
        exact ⟨rfl, HPL.out.lk.below⟩
end Go.Proofs.YtjldbgecfongfaaDoor
