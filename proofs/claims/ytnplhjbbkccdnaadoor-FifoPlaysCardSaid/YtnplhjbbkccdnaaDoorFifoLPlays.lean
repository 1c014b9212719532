/-
  The walk of latchgarthlaw3.FifoPlays: it answers true, whatever the number of hands and the steps.
-/
import Derived.Test.YtnplhjbbkccdnaaDoorFifoUP
import Derived.Test.YtnplhjbbkccdnaaDoorFifoReg15
import Derived.Test.YtnplhjbbkccdnaaDoorFifoReg20
import Derived.Test.YtnplhjbbkccdnaaDoorFifoReg2
import Derived.Deep.RegionHeld3
namespace Go.Proofs.YtnplhjbbkccdnaaDoor.Fif
open Go.RowKit Rf

def isBig (l : List Int) : Bool := match l with | [_, y] => decide (1000 < y) | _ => false
theorem isBig_two (x y : Int) : isBig [x, y] = decide (1000 < y) := rfl
theorem isBig_not {l : List Int} (h : l.length ≠ 2) : isBig l = false := by
  match l with
  | [] => rfl
  | [_] => rfl
  | [_, _] => exact absurd rfl h
  | _ :: _ :: _ :: _ => rfl
set_option maxRecDepth 100000 in
set_option maxHeartbeats 8000000 in
theorem plays_any (z : Int) (sv : Value) (steps : List (List Int)) (w : World) (hn : Rws w w.heap.size sv steps) (hg : ErrVar w) :
    Calls Tryd.prog 4 #[.int .i64 z, sv] w fun e w' => e = .returned (.bool true) ∧ Below w.heap.size w w' := by
  obtain ⟨A, c, rfl, hlen, -⟩ := id hn
  have HN := Lib.hid hn
  have HG := Lib.hid hg
  clear hn hg
  by_cases hz : 1 ≤ z ∧ z ≤ 4
  · obtain ⟨n, rfl⟩ := Int.eq_ofNat_of_zero_le (show 0 ≤ z by omega)
    have h1 : 1 ≤ n := by omega
    have h4 : n ≤ 4 := by omega
    have h1I : ¬ (n : Int) < 1 := by omega
    have h4I : ¬ 4 < (n : Int) := by omega
    clear hz
    go_enter Tryd.func4, Tryd.ntmps4
    go_upto_region 7 with (first | (go_at_call 16; refine (newL (Below.refl _ _) h1 h4).mono ?_; rintro e w1 ⟨g, rfl, hl⟩; have HL := Lib.hid hl; clear hl) | (go_at_call 17; refine (refnew_any (F := fun x => x = g) n h1 h4 w1 (fun x hx => by rw [hx]; exact HL.out.lt)).mono ?_; rintro e w2 ⟨v2, v3, v4, v5, v6, v7, v8, rfl, hr, hb⟩; obtain ⟨-, -, A2, c2, A3, c3, A4, c4, A5, c5, A6, c6, A7, c7, A8, c8, rfl, rfl, rfl, rfl, rfl, rfl, rfl⟩ := hr.forms; have HR := Lib.hid hr; have HB := Lib.hid hb; clear hr hb))
    obtain ⟨b, hb⟩ : ∃ b, b = w2.heap.size := ⟨_, rfl⟩
    obtain ⟨V, hV⟩ : ∃ V, V = w2.alloc (.cells #[.int .i64 0, .int .i64 0, .slice A2 ffnew.k c2, .slice A3 ffnew.k c3, .slice A4 n c4, .slice A5 n c5, .slice A6 n c6, .slice A7 n c7, .slice A8 n c8] 54) := ⟨_, rfl⟩
    have hbv : Below w2.heap.size w2 V := by rw [hV]; exact (Below.refl _ w2).alloc (Nat.le_refl _) _
    have hup : UP w V g b n fgnew (fun _ => 0) fgnew.v (fun _ => 0) (.int .i64 0) (.int .i64 0) (.slice A2 ffnew.k c2) (.slice A3 ffnew.k c3) (.slice A4 n c4) (.slice A5 n c5) (.slice A6 n c6) (.slice A7 n c7) (.slice A8 n c8) (fun _ => 0) := by
      have hg1 := HL.out.lt
      have hs := HB.out.size
      refine ⟨HL.out.on (HB.out.trans (hbv.mono hs)) (Nat.le_refl _), by rw [hV, hb]; exact Block.made _ _ _, by omega, (HR.out.more (F' := fun x => x = g ∨ x = b) fun x hx h => by omega).below hbv⟩
    have HU0 := Lib.hid hup
    rw [← hV, ← hb]
    clear hV hb hup hbv HL HR HB
    go_wp2_with fail
    go_loopw [8] (fun i wr => ∃ (k : Nat) (s : FG) (vl : Nat → Int) (v0 v1 v2 v3 v4 v5 v6 v7 v8 : Value) (fx : Nat → Int), k ≤ steps.length ∧ i = .int .i64 k ∧ k ≤ 400 ∧ UP w wr g b n s vl s.v vl v0 v1 v2 v3 v4 v5 v6 v7 v8 fx) (fun i _ => steps.length - (intOf i).toNat)
    case atStart => exact ⟨0, fgnew, _, _, _, _, _, _, _, _, _, _, _, by omega, rfl, by omega, HU0.out⟩
    case round =>
      clear HU0
      obtain ⟨k, s, vl, v0, v1, v2, v3, v4, v5, v6, v7, v8, fx, hk, rfl, hk2, hup⟩ := hrel
      by_cases hgo : k < steps.length ∧ k < 400
      · have hI : (k : Int) < steps.length := by omega
        have h2I : (k : Int) < 400 := by omega
        obtain ⟨hlt, hk300⟩ := hgo
        obtain ⟨l, hx⟩ : ∃ l, steps[k]? = some l := ⟨steps[k], List.getElem?_eq_getElem hlt⟩
        obtain ⟨bs, os, rfl, A', c', hxc, hnl⟩ := (HN.out.below hup.lk.below (Nat.le_refl _)).at_ hx
        clear hx
        have HLX := Lib.hid (show ∀ W, Below w.heap.size w W → Nums W w.heap.size (.slice A' l.length c') l from fun W hb => hnl.keep fun p hp => (hb.cell hp).trans (hup.lk.below.cell hp).symm)
        have HU := Lib.hid hup
        clear hnl hup
        obtain ⟨D, hD⟩ : ∃ D, D = isBig l := ⟨_, rfl⟩
        go_upto_region 11 with fail
        go_cut [61] (fun t61 wx => t61 = .bool D ∧ wx = wr)
        case first =>
          by_cases hl2 : l.length = 2
          · obtain ⟨x, y, rfl⟩ : ∃ x y, l = [x, y] := by
              rcases row_case l with h | ⟨x, rfl⟩ | h
              · exact h
              · simp at hl2
              · exact absurd hl2 h.1
            have hnl := HLX.out wr HU.out.lk.below
            obtain ⟨b1, o1, rfl, hbw, hc0⟩ := hnl.at_ (k := 0) rfl
            obtain ⟨b2, o2, e2, _, hc1⟩ := hnl.at_ (k := 1) rfl
            injection e2 with e2
            injection e2 with e2 e3 _
            subst e2 e3
            have hbb : ((([x, y] : List Int).length : Int) == 2) = true := rfl
            have HD := Lib.hid hD
            clear hnl hl2 hD
            go_wp2_with fail
            go_meet
            exact ⟨by rw [HD.out]; rfl, rfl⟩
          · have hbb : ((l.length : Int) == 2) = false := by simp; omega
            rw [isBig_not hl2] at hD
            subst hD
            go_wp2_with fail
            go_meet
            exact ⟨rfl, rfl⟩
        case rest =>
        obtain ⟨rfl, e⟩ := hcut
        subst e
        obtain ⟨wr, rfl⟩ : ∃ wr : World, wr = wc := ⟨_, rfl⟩
        go_upto_if 61 with fail
        go_cut [] (fun wx => (l.length = 2 → ∃ (s' : FG) (vl' : Nat → Int) (v0 v1 v2 v3 v4 v5 v6 v7 v8 : Value) (fx : Nat → Int), UP w wx g b n s' vl' s'.v vl' v0 v1 v2 v3 v4 v5 v6 v7 v8 fx) ∧ (l.length ≠ 2 → wx = wr))
        case first =>
          by_cases hl2 : l.length = 2
          · obtain ⟨x, y, rfl⟩ : ∃ x y, l = [x, y] := by
              rcases row_case l with h | ⟨x, rfl⟩ | h
              · exact h
              · simp at hl2
              · exact absurd hl2 h.1
            obtain ⟨rfl, rfl, B2, d2, B3, d3, B4, d4, B5, d5, B6, d6, B7, d7, B8, d8, rfl, rfl, rfl, rfl, rfl, rfl, rfl⟩ := HU.out.rk.forms
            have hnl := HLX.out wr HU.out.lk.below
            obtain ⟨b1, o1, rfl, hbw, hc0⟩ := hnl.at_ (k := 0) rfl
            rw [Nat.add_zero] at hc0
            obtain ⟨b2, o2, e2, _, hc1⟩ := hnl.at_ (k := 1) rfl
            injection e2 with e2
            injection e2 with e2 e3 _
            subst e2 e3
            have HC2 := Lib.hid (show ∀ W, Below w.heap.size w W → W.cell? ⟨b1, o1, none⟩ = some (.int .i64 x) ∧ W.cell? ⟨b1, o1 + 1, none⟩ = some (.int .i64 y) from fun W hb => ⟨(hb.cell (p := ⟨b1, o1, none⟩) hbw).trans ((HU.out.lk.below.cell (p := ⟨b1, o1, none⟩) hbw).symm.trans hc0), (hb.cell (p := ⟨b1, o1 + 1, none⟩) hbw).trans ((HU.out.lk.below.cell (p := ⟨b1, o1 + 1, none⟩) hbw).symm.trans hc1)⟩)
            have hbb : ((([x, y] : List Int).length : Int) == 2) = true := rfl
            clear hnl hl2
            by_cases hbig : 1000 < y
            · rw [isBig_two, decide_eq_true hbig] at hD
              subst hD
              go_upto_region 12 with fail
              have hcd := HC2.out wr.drew HU.out.drew.lk.below
              have HS := Lib.hid (show (fun W : World => W.cell? ⟨b1, o1, none⟩ = some (.int .i64 x) ∧ W.cell? ⟨b1, o1 + 1, none⟩ = some (.int .i64 y)) wr.drew from hcd)
              have HPF := Lib.hid (putFar HU.out.drew.lk x y hbig)
              clear hcd
              go_region_held3 (fun W : World => W.cell? ⟨b1, o1, none⟩ = some (.int .i64 x) ∧ W.cell? ⟨b1, o1 + 1, none⟩ = some (.int .i64 y)) (first | exact HS.out | exact HS4.out | exact HS5.out) ((first | (go_at_call 18; (with_reducible refine HPF.out.mono ?_); rintro e w4 ⟨rfl, hl4, ht4⟩; have HU4 := Lib.hid (HU.out.drew.turn hl4 ht4); have HS4 := Lib.hid (HC2.out w4 HU4.out.lk.below); clear hl4 ht4) | (go_at_call 6; (with_reducible refine (errIs HG.out HU4.out.lk.below).mono ?_); rintro e w5 ⟨rfl, hb5⟩; have HU5 := Lib.hid (HU4.out.call hb5); have HS5 := Lib.hid (HC2.out w5 HU5.out.lk.below); clear hb5)))
              all_goals
                go_wp2_with fail
                go_meet
                exact ⟨fun _ => ⟨s, _, _, _, _, _, _, _, _, _, _, _, HU5.out⟩, fun h => absurd rfl h⟩
            · rw [isBig_two, decide_eq_false hbig] at hD
              subst hD
              have hby : ¬ 1000 < y := hbig
              go_upto_region 15 with fail
              go_cut [10, 11] (fun t12 t13 wx => t13 = .int .i64 (sBegE n s x y) ∧ ∃ (bv : Nat) (y0 y1 y2 y3 y4 y5 y6 y7 y8 : Value) (gx : Nat → Int), t12 = .pointer (some ⟨bv, 0, none⟩) ∧ Block wx bv 54 #[y0, y1, y2, y3, y4, y5, y6, y7, y8] ∧ UP w wx g b n s vl s.v vl (.int .i64 s.v.hd) (.int .i64 s.v.tl) (.slice B2 s.v.k d2) (.slice B3 s.v.k d3) (.slice B4 n d4) (.slice B5 n d5) (.slice B6 n d6) (.slice B7 n d7) (.slice B8 n d8) fx ∧ RK (fun z => z = g ∨ z = b) wx n (sBegS n s x y).v (sBegV n s vl x y) y0 y1 y2 y3 y4 y5 y6 y7 y8 gx)
              case first =>
                refine reg15_any HU HC2 h1 h4 _ _ _ _ _ _ _ _ _ _ _ _ _ _ _ _ _ _ _ _ _ _ _ _ _ _ _ _ _ _ _ _ _ _ _ _ _ _ _ _ _ _ _ _ _ _ _ _ _ _ _ _ _ _ _ _ _ _ _ _ _ _ _ _ _ _ _ _ _ _ _ _ _ _ _ _ _ _ _ _ _ _ _ _ _ _ _ _ _ _ _ _ _ _ _ _ _ _ _ _ _ _ _ _ _ _ _ _ _ _ _ _ _ _ _ _ _ _ _ _ _ _ _ _ _ _ _ _ _ _ _ _ _ _ _ _ _ _ _ _ _ _ _ _ _ _ _ _ _ _ _ _ _ _ _ _ _ _ _ _ _ _ _ _ _ _ _ _ _ _ _ _ _ _ _ _ _ _ _ _ _ _ _ _ _ _ _ _ _ _ _ _ _ (Lib.hid ?_) (fun _ _ d _ _ h => (by cases d <;> exact h))
                intro x0 x1 x2 x3 x4 x5 x6 x7 x8 x9 x10 W bv y0 y1 y2 y3 y4 y5 y6 y7 y8 gx hb9 hu9 hr9
                go_wp2_with fail
                go_meet
                exact ⟨rfl, _, _, _, _, _, _, _, _, _, _, _, rfl, hb9, hu9, hr9⟩
              case rest =>
                obtain ⟨rfl, bv, y0, y1, y2, y3, y4, y5, y6, y7, y8, gx, rfl, hbv, hu2, hr2⟩ := hcut
                obtain ⟨wx, rfl⟩ : ∃ wx : World, wx = wc := ⟨_, rfl⟩
                obtain ⟨rfl, rfl, E2, f2, E3, f3, E4, f4, E5, f5, E6, f6, E7, f7, E8, f8, rfl, rfl, rfl, rfl, rfl, rfl, rfl⟩ := hr2.forms
                obtain ⟨ST, hST⟩ : ∃ t, t = sBegS n s x y := ⟨_, rfl⟩
                rw [← hST] at hbv hr2
                have HST := Lib.hid hST
                clear hST
                obtain ⟨VM, hVM⟩ : ∃ t, t = sBegV n s vl x y := ⟨_, rfl⟩
                rw [← hVM] at hr2
                have HVM := Lib.hid hVM
                clear hVM
                have s0 := hbv.cell 0
                have s1 := hbv.cell 1
                have s2 := hbv.cell 2
                have s3 := hbv.cell 3
                have s4 := hbv.cell 4
                have s5 := hbv.cell 5
                have s6 := hbv.cell 6
                have s7 := hbv.cell 7
                have s8 := hbv.cell 8
                simp at s0 s1 s2 s3 s4 s5 s6 s7 s8
                obtain ⟨q0, q1, q2, q3, q4, q5, q6, q7, q8⟩ := hu2.q
                have ff0 := hu2.box.free 0
                have ff1 := hu2.box.free 1
                have ff2 := hu2.box.free 2
                have ff3 := hu2.box.free 3
                have ff4 := hu2.box.free 4
                have ff5 := hu2.box.free 5
                have ff6 := hu2.box.free 6
                have ff7 := hu2.box.free 7
                have ff8 := hu2.box.free 8
                have HUS := Lib.hid (hu2.store hr2)
                clear hbv hu2 hr2
                go_upto_region 17 with fail
                clear s0 q0 ff0 s1 q1 ff1 s2 q2 ff2 s3 q3 ff3 s4 q4 ff4 s5 q5 ff5 s6 q6 ff6 s7 q7 ff7 s8 q8 ff8
                have hus := HUS.out
                obtain ⟨V, hV⟩ : ∃ V, V = (((((((((wx.setCell ⟨b, 0, none⟩ (.int .i64 ST.v.hd)).setCell ⟨b, 1, none⟩ (.int .i64 ST.v.tl)).setCell ⟨b, 2, none⟩ (.slice E2 ST.v.k f2)).setCell ⟨b, 3, none⟩ (.slice E3 ST.v.k f3)).setCell ⟨b, 4, none⟩ (.slice E4 n f4)).setCell ⟨b, 5, none⟩ (.slice E5 n f5)).setCell ⟨b, 6, none⟩ (.slice E6 n f6)).setCell ⟨b, 7, none⟩ (.slice E7 n f7)).setCell ⟨b, 8, none⟩ (.slice E8 n f8)) := ⟨_, rfl⟩
                rw [← hV] at hus ⊢
                have HUV := Lib.hid hus
                clear hus hV HUS
                by_cases hy : y < 0
                · refine reg17n_any HUV HC2 HG (Lib.hid rfl) (Lib.hid HST.out.symm) (Lib.hid HVM.out.symm) hy _ _ _ _ _ _ _ _ _ _ _ _ _ _ _ _ _ _ _ _ _ _ _ _ _ _ _ _ _ _ _ _ _ _ _ _ _ _ _ _ _ _ _ _ _ _ _ _ _ _ _ _ _ _ _ _ _ _ _ _ _ _ _ _ _ _ _ _ _ _ _ _ _ _ _ _ _ _ _ _ _ _ _ _ _ _ _ _ _ _ _ _ _ _ _ _ _ _ _ _ _ _ _ _ _ _ _ _ _ _ _ _ _ _ _ _ _ _ _ _ _ _ _ _ _ _ _ _ _ _ _ _ _ _ _ _ _ _ _ _ _ _ _ _ _ _ _ _ _ _ _ _ _ _ _ _ _ _ _ _ _ _ _ _ _ _ _ _ _ _ _ _ _ _ _ _ _ _ _ _ _ _ _ _ _ _ _ _ _ _ _ _ (Lib.hid ?_) (fun _ _ d _ _ h => (by cases d <;> exact h))
                  intro x0 x1 x2 x3 x4 x5 x6 x7 x8 x9 x10 x11 x12 x13 x14 x15 x16 x17 x18 x19 x20 x21 x22 x23 x24 x25 x26 x27 x28 x29 x30 x31 W hu9
                  go_wp2_with fail
                  go_meet
                  exact ⟨fun _ => ⟨ST, _, _, _, _, _, _, _, _, _, _, _, hu9⟩, fun h => absurd rfl h⟩
                · refine reg17p_any HUV HC2 HG (Lib.hid rfl) (Lib.hid HST.out.symm) (Lib.hid HVM.out.symm) hy (by omega) _ _ _ _ _ _ _ _ _ _ _ _ _ _ _ _ _ _ _ _ _ _ _ _ _ _ _ _ _ _ _ _ _ _ _ _ _ _ _ _ _ _ _ _ _ _ _ _ _ _ _ _ _ _ _ _ _ _ _ _ _ _ _ _ _ _ _ _ _ _ _ _ _ _ _ _ _ _ _ _ _ _ _ _ _ _ _ _ _ _ _ _ _ _ _ _ _ _ _ _ _ _ _ _ _ _ _ _ _ _ _ _ _ _ _ _ _ _ _ _ _ _ _ _ _ _ _ _ _ _ _ _ _ _ _ _ _ _ _ _ _ _ _ _ _ _ _ _ _ _ _ _ _ _ _ _ _ _ _ _ _ _ _ _ _ _ _ _ _ _ _ _ _ _ _ _ _ _ _ _ _ _ _ _ _ _ _ _ _ _ _ _ (Lib.hid ?_) (fun _ _ d _ _ h => (by cases d <;> exact h))
                  intro x0 x1 x2 x3 x4 x5 x6 x7 x8 x9 x10 x11 x12 x13 x14 x15 x16 x17 x18 x19 x20 x21 x22 x23 x24 x25 x26 x27 x28 x29 x30 x31 W hu9
                  go_wp2_with fail
                  go_meet
                  exact ⟨fun _ => ⟨ST, _, _, _, _, _, _, _, _, _, _, _, hu9⟩, fun h => absurd rfl h⟩
          · have hbb : ((l.length : Int) == 2) = false := by simp; omega
            rw [isBig_not hl2] at hD
            subst hD
            go_wp2_with fail
            go_meet
            exact ⟨fun h => absurd h hl2, fun _ => rfl⟩
        case rest =>
          obtain ⟨wq, rfl⟩ : ∃ wq : World, wq = wc := ⟨_, rfl⟩
          have HCUT := Lib.hid hcut
          clear hcut hxc
          go_upto_if 122 with fail
          go_cut [] (fun wx => ∃ (s' : FG) (vl' : Nat → Int) (v0 v1 v2 v3 v4 v5 v6 v7 v8 : Value) (fx : Nat → Int), UP w wx g b n s' vl' s'.v vl' v0 v1 v2 v3 v4 v5 v6 v7 v8 fx)
          case first =>
            by_cases hl1 : l.length = 1
            · obtain rfl := HCUT.out.2 (by omega)
              obtain ⟨x, rfl⟩ : ∃ x, l = [x] := by
                rcases row_case l with ⟨x, y, rfl⟩ | h | h
                · simp at hl1
                · exact h
                · exact absurd hl1 h.2
              obtain ⟨rfl, rfl, B2, d2, B3, d3, B4, d4, B5, d5, B6, d6, B7, d7, B8, d8, rfl, rfl, rfl, rfl, rfl, rfl, rfl⟩ := HU.out.rk.forms
              have hnl := HLX.out _ HU.out.lk.below
              obtain ⟨b1, o1, rfl, hbw, hc0⟩ := hnl.at_ (k := 0) rfl
              rw [Nat.add_zero] at hc0
              have HC2 := Lib.hid (show ∀ W, Below w.heap.size w W → W.cell? ⟨b1, o1, none⟩ = some (.int .i64 x) from fun W hb => (hb.cell (p := ⟨b1, o1, none⟩) hbw).trans ((HU.out.lk.below.cell (p := ⟨b1, o1, none⟩) hbw).symm.trans hc0))
              have hbb : ((([x] : List Int).length : Int) == 1) = true := rfl
              clear hnl hl1 HCUT
              go_upto_region 20 with fail
              go_cut [12, 13, 14, 15] (fun t14 t15 t16 t17 wx => t15 = .bool (sStpD n s x) ∧ t16 = .int .i64 (sStpG n s vl x) ∧ t17 = .int .i64 (sStpE n s x) ∧ ∃ (bv : Nat) (y0 y1 y2 y3 y4 y5 y6 y7 y8 : Value) (gx : Nat → Int), t14 = .pointer (some ⟨bv, 0, none⟩) ∧ Block wx bv 54 #[y0, y1, y2, y3, y4, y5, y6, y7, y8] ∧ UP w wx g b n s vl s.v vl (.int .i64 s.v.hd) (.int .i64 s.v.tl) (.slice B2 s.v.k d2) (.slice B3 s.v.k d3) (.slice B4 n d4) (.slice B5 n d5) (.slice B6 n d6) (.slice B7 n d7) (.slice B8 n d8) fx ∧ RK (fun z => z = g ∨ z = b) wx n (sStpS n s x).v vl y0 y1 y2 y3 y4 y5 y6 y7 y8 gx)
              case first =>
                refine reg20_any HU HC2 h1 h4 _ _ _ _ _ _ _ _ _ _ _ _ _ _ _ _ _ _ _ _ _ _ _ _ _ _ _ _ _ _ _ _ _ _ _ _ _ _ _ _ _ _ _ _ _ _ _ _ _ _ _ _ _ _ _ _ _ _ _ _ _ _ _ _ _ _ _ _ _ _ _ _ _ _ _ _ _ _ _ _ _ _ _ _ _ _ _ _ _ _ _ _ _ _ _ _ _ _ _ _ _ _ _ _ _ _ _ _ _ _ _ _ _ _ _ _ _ _ _ _ _ _ _ _ _ _ _ _ _ _ _ _ _ _ _ _ _ _ _ _ _ _ _ _ _ _ _ _ _ _ _ _ _ _ _ _ _ _ _ _ _ _ _ _ _ _ _ _ _ _ _ _ _ _ _ _ _ _ _ _ _ _ _ _ _ _ _ _ _ _ _ _ _ (Lib.hid ?_) (fun _ _ d _ _ h => (by cases d <;> exact h))
                intro x0 x1 x2 x3 x4 x5 x6 x7 x8 x9 W bv y0 y1 y2 y3 y4 y5 y6 y7 y8 gx hb9 hu9 hr9
                go_wp2_with fail
                go_meet
                exact ⟨rfl, rfl, rfl, _, _, _, _, _, _, _, _, _, _, _, rfl, hb9, hu9, hr9⟩
              case rest =>
                obtain ⟨rfl, rfl, rfl, bv, y0, y1, y2, y3, y4, y5, y6, y7, y8, gx, rfl, hbv, hu2, hr2⟩ := hcut
                obtain ⟨wx, rfl⟩ : ∃ wx : World, wx = wc := ⟨_, rfl⟩
                obtain ⟨rfl, rfl, E2, f2, E3, f3, E4, f4, E5, f5, E6, f6, E7, f7, E8, f8, rfl, rfl, rfl, rfl, rfl, rfl, rfl⟩ := hr2.forms
                obtain ⟨ST, hST⟩ : ∃ t, t = sStpS n s x := ⟨_, rfl⟩
                rw [← hST] at hbv hr2
                have HST := Lib.hid hST
                clear hST
                have s0 := hbv.cell 0
                have s1 := hbv.cell 1
                have s2 := hbv.cell 2
                have s3 := hbv.cell 3
                have s4 := hbv.cell 4
                have s5 := hbv.cell 5
                have s6 := hbv.cell 6
                have s7 := hbv.cell 7
                have s8 := hbv.cell 8
                simp at s0 s1 s2 s3 s4 s5 s6 s7 s8
                obtain ⟨q0, q1, q2, q3, q4, q5, q6, q7, q8⟩ := hu2.q
                have ff0 := hu2.box.free 0
                have ff1 := hu2.box.free 1
                have ff2 := hu2.box.free 2
                have ff3 := hu2.box.free 3
                have ff4 := hu2.box.free 4
                have ff5 := hu2.box.free 5
                have ff6 := hu2.box.free 6
                have ff7 := hu2.box.free 7
                have ff8 := hu2.box.free 8
                have HUS := Lib.hid (hu2.store hr2)
                clear hbv hu2 hr2
                go_upto_region 22 with fail
                clear s0 q0 ff0 s1 q1 ff1 s2 q2 ff2 s3 q3 ff3 s4 q4 ff4 s5 q5 ff5 s6 q6 ff6 s7 q7 ff7 s8 q8 ff8
                have hus := HUS.out
                obtain ⟨V, hV⟩ : ∃ V, V = (((((((((wx.setCell ⟨b, 0, none⟩ (.int .i64 ST.v.hd)).setCell ⟨b, 1, none⟩ (.int .i64 ST.v.tl)).setCell ⟨b, 2, none⟩ (.slice E2 ST.v.k f2)).setCell ⟨b, 3, none⟩ (.slice E3 ST.v.k f3)).setCell ⟨b, 4, none⟩ (.slice E4 n f4)).setCell ⟨b, 5, none⟩ (.slice E5 n f5)).setCell ⟨b, 6, none⟩ (.slice E6 n f6)).setCell ⟨b, 7, none⟩ (.slice E7 n f7)).setCell ⟨b, 8, none⟩ (.slice E8 n f8)) := ⟨_, rfl⟩
                rw [← hV] at hus ⊢
                have HUV := Lib.hid hus
                clear hus hV HUS
                have hc0 := HC2.out V HUV.out.lk.below
                have HSP := Lib.hid (stepL HUV.out.lk x)
                obtain ⟨D, hD⟩ : ∃ D, D = sStpD n s x := ⟨_, rfl⟩
                obtain ⟨G, hG⟩ : ∃ G, G = sStpG n s vl x := ⟨_, rfl⟩
                obtain ⟨EE, hEE⟩ : ∃ EE, EE = sStpE n s x := ⟨_, rfl⟩
                rw [← hD, ← hG, ← hEE, ← HST.out] at HSP
                rw [← hD, ← hG, ← hEE]
                have hDD : (D != D) = false := by simp
                have hGG : (G != G) = false := by simp
                clear hD hG hEE
                go_wp2_with (first | (go_at_call 22; (with_reducible refine HSP.out.mono ?_); rintro e w4 ⟨rfl, hl4, ht4⟩; have HU4 := Lib.hid (HUV.out.turn hl4 ht4); clear hl4 ht4) | (go_at_call 6; (with_reducible refine (errIs HG.out HU4.out.lk.below).mono ?_); rintro e w5 ⟨rfl, hb5⟩; have HU5 := Lib.hid (HU4.out.call hb5); clear hb5))
                go_meet
                exact ⟨ST, _, _, _, _, _, _, _, _, _, _, _, HU5.out⟩
            · have hbb : ((l.length : Int) == 1) = false := by simp; omega
              go_wp2_with fail
              go_meet
              by_cases hl2 : l.length = 2
              · exact HCUT.out.1 hl2
              · obtain rfl := HCUT.out.2 hl2
                exact ⟨s, _, _, _, _, _, _, _, _, _, _, _, HU.out⟩
          case rest =>
            obtain ⟨s', vl', v0, v1, v2, v3, v4, v5, v6, v7, v8, fx', hup⟩ := hcut
            obtain ⟨wx, rfl⟩ : ∃ wx : World, wx = wc := ⟨_, rfl⟩
            obtain ⟨rfl, rfl, B2, d2, B3, d3, B4, d4, B5, d5, B6, d6, B7, d7, B8, d8, rfl, rfl, rfl, rfl, rfl, rfl, rfl⟩ := hup.rk.forms
            have HU3 := Lib.hid hup
            clear hup
            obtain ⟨TN, hTN⟩ : ∃ t : Int, t = ((s'.v.hd : Nat) : Int) := ⟨_, rfl⟩
            obtain ⟨TT', hTT⟩ : ∃ t : Int, t = ((s'.v.tl : Nat) : Int) := ⟨_, rfl⟩
            have HTOP := Lib.hid (endsL HU3.out.lk)
            have hq12 := HU3.out.q
            rw [← hTN, ← hTT] at HTOP hq12
            obtain ⟨hq1, hq2, -⟩ := hq12
            have hA : (TN != TN) = false := by simp
            have hB : (TT' != TT') = false := by simp
            have HTN := Lib.hid hTN
            have HTT := Lib.hid hTT
            clear hTN hTT
            go_upto_region 28 with (go_at_call 23; refine HTOP.out.mono ?_; rintro e w9 ⟨rfl, i9, rfl⟩)
            clear hq1 hq2
            have hud := HU3.out.drewN i9
            obtain ⟨WT, hWT⟩ : ∃ W, W = wx.drewN i9 := ⟨_, rfl⟩
            rw [← hWT] at hud ⊢
            have HU4 := Lib.hid hud
            clear hud hWT HU3 HTOP
            go_wp2_with fail
            go_loopw [21] (fun i wr => ∃ q : Nat, q ≤ n ∧ i = .int .i64 q ∧ UP w wr g b n s' vl' s'.v vl' (.int .i64 s'.v.hd) (.int .i64 s'.v.tl) (.slice B2 s'.v.k d2) (.slice B3 s'.v.k d3) (.slice B4 n d4) (.slice B5 n d5) (.slice B6 n d6) (.slice B7 n d7) (.slice B8 n d8) fx') (fun i _ => n - (intOf i).toNat)
            case atStart => exact ⟨0, by omega, rfl, HU4.out⟩
            case round =>
              clear HU4
              obtain ⟨q, hq, rfl, hup⟩ := hrel
              have HU3 := Lib.hid hup
              clear hup
              by_cases hqn : q < n
              · have hqI : (q : Int) < n := by omega
                obtain ⟨bt, ot, rfl, _, _, hct⟩ := nm_at HU3.out.drew.rk.rv.p4 hqn
                obtain ⟨a, ha⟩ : ∃ a, a = (s'.v.h q).a := ⟨_, rfl⟩
                have HA := Lib.hid (atL HU3.out.drew.lk q)
                rw [sAt_in hqn, ← ha] at HA
                rw [← ha] at hct
                have haa : ((a : Int) != (a : Int)) = false := by simp
                have HS := Lib.hid (show (fun W : World => W.cell? ⟨b, 4, none⟩ = some (.slice (some ⟨bt, ot, none⟩) n d4) ∧ W.cell? ⟨bt, ot + q, none⟩ = some (.int .i64 (a : Int))) _ from ⟨HU3.out.drew.box.cell 4, hct⟩)
                clear ha hct
                go_wp2_with fail
                go_region_held3 (fun W : World => W.cell? ⟨b, 4, none⟩ = some (.slice (some ⟨bt, ot, none⟩) n d4) ∧ W.cell? ⟨bt, ot + q, none⟩ = some (.int .i64 (a : Int))) (exact HS.out) ((go_at_call 24; (with_reducible refine HA.out.mono ?_); rintro e w9 ⟨rfl, rfl⟩))
                all_goals
                  go_wp2
                  go_roundw
                  case rel => exact ⟨q + 1, by omega, by go_num, HU3.out.drew⟩
                  case measure => simp [intOf]; omega
              · obtain rfl : q = n := by omega
                have hqI : ¬ (q : Int) < q := by omega
                go_wp2
                go_roundw
                case rel => exact ⟨k + 1, s', _, _, _, _, _, _, _, _, _, _, _, by omega, by go_num, by omega, HU3.out⟩
                case measure => simp [intOf]; omega
      · have hh : (k : Int) < steps.length ∧ ¬ (k : Int) < 400 ∨ ¬ (k : Int) < steps.length := by omega
        clear hgo
        have HU := Lib.hid hup
        have HA1 := Lib.hid (show sAt n s (-1) = 0 from by rw [sAt, if_neg (by omega)])
        have HA2 := Lib.hid (show sAt n s n = 0 from by rw [sAt, if_neg (by omega)])
        clear hup
        rcases hh with ⟨hI, hJ⟩ | hI
        all_goals
          go_wp2_with (first | (go_at_call 24; (with_reducible refine (atL HU.out.lk (-1)).mono ?_); rw [HA1.out]; rintro e w9 ⟨rfl, rfl⟩) | (go_at_call 24; (with_reducible refine (atL HU.out.lk n).mono ?_); rw [HA2.out]; rintro e w9 ⟨rfl, rfl⟩))
          go_ret
          exact ⟨rfl, HU.out.lk.below⟩
  · have HZ := Lib.hid hz
    by_cases hz1 : z < 1
    all_goals
      have hz4 : z < 1 ∨ 4 < z := by omega
      clear hz
      have hz5 : ¬ z < 1 → 4 < z := fun h => by omega
      try have hz6 := hz5 hz1
      clear hz5 hz4
      go_enter Tryd.func4, Tryd.ntmps4
      go_wp2_with (first | (go_at_call 16; refine (newBad (Below.refl _ _) z HZ.out).mono ?_; rintro e w2 ⟨rfl, hb⟩; have HB2 := Lib.hid hb; clear hb) | (go_at_call 6; refine (errorIs_any 1 1 w2 (HG.out.below HB2.out HG.out.lt)).mono ?_; rw [decide_eq_true rfl]; rintro e w3 ⟨rfl, hb⟩; have HB3 := Lib.hid hb; clear hb))
      go_ret
      exact ⟨rfl, HB2.out.trans (HB3.out.mono HB2.out.size)⟩
end Go.Proofs.YtnplhjbbkccdnaaDoor.Fif
