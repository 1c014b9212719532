/-
  The walk of latchgarthlaw3.UnivPlays: it answers true, whatever the number of hands and the steps.
-/
import Derived.Test.YtegplglokaoemaaDoorUnivRef4
import Derived.Test.YtegplglokaoemaaDoorRws
import Derived.Test.YtegplglokaoemaaDoorInts
import Derived.Test.YtegplglokaoemaaDoorAs2
import Derived.Deep.DeepCutAuto
namespace Go.Proofs.YtegplglokaoemaaDoor.Univ
open Go.RowKit

/-- The row in block g; the reference's row, in block b, which is as v says. -/
structure UP (w W : World) (g b n T : Nat) (s : UG) (v : US) (va vc vt vd vl : Value) (fd fc : Nat → Int) : Prop where
  lk : LkAt w W g n T s
  box : Block W b 31 #[va, vc, vt, vd, vl]
  gb : g < b
  ru : RU (fun x => x = g ∨ x = b) W n v va vc vt vd vl fd fc
section
variable {w W W' : World} {g b n T T' : Nat} {s s' : UG} {v v' : US} {va vc vt vd vl ua uc ut ud ul : Value} {fd fc gd gc : Nat → Int}
theorem UP.low (h : UP w W g b n T s v va vc vt vd vl fd fc) : w.heap.size ≤ b := by have := h.lk.new; have := h.gb; omega
theorem UP.F (h : UP w W g b n T s v va vc vt vd vl fd fc) : ∀ x, (x = g ∨ x = b) → x < W.heap.size := fun x hx => by
  have := h.lk.lk.lt
  have := h.box.lt
  rcases hx with rfl | rfl <;> assumption
theorem UP.call (h : UP w W g b n T s v va vc vt vd vl fd fc) (hb : Below W.heap.size W W') : UP w W' g b n T s v va vc vt vd vl fd fc :=
  ⟨h.lk.on hb (Nat.le_refl _), h.box.below hb h.box.lt, h.gb, h.ru.below hb⟩
theorem UP.turn (h : UP w W g b n T s v va vc vt vd vl fd fc) (hl : LkAt w W' g n T' s') (ht : Touch (fun k => k = g) W W') : UP w W' g b n T' s' v va vc vt vd vl fd fc :=
  ⟨hl, h.box.touch ht (by have := h.gb; omega), h.gb, h.ru.touch ht fun x _ e => Or.inl e⟩
theorem UP.later (h : UP w W g b n T s v va vc vt vd vl fd fc) (hT : T ≤ T') : UP w W g b n T' s v va vc vt vd vl fd fc := ⟨h.lk.later hT, h.box, h.gb, h.ru⟩
theorem UP.drewN (h : UP w W g b n T s v va vc vt vd vl fd fc) (i : Nat) : UP w (W.drewN i) g b n T s v va vc vt vd vl fd fc := h.call (below_drewN (Below.refl _ W) i)
theorem UP.drew (h : UP w W g b n T s v va vc vt vd vl fd fc) : UP w W.drew g b n T s v va vc vt vd vl fd fc := h.call (Below.refl _ W).drew
/-- The reference's row is written anew. -/
theorem UP.store (h : UP w W g b n T s v va vc vt vd vl fd fc) (hr : RU (fun x => x = g ∨ x = b) W n v' ua uc ut ud ul gd gc) : UP w (((((W.setCell ⟨b, 0, none⟩ ua).setCell ⟨b, 1, none⟩ uc).setCell ⟨b, 2, none⟩ ut).setCell ⟨b, 3, none⟩ ud).setCell ⟨b, 4, none⟩ ul) g b n T s v' ua uc ut ud ul gd gc := by
  have hw := h.low
  have hgb := h.gb
  have hb : Below w.heap.size w (((((W.setCell ⟨b, 0, none⟩ ua).setCell ⟨b, 1, none⟩ uc).setCell ⟨b, 2, none⟩ ut).setCell ⟨b, 3, none⟩ ud).setCell ⟨b, 4, none⟩ ul) := ((((h.lk.below.setCell hw _).setCell hw _).setCell hw _).setCell hw _).setCell hw _
  have ht : Touch (fun x => x = b) W (((((W.setCell ⟨b, 0, none⟩ ua).setCell ⟨b, 1, none⟩ uc).setCell ⟨b, 2, none⟩ ut).setCell ⟨b, 3, none⟩ ud).setCell ⟨b, 4, none⟩ ul) := (((((Touch.refl (fun x => x = b) W).setCell (p := ⟨b, 0, none⟩) (Or.inl rfl) ua).setCell (p := ⟨b, 1, none⟩) (Or.inl rfl) uc).setCell (p := ⟨b, 2, none⟩) (Or.inl rfl) ut).setCell (p := ⟨b, 3, none⟩) (Or.inl rfl) ud).setCell (p := ⟨b, 4, none⟩) (Or.inl rfl) ul
  refine ⟨h.lk.touch ht fun k hk => by omega, ?_, hgb, hr.touch ht fun x _ e => Or.inr e⟩
  have := ((((h.box.put 0 ua).put 1 uc).put 2 ut).put 3 ud).put 4 ul
  simpa using this
theorem UP.q (h : UP w W g b n T s v va vc vt vd vl fd fc) : W.cell? ⟨b, 0, none⟩ = some va ∧ W.cell? ⟨b, 1, none⟩ = some vc ∧ W.cell? ⟨b, 2, none⟩ = some vt ∧ W.cell? ⟨b, 3, none⟩ = some vd ∧ W.cell? ⟨b, 4, none⟩ = some vl :=
  ⟨h.box.cell 0, h.box.cell 1, h.box.cell 2, h.box.cell 3, h.box.cell 4⟩
end
theorem told_A {w W w5 : World} {g b n T : Nat} {s : UG} {v v' : US} {va vc vt vd vl ua uc ut ud ul : Value} {fd fc gd gc : Nat → Int} (h : UP w W g b n T s v va vc vt vd vl fd fc) (hb : Below W.heap.size W w5) (hr : RU (fun x => x = g ∨ x = b) w5 n v' ua uc ut ud ul gd gc) :
    Block (w5.alloc (.cells #[ua, uc, ut, ud, ul] 31)) w5.heap.size 31 #[ua, uc, ut, ud, ul] ∧ UP w (w5.alloc (.cells #[ua, uc, ut, ud, ul] 31)) g b n T s v va vc vt vd vl fd fc ∧ RU (fun x => x = g ∨ x = b) (w5.alloc (.cells #[ua, uc, ut, ud, ul] 31)) n v' ua uc ut ud ul gd gc :=
  ⟨Block.made _ _ _, h.call (hb.alloc hb.size _), hr.below ((Below.refl _ _).alloc (Nat.le_refl _) _)⟩
theorem told_B {w W w5 : World} {g b n T : Nat} {s : UG} {v v' : US} {va vc vt vd vl ua uc ut ud ul : Value} {fd fc gd gc : Nat → Int} (h : UP w W g b n T s v va vc vt vd vl fd fc) (hb : Below W.heap.size W w5) (hk : Block w5 W.heap.size 31 #[.slice none 0 0, .slice none 0 0, .slice none 0 0, .slice none 0 0, .slice none 0 0]) (hr : RU (fun x => (x = g ∨ x = b) ∨ x = W.heap.size) w5 n v' ua uc ut ud ul gd gc) :
    Block (((((w5.setCell ⟨W.heap.size, 0, none⟩ ua).setCell ⟨W.heap.size, 1, none⟩ uc).setCell ⟨W.heap.size, 2, none⟩ ut).setCell ⟨W.heap.size, 3, none⟩ ud).setCell ⟨W.heap.size, 4, none⟩ ul) W.heap.size 31 #[ua, uc, ut, ud, ul] ∧ UP w (((((w5.setCell ⟨W.heap.size, 0, none⟩ ua).setCell ⟨W.heap.size, 1, none⟩ uc).setCell ⟨W.heap.size, 2, none⟩ ut).setCell ⟨W.heap.size, 3, none⟩ ud).setCell ⟨W.heap.size, 4, none⟩ ul) g b n T s v va vc vt vd vl fd fc ∧ RU (fun x => x = g ∨ x = b) (((((w5.setCell ⟨W.heap.size, 0, none⟩ ua).setCell ⟨W.heap.size, 1, none⟩ uc).setCell ⟨W.heap.size, 2, none⟩ ut).setCell ⟨W.heap.size, 3, none⟩ ud).setCell ⟨W.heap.size, 4, none⟩ ul) n v' ua uc ut ud ul gd gc := by
  have hb2 : Below W.heap.size W (((((w5.setCell ⟨W.heap.size, 0, none⟩ ua).setCell ⟨W.heap.size, 1, none⟩ uc).setCell ⟨W.heap.size, 2, none⟩ ut).setCell ⟨W.heap.size, 3, none⟩ ud).setCell ⟨W.heap.size, 4, none⟩ ul) := ((((hb.setCell (Nat.le_refl _) _).setCell (Nat.le_refl _) _).setCell (Nat.le_refl _) _).setCell (Nat.le_refl _) _).setCell (Nat.le_refl _) _
  have ht : Touch (fun x => x = W.heap.size) w5 (((((w5.setCell ⟨W.heap.size, 0, none⟩ ua).setCell ⟨W.heap.size, 1, none⟩ uc).setCell ⟨W.heap.size, 2, none⟩ ut).setCell ⟨W.heap.size, 3, none⟩ ud).setCell ⟨W.heap.size, 4, none⟩ ul) := (((((Touch.refl (fun x => x = W.heap.size) w5).setCell (p := ⟨W.heap.size, 0, none⟩) (Or.inl rfl) ua).setCell (p := ⟨W.heap.size, 1, none⟩) (Or.inl rfl) uc).setCell (p := ⟨W.heap.size, 2, none⟩) (Or.inl rfl) ut).setCell (p := ⟨W.heap.size, 3, none⟩) (Or.inl rfl) ud).setCell (p := ⟨W.heap.size, 4, none⟩) (Or.inl rfl) ul
  refine ⟨?_, h.call hb2, (hr.touch ht fun x _ e => Or.inr e).more fun x _ e => Or.inl e⟩
  have := ((((hk.put 0 ua).put 1 uc).put 2 ut).put 3 ud).put 4 ul
  simpa using this
theorem lo2_of {n T : Nat} {s : UG} (h : UF n T s) : Lo2 n s.v := ⟨h.ok.cm, h.ok.sm, fun i hi => (h.ok.ck i hi).1⟩
theorem errIs {c : Int} {w W : World} (hg : ErrVar w) (hb : Below w.heap.size w W) : Calls Tryd.prog 5 #[errV 44 c, .int .i64 c] W fun e w' => e = .returned (.bool true) ∧ Below W.heap.size W w' :=
  (errorIs_any c c W (hg.below hb hg.lt)).mono fun _ _ ⟨he, hx⟩ => ⟨he.trans (by rw [decide_eq_true rfl]), hx⟩
theorem row_case (l : List Int) : (∃ x y, l = [x, y]) ∨ (∃ x, l = [x]) ∨ l.length ≠ 2 ∧ l.length ≠ 1 := by
  match l with
  | [] => exact .inr (.inr ⟨by simp, by simp⟩)
  | [x] => exact .inr (.inl ⟨x, rfl⟩)
  | [x, y] => exact .inl ⟨x, y, rfl⟩
  | _ :: _ :: _ :: _ => exact .inr (.inr ⟨by simp, by simp⟩)

set_option maxRecDepth 100000 in
set_option maxHeartbeats 8000000 in
theorem plays_any (z : Int) (sv : Value) (steps : List (List Int)) (w : World) (hn : Rws w w.heap.size sv steps) (hg : ErrVar w) :
    Calls Tryd.prog 3 #[.int .i64 z, sv] w fun e w' => e = .returned (.bool true) ∧ Below w.heap.size w w' := by
  obtain ⟨A, c, rfl, hlen, -⟩ := id hn
  have HN := Lib.hid hn
  have HG := Lib.hid hg
  clear hn hg
  by_cases hz : 1 ≤ z ∧ z ≤ 4
  · obtain ⟨n, rfl⟩ := Int.eq_ofNat_of_zero_le (show 0 ≤ z by omega)
    have h1 : 1 ≤ n := by omega
    have h4 : n ≤ 4 := by omega
    have h1I : ¬ (n : Int) < 1 := by omega
    have h4I : ¬ 4 < (n : Int) := by omega
    clear hz
    go_enter Tryd.func3, Tryd.ntmps3
    go_upto_region 7 with (first | (go_at_call 4; refine (newL (Below.refl _ _) h1 h4).mono ?_; rintro e w1 ⟨g, rfl, hl⟩; have HL := Lib.hid hl; clear hl) | (go_at_call 6; refine (refnew_any (F := fun x => x = g) n h1 h4 w1 (fun x hx => by rw [hx]; exact HL.out.lk.lt)).mono ?_; rintro e w2 ⟨A2, A3, A4, rfl, hr, hb⟩; have HR := Lib.hid hr; have HB := Lib.hid hb; clear hr hb))
    obtain ⟨b, hb⟩ : ∃ b, b = w2.heap.size := ⟨_, rfl⟩
    obtain ⟨V, hV⟩ : ∃ V, V = w2.alloc (.cells #[.slice none 0 0, .slice none 0 0, .slice A2 n n, .slice A3 n n, .slice A4 n n] 31) := ⟨_, rfl⟩
    have hbv : Below w2.heap.size w2 V := by rw [hV]; exact (Below.refl _ w2).alloc (Nat.le_refl _) _
    have hup : UP w V g b n 0 ugnew unew (.slice none 0 0) (.slice none 0 0) (.slice A2 n n) (.slice A3 n n) (.slice A4 n n) (fun _ => 0) (fun _ => 0) := by
      have hg1 := HL.out.lk.lt
      have hs := HB.out.size
      refine ⟨HL.out.on (HB.out.trans (hbv.mono hs)) (Nat.le_refl _), by rw [hV, hb]; exact Block.made _ _ _, by omega, (HR.out.more (F' := fun x => x = g ∨ x = b) fun x hx h => by omega).below hbv⟩
    have HU0 := Lib.hid hup
    rw [← hV, ← hb]
    clear hV hb hup hbv HL HR HB
    go_wp2_with fail
    go_loopw [8] (fun i wr => ∃ (k : Nat) (s : UG) (va vc vt vd vl : Value) (fd fc : Nat → Int), k ≤ steps.length ∧ i = .int .i64 k ∧ k ≤ 200 ∧ UP w wr g b n k s s.v va vc vt vd vl fd fc) (fun i _ => steps.length - (intOf i).toNat)
    case atStart => exact ⟨0, ugnew, _, _, _, _, _, _, _, by omega, rfl, by omega, HU0.out⟩
    case round =>
      clear HU0
      obtain ⟨k, s, va, vc, vt, vd, vl, fd, fc, hk, rfl, hk2, hup⟩ := hrel
      by_cases hgo : k < steps.length ∧ k < 200
      · have hI : (k : Int) < steps.length := by omega
        have h2I : (k : Int) < 200 := by omega
        obtain ⟨hlt, hk200⟩ := hgo
        obtain ⟨l, hx⟩ : ∃ l, steps[k]? = some l := ⟨steps[k], List.getElem?_eq_getElem hlt⟩
        obtain ⟨bs, os, rfl, A', c', hxc, hnl⟩ := (HN.out.below hup.lk.below (Nat.le_refl _)).at_ hx
        clear hx
        have HLX := Lib.hid (show ∀ W, Below w.heap.size w W → Nums W w.heap.size (.slice A' l.length c') l from fun W hb => hnl.keep fun p hp => (hb.cell hp).trans (hup.lk.below.cell hp).symm)
        have HU := Lib.hid hup
        clear hnl hup
        go_upto_if 52 with fail
        go_cut [] (fun wx => (l.length = 2 → ∃ (s' : UG) (va vc vt vd vl : Value) (fd fc : Nat → Int), UP w wx g b n (k + 1) s' s'.v va vc vt vd vl fd fc) ∧ (l.length ≠ 2 → wx = wr))
        case first =>
          by_cases hl2 : l.length = 2
          · obtain ⟨x, y, rfl⟩ : ∃ x y, l = [x, y] := by
              rcases row_case l with h | ⟨x, rfl⟩ | h
              · exact h
              · simp at hl2
              · exact absurd hl2 h.1
            obtain ⟨B0, c0, B1, c1, B2, c2, B3, c3, B4, c4, rfl, rfl, rfl, rfl, rfl⟩ := HU.out.ru.forms
            obtain ⟨K, hK⟩ : ∃ K, K = s.v.k := ⟨_, rfl⟩
            obtain ⟨m, hm⟩ : ∃ m, m = s.v.m := ⟨_, rfl⟩
            rw [← hK, ← hm] at HU
            have hnl := HLX.out wr HU.out.lk.below
            obtain ⟨b1, o1, rfl, hbw, hc0⟩ := hnl.at_ (k := 0) rfl
            rw [Nat.add_zero] at hc0
            obtain ⟨b2, o2, e2, _, hc1⟩ := hnl.at_ (k := 1) rfl
            injection e2 with e2
            injection e2 with e2 e3 _
            subst e2 e3
            have HC2 := Lib.hid (show ∀ W, Below w.heap.size w W → W.cell? ⟨b1, o1, none⟩ = some (.int .i64 x) ∧ W.cell? ⟨b1, o1 + 1, none⟩ = some (.int .i64 y) from fun W hb => ⟨(hb.cell (p := ⟨b1, o1, none⟩) hbw).trans ((HU.out.lk.below.cell (p := ⟨b1, o1, none⟩) hbw).symm.trans hc0), (hb.cell (p := ⟨b1, o1 + 1, none⟩) hbw).trans ((HU.out.lk.below.cell (p := ⟨b1, o1 + 1, none⟩) hbw).symm.trans hc1)⟩)
            have hbb : ((([x, y] : List Int).length : Int) == 2) = true := rfl
            clear hnl hl2 hK hm
            go_upto_region 13 with fail
            go_cut [10] (fun t10 wx => t10 = .int .i64 (begE n s.v x y) ∧ ∃ (ua uc ut ud ul : Value) (gd gc : Nat → Int), UP w wx g b n k s (begS n s.v x y) ua uc ut ud ul gd gc)
            case first =>
              obtain ⟨q0, q1, q2, q3, q4⟩ := HU.out.q
              have HRB := Lib.hid (fun (W0 : World) (h : Below wr.heap.size wr W0) => refbegin_any W0 (HU.out.call h).ru (HU.out.call h).F HU.out.lk.ok.loc h1 h4 x y)
              go_region_with (go_at_call 7; refine (HRB.out _ (by first | exact Below.refl _ wr | exact (Below.refl _ wr).drew)).mono ?_; rintro e w5 ⟨ua, uc, ut, ud, ul, gd, gc, rfl, hr, hb5⟩; obtain ⟨D0, d0, D1, d1, D2, d2, D3, d3, D4, d4, rfl, rfl, rfl, rfl, rfl⟩ := hr.forms; have HR5 := Lib.hid hr; have HU5 := Lib.hid (HU.out.call (show Below wr.heap.size wr w5 from below_undrew hb5)); obtain ⟨s0, s1, s2, s3, s4⟩ := HU5.out.q; have f0 := HU5.out.box.free 0; have f1 := HU5.out.box.free 1; have f2 := HU5.out.box.free 2; have f3 := HU5.out.box.free 3; have f4 := HU5.out.box.free 4; clear hr hb5)
              all_goals
                go_wp2_with fail
                go_meet
                exact ⟨rfl, _, _, _, _, _, _, _, HU5.out.store HR5.out⟩
            case rest =>
              obtain ⟨rfl, ua, uc, ut, ud, ul, gd, gc, hu2⟩ := hcut
              obtain ⟨wx, rfl⟩ : ∃ wx : World, wx = wc := ⟨_, rfl⟩
              have HU2 := Lib.hid hu2
              have hc0 := (HC2.out wx.drew HU2.out.drew.lk.below).1
              have hc1 := (HC2.out wx.drew HU2.out.drew.lk.below).2
              have HS := Lib.hid (show (fun W : World => W.cell? ⟨b1, o1, none⟩ = some (.int .i64 x) ∧ W.cell? ⟨b1, o1 + 1, none⟩ = some (.int .i64 y)) wx.drew from ⟨hc0, hc1⟩)
              have HBG := Lib.hid (beginT HU2.out.drew.lk (by omega) x y)
              clear hu2 hc0 hc1
              go_upto_region 14 with fail
              go_region_held3 (fun W : World => W.cell? ⟨b1, o1, none⟩ = some (.int .i64 x) ∧ W.cell? ⟨b1, o1 + 1, none⟩ = some (.int .i64 y)) (first | exact HS.out | exact HS4.out | exact HS5.out) ((first | (go_at_call 8; (with_reducible refine HBG.out.mono ?_); rintro e w4 ⟨rfl, hl4, ht4⟩; have HU4 := Lib.hid (HU2.out.drew.turn hl4 ht4); have HS4 := Lib.hid (HC2.out w4 HU4.out.lk.below); clear hl4 ht4) | (go_at_call 5; (with_reducible refine (errIs HG.out HU4.out.lk.below).mono ?_); rintro e w5 ⟨rfl, hb5⟩; have HU5 := Lib.hid (HU4.out.call hb5); have HS5 := Lib.hid (HC2.out w5 HU5.out.lk.below); clear hb5)))
              all_goals
                go_wp2_with fail
                go_meet
                exact ⟨fun _ => ⟨gbeg n k s x y, _, _, _, _, _, _, _, by rw [gbeg_v]; exact HU5.out⟩, fun h => absurd rfl h⟩
          · have hbb : ((l.length : Int) == 2) = false := by simp; omega
            go_wp2_with fail
            go_meet
            exact ⟨fun h => absurd h hl2, fun _ => rfl⟩
        case rest =>
          obtain ⟨wq, rfl⟩ : ∃ wq : World, wq = wc := ⟨_, rfl⟩
          have HCUT := Lib.hid hcut
          clear hcut hxc
          go_upto_if 77 with fail
          go_cut [] (fun wx => ∃ (s' : UG) (va vc vt vd vl : Value) (fd fc : Nat → Int), UP w wx g b n (k + 1) s' s'.v va vc vt vd vl fd fc)
          case first =>
            by_cases hl1 : l.length = 1
            · obtain rfl := HCUT.out.2 (by omega)
              obtain ⟨x, rfl⟩ : ∃ x, l = [x] := by
                rcases row_case l with ⟨x, y, rfl⟩ | h | h
                · simp at hl1
                · exact h
                · exact absurd hl1 h.2
              obtain ⟨B0, c0, B1, c1, B2, c2, B3, c3, B4, c4, rfl, rfl, rfl, rfl, rfl⟩ := HU.out.ru.forms
              obtain ⟨K, hK⟩ : ∃ K, K = s.v.k := ⟨_, rfl⟩
              obtain ⟨m, hm⟩ : ∃ m, m = s.v.m := ⟨_, rfl⟩
              rw [← hK, ← hm] at HU
              have hnl := HLX.out _ HU.out.lk.below
              obtain ⟨b1, o1, rfl, hbw, hc0⟩ := hnl.at_ (k := 0) rfl
              rw [Nat.add_zero] at hc0
              have HC2 := Lib.hid (show ∀ W, Below w.heap.size w W → W.cell? ⟨b1, o1, none⟩ = some (.int .i64 x) from fun W hb => (hb.cell (p := ⟨b1, o1, none⟩) hbw).trans ((HU.out.lk.below.cell (p := ⟨b1, o1, none⟩) hbw).symm.trans hc0))
              have hbb : ((([x] : List Int).length : Int) == 1) = true := rfl
              clear hnl hl1 hK hm HCUT
              go_upto_region 17 with fail
              go_cut [11, 12, 13, 14] (fun t11 t12 t13 t14 wx => t12 = .bool (stpD n s.v x) ∧ t13 = .int .i64 (stpG n s.v x) ∧ t14 = .int .i64 (stpE n s.v x) ∧ ∃ (bv : Nat) (ua uc ut ud ul : Value) (gd gc : Nat → Int), t11 = .pointer (some ⟨bv, 0, none⟩) ∧ Block wx bv 31 #[ua, uc, ut, ud, ul] ∧ UP w wx g b n k s s.v (.slice B0 K c0) (.slice B1 m c1) (.slice B2 n c2) (.slice B3 n c3) (.slice B4 n c4) fd fc ∧ RU (fun x => x = g ∨ x = b) wx n (stpS n s.v x) ua uc ut ud ul gd gc)
              case first =>
                obtain ⟨q0, q1, q2, q3, q4⟩ := HU.out.q
                have HRA := Lib.hid (show ∀ W0, Below wq.heap.size wq W0 → Calls Tryd.prog 9 #[.agg #[.slice B0 K c0, .slice B1 m c1, .slice B2 n c2, .slice B3 n c3, .slice B4 n c4], .int .i64 x] W0 fun e w' => ∃ (ua uc ut ud ul : Value) (gd gc : Nat → Int), e = .returned (.tuple #[.agg #[ua, uc, ut, ud, ul], .bool (stpD n s.v x), .int .i64 (stpG n s.v x), .int .i64 (stpE n s.v x)]) ∧ RU (fun x => x = g ∨ x = b) w' n (stpS n s.v x) ua uc ut ud ul gd gc ∧ Below wq.heap.size wq w' from fun W0 h =>
                  (refstep_any W0 (HU.out.call h).ru (HU.out.call h).F HU.out.lk.ok.loc (lo2_of HU.out.lk.ok) h1 h4 x).mono fun _ _ ⟨ua, uc, ut, ud, ul, gd, gc, he, hr, hb⟩ => ⟨ua, uc, ut, ud, ul, gd, gc, he, hr, h.trans (hb.mono h.size)⟩)
                have HRQ := Lib.hid (show ∀ W0, Below ((wq.alloc (.cells #[.slice none 0 0, .slice none 0 0, .slice none 0 0, .slice none 0 0, .slice none 0 0] 31))).heap.size (wq.alloc (.cells #[.slice none 0 0, .slice none 0 0, .slice none 0 0, .slice none 0 0, .slice none 0 0] 31)) W0 → Calls Tryd.prog 9 #[.agg #[.slice B0 K c0, .slice B1 m c1, .slice B2 n c2, .slice B3 n c3, .slice B4 n c4], .int .i64 x] W0 fun e w' => ∃ (ua uc ut ud ul : Value) (gd gc : Nat → Int), e = .returned (.tuple #[.agg #[ua, uc, ut, ud, ul], .bool (stpD n s.v x), .int .i64 (stpG n s.v x), .int .i64 (stpE n s.v x)]) ∧ RU (fun x => (x = g ∨ x = b) ∨ x = wq.heap.size) w' n (stpS n s.v x) ua uc ut ud ul gd gc ∧ Below wq.heap.size wq w' ∧ Block w' wq.heap.size 31 #[.slice none 0 0, .slice none 0 0, .slice none 0 0, .slice none 0 0, .slice none 0 0] from fun W0 h => by
                  have hal : Below wq.heap.size wq (wq.alloc (.cells #[.slice none 0 0, .slice none 0 0, .slice none 0 0, .slice none 0 0, .slice none 0 0] 31)) := (Below.refl _ wq).alloc (Nat.le_refl _) _
                  have hw0 : Below wq.heap.size wq W0 := hal.trans (h.mono hal.size)
                  have hbk : Block W0 wq.heap.size 31 #[.slice none 0 0, .slice none 0 0, .slice none 0 0, .slice none 0 0, .slice none 0 0] := (Block.made wq 31 #[.slice none 0 0, .slice none 0 0, .slice none 0 0, .slice none 0 0, .slice none 0 0]).below h (Block.made wq 31 #[.slice none 0 0, .slice none 0 0, .slice none 0 0, .slice none 0 0, .slice none 0 0]).lt
                  refine (refstep_any (F := fun x => (x = g ∨ x = b) ∨ x = wq.heap.size) W0 ((HU.out.ru.more (F' := fun x => (x = g ∨ x = b) ∨ x = wq.heap.size) fun y hy hf => hf.resolve_right (by omega)).below hw0) (fun y hy => ?_) HU.out.lk.ok.loc (lo2_of HU.out.lk.ok) h1 h4 x).mono fun _ _ ⟨ua, uc, ut, ud, ul, gd, gc, he, hr, hb⟩ => ⟨ua, uc, ut, ud, ul, gd, gc, he, hr, hw0.trans (hb.mono hw0.size), hbk.below hb hbk.lt⟩
                  rcases hy with hy | hy
                  · exact (HU.out.call hw0).F y hy
                  · rw [hy]; exact hbk.lt)
                have HB0 := Lib.hid (Below.refl wq.heap.size wq)
                have HB1 := Lib.hid ((Below.refl wq.heap.size wq).drew)
                have HQ0 := Lib.hid (Below.refl ((wq.alloc (.cells #[.slice none 0 0, .slice none 0 0, .slice none 0 0, .slice none 0 0, .slice none 0 0] 31))).heap.size (wq.alloc (.cells #[.slice none 0 0, .slice none 0 0, .slice none 0 0, .slice none 0 0, .slice none 0 0] 31)))
                have HQ1 := Lib.hid ((Below.refl ((wq.alloc (.cells #[.slice none 0 0, .slice none 0 0, .slice none 0 0, .slice none 0 0, .slice none 0 0] 31))).heap.size (wq.alloc (.cells #[.slice none 0 0, .slice none 0 0, .slice none 0 0, .slice none 0 0, .slice none 0 0] 31))).drew)
                have hua := HU.out.call ((Below.refl wq.heap.size wq).alloc (Nat.le_refl _) (.cells #[.slice none 0 0, .slice none 0 0, .slice none 0 0, .slice none 0 0, .slice none 0 0] 31))
                obtain ⟨qa0, qa1, qa2, qa3, qa4⟩ := hua.q
                have hca := HC2.out _ hua.lk.below
                clear hua
                go_region_with (first | (go_at_call 9; (first | with_reducible refine (HRA.out _ HB0.out).mono ?_ | with_reducible refine (HRA.out _ HB1.out).mono ?_); rintro e w5 ⟨ua, uc, ut, ud, ul, gd, gc, rfl, hr, hb5⟩; obtain ⟨D0, d0, D1, d1, D2, d2, D3, d3, D4, d4, rfl, rfl, rfl, rfl, rfl⟩ := hr.forms; have HT5 := Lib.hid (told_A HU.out hb5 hr); clear hr hb5) | (go_at_call 9; (first | with_reducible refine (HRQ.out _ HQ0.out).mono ?_ | with_reducible refine (HRQ.out _ HQ1.out).mono ?_); rintro e w5 ⟨ua, uc, ut, ud, ul, gd, gc, rfl, hr, hb5, hk5⟩; obtain ⟨D0, d0, D1, d1, D2, d2, D3, d3, D4, d4, rfl, rfl, rfl, rfl, rfl⟩ := hr.forms; have HT5 := Lib.hid (told_B HU.out hb5 hk5 hr); have s0 := hk5.cell 0; have s1 := hk5.cell 1; have s2 := hk5.cell 2; have s3 := hk5.cell 3; have s4 := hk5.cell 4; have f0 := hk5.free 0; have f1 := hk5.free 1; have f2 := hk5.free 2; have f3 := hk5.free 3; have f4 := hk5.free 4; simp at s0 s1 s2 s3 s4; clear hr hb5 hk5))
                all_goals
                  go_wp2_with fail
                  go_meet
                  exact ⟨rfl, rfl, rfl, _, _, _, _, _, _, _, _, rfl, HT5.out⟩
              case rest =>
                obtain ⟨rfl, rfl, rfl, bv, ua, uc, ut, ud, ul, gd, gc, rfl, hbv, hu2, hr2⟩ := hcut
                obtain ⟨wx, rfl⟩ : ∃ wx : World, wx = wc := ⟨_, rfl⟩
                obtain ⟨D0, d0, D1, d1, D2, d2, D3, d3, D4, d4, rfl, rfl, rfl, rfl, rfl⟩ := hr2.forms
                obtain ⟨K2, hK2⟩ : ∃ K2, K2 = (stpS n s.v x).k := ⟨_, rfl⟩
                obtain ⟨m2, hm2⟩ : ∃ m2, m2 = (stpS n s.v x).m := ⟨_, rfl⟩
                rw [← hK2, ← hm2] at hr2 hbv
                have s0 := hbv.cell 0
                have s1 := hbv.cell 1
                have s2 := hbv.cell 2
                have s3 := hbv.cell 3
                have s4 := hbv.cell 4
                simp at s0 s1 s2 s3 s4
                obtain ⟨q0, q1, q2, q3, q4⟩ := hu2.q
                have f0 := hu2.box.free 0
                have f1 := hu2.box.free 1
                have f2 := hu2.box.free 2
                have f3 := hu2.box.free 3
                have f4 := hu2.box.free 4
                have HUS := Lib.hid (hu2.store hr2)
                clear hbv hu2 hr2 hK2 hm2
                go_upto_region 19 with fail
                clear s0 s1 s2 s3 s4 q0 q1 q2 q3 q4 f0 f1 f2 f3 f4
                have hus := HUS.out
                obtain ⟨V, hV⟩ : ∃ V, V = (((((wx.setCell ⟨b, 0, none⟩ (.slice D0 K2 d0)).setCell ⟨b, 1, none⟩ (.slice D1 m2 d1)).setCell ⟨b, 2, none⟩ (.slice D2 n d2)).setCell ⟨b, 3, none⟩ (.slice D3 n d3)).setCell ⟨b, 4, none⟩ (.slice D4 n d4)) := ⟨_, rfl⟩
                rw [← hV] at hus ⊢
                have HUV := Lib.hid hus
                clear hus hV HUS
                have hc0 := HC2.out V HUV.out.lk.below
                have HST := Lib.hid (stepT HUV.out.lk x)
                obtain ⟨D, hD⟩ : ∃ D, D = stpD n s.v x := ⟨_, rfl⟩
                obtain ⟨G, hG⟩ : ∃ G, G = stpG n s.v x := ⟨_, rfl⟩
                obtain ⟨EE, hEE⟩ : ∃ EE, EE = stpE n s.v x := ⟨_, rfl⟩
                rw [← hD, ← hG, ← hEE] at HST
                rw [← hD, ← hG, ← hEE]
                have hDD : (D != D) = false := by simp
                have hGG : ((G : Int) != (G : Int)) = false := by simp
                clear hD hG hEE
                go_wp2_with (first | (go_at_call 10; (with_reducible refine HST.out.mono ?_); rintro e w4 ⟨rfl, hl4, ht4⟩; have HU4 := Lib.hid (HUV.out.turn hl4 ht4); clear hl4 ht4) | (go_at_call 5; (with_reducible refine (errIs HG.out HU4.out.lk.below).mono ?_); rintro e w5 ⟨rfl, hb5⟩; have HU5 := Lib.hid (HU4.out.call hb5); clear hb5))
                go_meet
                exact ⟨gstp n k s x, _, _, _, _, _, _, _, by rw [gstp_v]; exact HU5.out⟩
            · have hbb : ((l.length : Int) == 1) = false := by simp; omega
              go_wp2_with fail
              go_meet
              by_cases hl2 : l.length = 2
              · exact HCUT.out.1 hl2
              · obtain rfl := HCUT.out.2 hl2
                exact ⟨s, _, _, _, _, _, _, _, HU.out.later (Nat.le_succ _)⟩
          case rest =>
            obtain ⟨s', va, vc, vt, vd, vl, fd, fc, hup⟩ := hcut
            obtain ⟨wx, rfl⟩ : ∃ wx : World, wx = wc := ⟨_, rfl⟩
            obtain ⟨B0, c0, B1, c1, B2, c2, B3, c3, B4, c4, rfl, rfl, rfl, rfl, rfl⟩ := hup.ru.forms
            have HU3 := Lib.hid hup
            clear hup
            go_wp2_with fail
            go_loopw [18] (fun i wr => ∃ q : Nat, q ≤ n ∧ i = .int .i64 q ∧ UP w wr g b n (k + 1) s' s'.v (.slice B0 s'.v.k c0) (.slice B1 s'.v.m c1) (.slice B2 n c2) (.slice B3 n c3) (.slice B4 n c4) fd fc) (fun i _ => n - (intOf i).toNat)
            case atStart => exact ⟨0, by omega, rfl, HU3.out⟩
            case round =>
              clear HU3
              obtain ⟨q, hq, rfl, hup⟩ := hrel
              have HU3 := Lib.hid hup
              clear hup
              by_cases hqn : q < n
              · have hqI : (q : Int) < n := by omega
                obtain ⟨bt, ot, rfl, _, _, hct⟩ := HU3.out.drew.ru.t.at_ hqn
                obtain ⟨a, ha⟩ : ∃ a, a = (s'.v.h q).a := ⟨_, rfl⟩
                have HA := Lib.hid (atL HU3.out.drew.lk q)
                rw [lkAt_in hqn, ← ha] at HA
                rw [← ha] at hct
                have haa : ((a : Int) != (a : Int)) = false := by simp
                have HS := Lib.hid (show (fun W : World => W.cell? ⟨b, 2, none⟩ = some (.slice (some ⟨bt, ot, none⟩) n c2) ∧ W.cell? ⟨bt, ot + q, none⟩ = some (.int .i64 (a : Int))) _ from ⟨HU3.out.drew.q.2.2.1, hct⟩)
                clear ha hct
                go_wp2_with fail
                go_region_held3 (fun W : World => W.cell? ⟨b, 2, none⟩ = some (.slice (some ⟨bt, ot, none⟩) n c2) ∧ W.cell? ⟨bt, ot + q, none⟩ = some (.int .i64 (a : Int))) (exact HS.out) ((go_at_call 11; (with_reducible refine HA.out.mono ?_); rintro e w9 ⟨rfl, rfl⟩))
                all_goals
                  go_wp2
                  go_roundw
                  case rel => exact ⟨q + 1, by omega, by go_num, HU3.out.drew⟩
                  case measure => simp [intOf]; omega
              · obtain rfl : q = n := by omega
                have hqI : ¬ (q : Int) < q := by omega
                go_wp2
                go_roundw
                case rel => exact ⟨k + 1, s', _, _, _, _, _, _, _, by omega, by go_num, by omega, HU3.out⟩
                case measure => simp [intOf]; omega
      · have hh : (k : Int) < steps.length ∧ ¬ (k : Int) < 200 ∨ ¬ (k : Int) < steps.length := by omega
        clear hgo
        obtain ⟨B0, c0, B1, c1, B2, c2, B3, c3, B4, c4, rfl, rfl, rfl, rfl, rfl⟩ := hup.ru.forms
        have HU := Lib.hid hup
        have ha1 : lkAt n s.v (-1) = 0 := by rw [lkAt, if_neg (by omega)]
        have ha2 : lkAt n s.v n = 0 := by rw [lkAt, if_neg (by omega)]
        have HA1 := Lib.hid ha1
        have HA2 := Lib.hid ha2
        have HS := Lib.hid (show (fun W : World => W.cell? ⟨b, 1, none⟩ = some (.slice B1 s.v.m c1)) wr.drew from hup.drew.q.2.1)
        have HOR := Lib.hid (orderL hup.drew.lk)
        have HFI := Lib.hid (show ∀ w3 u, Nums w3 w3.heap.size u (lkOrder s.v) → Below wr.heap.size wr w3 → Calls Tryd.prog 12 #[u, .slice B1 s.v.m c1] w3 fun e w' => e = .returned (.bool true) ∧ ∃ i, w' = w3.drewN i from fun w3 u hu hb =>
          (ints_any (lkOrder s.v) (lkOrder s.v) u _ _ _ w3 hu (hup.call hb).ru.c.nums).mono fun _ _ ⟨he, hx⟩ => ⟨he.trans (by rw [decide_eq_true rfl]), hx⟩)
        clear hup ha1 ha2
        rcases hh with ⟨hI, hJ⟩ | hI
        all_goals
          go_wp2_with fail
          go_region_held3 (fun W : World => W.cell? ⟨b, 1, none⟩ = some (.slice B1 s.v.m c1)) (first | exact HS.out | exact HS3.out | exact HS4.out) ((first | (go_at_call 13; (with_reducible refine HOR.out.mono ?_); rintro e w3 ⟨u, rfl, hu, hb, -⟩; have HB3 := Lib.hid (show Below wr.heap.size wr w3 from below_undrew hb); have HN3 := Lib.hid hu; have HU3 := Lib.hid (HU.out.call (show Below wr.heap.size wr w3 from below_undrew hb)); have HS3 := Lib.hid HU3.out.q.2.1; clear hu hb) | (go_at_call 12; (with_reducible refine (HFI.out _ _ HN3.out HB3.out).mono ?_); rintro e w4 ⟨rfl, i4, rfl⟩; have HU4 := Lib.hid (HU3.out.drewN i4); have HS4 := Lib.hid HU4.out.q.2.1) | (go_at_call 11; (with_reducible refine (atL HU4.out.lk (-1)).mono ?_); rw [HA1.out]; rintro e w9 ⟨rfl, rfl⟩) | (go_at_call 11; (with_reducible refine (atL HU4.out.lk n).mono ?_); rw [HA2.out]; rintro e w9 ⟨rfl, rfl⟩)))
          all_goals
            go_wp2
            go_ret
            exact ⟨rfl, HU4.out.lk.below⟩
  · have HZ := Lib.hid hz
    by_cases hz1 : z < 1
    · clear hz
      go_enter Tryd.func3, Tryd.ntmps3
      go_wp2_with (first | (go_at_call 4; refine (newBad (Below.refl _ _) z HZ.out).mono ?_; rintro e w2 ⟨rfl, hb⟩; have HB2 := Lib.hid hb; clear hb) | (go_at_call 5; refine (errorIs_any 1 1 w2 (HG.out.below HB2.out HG.out.lt)).mono ?_; rw [decide_eq_true rfl]; rintro e w3 ⟨rfl, hb⟩; have HB3 := Lib.hid hb; clear hb))
      go_ret
      exact ⟨rfl, HB2.out.trans (HB3.out.mono HB2.out.size)⟩
    · have hz4 : 4 < z := by omega
      clear hz
      go_enter Tryd.func3, Tryd.ntmps3
      go_wp2_with (first | (go_at_call 4; refine (newBad (Below.refl _ _) z HZ.out).mono ?_; rintro e w2 ⟨rfl, hb⟩; have HB2 := Lib.hid hb; clear hb) | (go_at_call 5; refine (errorIs_any 1 1 w2 (HG.out.below HB2.out HG.out.lt)).mono ?_; rw [decide_eq_true rfl]; rintro e w3 ⟨rfl, hb⟩; have HB3 := Lib.hid hb; clear hb))
      go_ret
      exact ⟨rfl, HB2.out.trans (HB3.out.mono HB2.out.size)⟩
end Go.Proofs.YtegplglokaoemaaDoor.Univ
