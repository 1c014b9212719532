/-
  The walk of latchgarthlaw4.DequePlays: it answers true, whatever the number of hands and the steps.
-/
import Derived.Test.YtbicckeoidijpaaDoorDequeReg30
import Derived.Test.YtbicckeoidijpaaDoorDqNew
import Derived.Test.YtbicckeoidijpaaDoorHeldZ
import Derived.Deep.RegionHeld3
import Derived.Deep.CutBlock
namespace Go.Proofs.YtbicckeoidijpaaDoor.Dq
open Go.RowKit Rf

theorem inL_any (z lo hi : Int) (b : Bool) (hb : decide (lo ≤ z ∧ z ≤ hi) = b) (w : World) : Calls Tryd.prog 7 #[.int .i64 z, .int .i64 lo, .int .i64 hi] w fun e w' => e = .returned (.bool b) ∧ w = w' := by
  rw [← hb]
  by_cases h0 : lo ≤ z
  · by_cases h1 : z ≤ hi
    · rw [decide_eq_true (show lo ≤ z ∧ z ≤ hi from ⟨h0, h1⟩)]
      go_enter Tryd.func7, Tryd.ntmps7
      go_wp2
      go_ret
      exact ⟨rfl, rfl⟩
    · rw [decide_eq_false (show ¬ (lo ≤ z ∧ z ≤ hi) from fun h => h1 h.2)]
      go_enter Tryd.func7, Tryd.ntmps7
      go_wp2
      go_ret
      exact ⟨rfl, rfl⟩
  · rw [decide_eq_false (show ¬ (lo ≤ z ∧ z ≤ hi) from fun h => h0 h.1)]
    go_enter Tryd.func7, Tryd.ntmps7
    go_wp2
    go_ret
    exact ⟨rfl, rfl⟩
theorem nums_pl {F : Nat → Prop} {W : World} {c : Nat} {A : Option Addr} {s : DV} (h : nm 8 s.pl F W (.slice A 8 c)) : Nums W W.heap.size (.slice A 8 c) (lkPlaces s) := by
  obtain ⟨b, o, rfl, hb, _, _⟩ := nm_at h (i := 0) (by omega)
  refine ⟨some ⟨b, o, none⟩, c, by rw [lkPlaces_len], by rw [lkPlaces_len]; omega, fun _ => ⟨b, o, rfl, hb, fun i z hz => ?_⟩⟩
  have hi : i < 8 := by have := (List.getElem?_eq_some_iff.1 hz).1; rwa [lkPlaces_len] at this
  obtain ⟨b2, o2, e2, _, _, hc⟩ := nm_at h hi
  injection e2 with e2
  injection e2 with e2 e3 _
  subst e2 e3
  rw [hc]
  have : (lkPlaces s)[i]? = some (s.pl i) := by simp [lkPlaces, hi]
  rw [this] at hz
  rw [← Option.some.inj hz]
theorem push_at {w W : World} {g n A : Nat} {s : DV} (h : LkAt w W g n s A) (y : Int) (h0 : 0 ≤ y) (h1 : y ≤ 1000) :
    Calls Tryd.prog 11 #[.pointer (some ⟨g, 0, none⟩), .int .i64 y] W fun e w' => e = .returned (errV 48 (sBegE s 0)) ∧ LkAt w w' g n (sBegS s 0 1 y) A ∧ Touch (fun k => k = g) W w' := by
  obtain ⟨z, rfl⟩ := Int.eq_ofNat_of_zero_le h0
  exact pushL h z (by omega)
theorem steal_at {w W : World} {g n A : Nat} {s : DV} (h : LkAt w W g n s A) {q : Nat} (h1 : 1 ≤ q) (hq : q < n) :
    Calls Tryd.prog 9 #[.pointer (some ⟨g, 0, none⟩), .int .i64 (q : Int)] W fun e w' => e = .returned (errV 48 (sBegE s q)) ∧ LkAt w w' g n (sBegS s q 9 0) A ∧ Touch (fun k => k = g) W w' := by
  have h2 := stealL h (q : Int)
  rwa [show sStlE n s (q : Int) = sBegE s q from if_pos (by omega), show sStlS n s (q : Int) = sBegS s q 9 0 from if_pos (by omega)] at h2
theorem steal_bad {w W : World} {g n A : Nat} {s : DV} (h : LkAt w W g n s A) (p : Int) (hp : ¬ (1 ≤ p ∧ p ≤ (n : Int) - 1)) :
    Calls Tryd.prog 9 #[.pointer (some ⟨g, 0, none⟩), .int .i64 p] W fun e w' => e = .returned (errV 48 1) ∧ LkAt w w' g n s A ∧ Touch (fun k => k = g) W w' := by
  have h2 := stealL h p
  rwa [show sStlE n s p = 1 from if_neg (by omega), show sStlS n s p = s from if_neg (by omega)] at h2
theorem beg0 {F : Nat → Prop} {n : Nat} {s : DV} {v0 v1 v2 v3 v4 v5 v6 : Value} (w : World) (h : RD F w n s v0 v1 v2 v3 v4 v5 v6) (hF : ∀ b, F b → b < w.heap.size) (h4 : n ≤ 4) (h1 : 1 ≤ n) (x : Int) :
    Calls Tryd.prog 8 #[.agg #[v0, v1, v2, v3, v4, v5, v6], .int .i64 0, .int .i64 1, .int .i64 x] w fun e w' => BgT F w w' n (sBegS s 0 1 x) (sBegE s 0) e := refbeg_any w h hF h4 (q := 0) (by omega) 1 x
theorem beg4 {F : Nat → Prop} {n : Nat} {s : DV} {v0 v1 v2 v3 v4 v5 v6 : Value} (w : World) (h : RD F w n s v0 v1 v2 v3 v4 v5 v6) (hF : ∀ b, F b → b < w.heap.size) (h4 : n ≤ 4) (h1 : 1 ≤ n) :
    Calls Tryd.prog 8 #[.agg #[v0, v1, v2, v3, v4, v5, v6], .int .i64 0, .int .i64 4, .int .i64 0] w fun e w' => BgT F w w' n (sBegS s 0 4 0) (sBegE s 0) e := refbeg_any w h hF h4 (q := 0) (by omega) 4 0
theorem beg9 {F : Nat → Prop} {n : Nat} {s : DV} {v0 v1 v2 v3 v4 v5 v6 : Value} (w : World) (h : RD F w n s v0 v1 v2 v3 v4 v5 v6) (hF : ∀ b, F b → b < w.heap.size) (h4 : n ≤ 4) {q : Nat} (hq : q < n) :
    Calls Tryd.prog 8 #[.agg #[v0, v1, v2, v3, v4, v5, v6], .int .i64 (q : Int), .int .i64 9, .int .i64 0] w fun e w' => BgT F w w' n (sBegS s q 9 0) (sBegE s q) e := refbeg_any w h hF h4 hq 9 0
set_option maxRecDepth 100000 in
set_option maxHeartbeats 8000000 in
theorem plays_any (z : Int) (sv : Value) (steps : List (List Int)) (w : World) (hn : Rws w w.heap.size sv steps) (hg : ErrVar w) :
    Calls Tryd.prog 3 #[.int .i64 z, sv] w fun e w' => e = .returned (.bool true) ∧ Below w.heap.size w w' := by
  obtain ⟨A, c, rfl, hlen, -⟩ := id hn
  have HN := Lib.hid hn
  have HG := Lib.hid hg
  clear hn hg
  by_cases hz : 1 ≤ z ∧ z ≤ 4
  · obtain ⟨n, rfl⟩ := Int.eq_ofNat_of_zero_le (show 0 ≤ z by omega)
    have h1 : 1 ≤ n := by omega
    have h4 : n ≤ 4 := by omega
    have h1I : ¬ (n : Int) < 1 := by omega
    have h4I : ¬ 4 < (n : Int) := by omega
    have hwn : IntKind.i64.wrap ((n : Int) - 1) = (n : Int) - 1 := IntWalk.i64_in _ (by omega)
    clear hz
    go_enter Tryd.func3, Tryd.ntmps3
    go_upto_region 7 with (first | (go_at_call 4; refine (newL (Below.refl _ _) h1 h4).mono ?_; rintro e w1 ⟨g, rfl, hl⟩; have HL := Lib.hid hl; clear hl) | (go_at_call 6; refine (refnew_any (F := fun x => x = g) n h1 h4 w1 (fun x hx => by rw [hx]; exact HL.out.lt)).mono ?_; rintro e w2 ⟨v0, v3, v4, v5, v6, rfl, hr, hb⟩; obtain ⟨-, -, A0, c0, A3, c3, A4, c4, A5, c5, A6, c6, rfl, rfl, rfl, rfl, rfl⟩ := hr.forms; have HR := Lib.hid hr; have HB := Lib.hid hb; clear hr hb))
    obtain ⟨b, hb⟩ : ∃ b, b = w2.heap.size := ⟨_, rfl⟩
    obtain ⟨V, hV⟩ : ∃ V, V = w2.alloc (.cells #[.slice A0 8 c0, .int .i64 0, .int .i64 0, .slice A3 n c3, .slice A4 n c4, .slice A5 n c5, .slice A6 n c6] 31) := ⟨_, rfl⟩
    have hbv : Below w2.heap.size w2 V := by rw [hV]; exact (Below.refl _ w2).alloc (Nat.le_refl _) _
    have hup : UP w V g b n dvnew 0 dvnew (.slice A0 8 c0) (.int .i64 0) (.int .i64 0) (.slice A3 n c3) (.slice A4 n c4) (.slice A5 n c5) (.slice A6 n c6) := by
      have hg1 := HL.out.lt
      have hs := HB.out.size
      refine ⟨HL.out.on (HB.out.trans (hbv.mono hs)) (Nat.le_refl _), by rw [hV, hb]; exact Block.made _ _ _, by omega, (HR.out.more (F' := fun x => x = g ∨ x = b) fun x hx h => by omega).below hbv⟩
    have HU0 := Lib.hid hup
    rw [← hV, ← hb]
    clear hV hb hup hbv HL HR HB
    go_wp2_with fail
    go_loopw [8] (fun i wr => ∃ (k : Nat) (s : DV) (v0 v1 v2 v3 v4 v5 v6 : Value), k ≤ steps.length ∧ i = .int .i64 k ∧ k ≤ 300 ∧ UP w wr g b n s k s v0 v1 v2 v3 v4 v5 v6) (fun i _ => steps.length - (intOf i).toNat)
    case atStart => exact ⟨0, dvnew, _, _, _, _, _, _, _, by omega, rfl, by omega, HU0.out⟩
    case round =>
      clear HU0
      obtain ⟨k, s, v0, v1, v2, v3, v4, v5, v6, hk, rfl, hk2, hup⟩ := hrel
      by_cases hgo : k < steps.length ∧ k < 300
      · have hI : (k : Int) < steps.length := by omega
        have h2I : (k : Int) < 300 := by omega
        obtain ⟨hlt, hk300⟩ := hgo
        obtain ⟨l, hx⟩ : ∃ l, steps[k]? = some l := ⟨steps[k], List.getElem?_eq_getElem hlt⟩
        obtain ⟨bs, os, rfl, A', c', hxc, hnl⟩ := (HN.out.below hup.lk.below (Nat.le_refl _)).at_ hx
        clear hx
        have HLX := Lib.hid (show ∀ W, Below w.heap.size w W → Nums W w.heap.size (.slice A' l.length c') l from fun W hb => hnl.keep fun p hp => (hb.cell hp).trans (hup.lk.below.cell hp).symm)
        have HU := Lib.hid hup
        clear hnl hup
        go_upto_region 11 with fail
        go_upto_if 55 with fail
        go_cut [] (fun wx => (l.length = 2 → ∃ (s' : DV) (v0 v1 v2 v3 v4 v5 v6 : Value), UP w wx g b n s' (k + 1) s' v0 v1 v2 v3 v4 v5 v6) ∧ (l.length ≠ 2 → wx = wr))
        case first =>
          by_cases hl2 : l.length = 2
          · obtain ⟨x, y, rfl⟩ : ∃ x y, l = [x, y] := by
              rcases row_case l with h | ⟨x, rfl⟩ | h
              · exact h
              · simp at hl2
              · exact absurd hl2 h.1
            obtain ⟨rfl, rfl, B0, d0, B3, d3, B4, d4, B5, d5, B6, d6, rfl, rfl, rfl, rfl, rfl⟩ := HU.out.rk.forms
            have hnl := HLX.out wr HU.out.lk.below
            obtain ⟨b1, o1, rfl, hbw, hc0⟩ := hnl.at_ (k := 0) rfl
            rw [Nat.add_zero] at hc0
            obtain ⟨b2, o2, e2, _, hc1⟩ := hnl.at_ (k := 1) rfl
            injection e2 with e2
            injection e2 with e2 e3 _
            subst e2 e3
            have HC2 := Lib.hid (show ∀ W, Below w.heap.size w W → W.cell? ⟨b1, o1, none⟩ = some (.int .i64 x) ∧ W.cell? ⟨b1, o1 + 1, none⟩ = some (.int .i64 y) from fun W hb => ⟨(hb.cell (p := ⟨b1, o1, none⟩) hbw).trans ((HU.out.lk.below.cell (p := ⟨b1, o1, none⟩) hbw).symm.trans hc0), (hb.cell (p := ⟨b1, o1 + 1, none⟩) hbw).trans ((HU.out.lk.below.cell (p := ⟨b1, o1 + 1, none⟩) hbw).symm.trans hc1)⟩)
            have hbb : ((([x, y] : List Int).length : Int) == 2) = true := rfl
            clear hnl hl2
            by_cases hx0 : x = 0
            · subst hx0
              by_cases hy : y < 0
              · skip
                obtain ⟨ST, hST⟩ : ∃ t, t = sBegS s 0 4 0 := ⟨_, rfl⟩
                obtain ⟨EE, hEE⟩ : ∃ t, t = sBegE s 0 := ⟨_, rfl⟩
                have hrb := beg4 wr HU.out.rk HU.out.F h4 h1
                rw [← hST, ← hEE] at hrb
                have HRB := Lib.hid hrb
                have HST := Lib.hid hST
                have HEE := Lib.hid hEE
                clear hrb hST hEE
                obtain ⟨p0, p1, p2, p3, p4, p5, p6⟩ := HU.out.q
                go_upto_region 22 with (first | (go_at_call 8; (with_reducible refine HRB.out.mono ?_); rintro e w5 ⟨y0, y1, y2, y3, y4, y5, y6, rfl, hr5, hb5⟩; obtain ⟨rfl, rfl, E0, f0, E3, f3, E4, f4, E5, f5, E6, f6, rfl, rfl, rfl, rfl, rfl⟩ := hr5.forms; have HR5 := Lib.hid hr5; have hu5 := HU.out.call hb5; obtain ⟨q0, q1, q2, q3, q4, q5, q6⟩ := hu5.q; have ff0 := hu5.box.free 0; have ff1 := hu5.box.free 1; have ff2 := hu5.box.free 2; have ff3 := hu5.box.free 3; have ff4 := hu5.box.free 4; have ff5 := hu5.box.free 5; have ff6 := hu5.box.free 6; have HU5 := Lib.hid hu5; clear hr5 hb5 hu5))
                clear p0 p1 p2 p3 p4 p5 p6
                clear q0 ff0 q1 ff1 q2 ff2 q3 ff3 q4 ff4 q5 ff5 q6 ff6
                have hus := HU5.out.store HR5.out
                obtain ⟨V, hV⟩ : ∃ V, V = (((((((w5.setCell ⟨b, 0, none⟩ (.slice E0 8 f0)).setCell ⟨b, 1, none⟩ (.int .i64 ((ST.T : Nat) : Int))).setCell ⟨b, 2, none⟩ (.int .i64 ST.B)).setCell ⟨b, 3, none⟩ (.slice E3 n f3)).setCell ⟨b, 4, none⟩ (.slice E4 n f4)).setCell ⟨b, 5, none⟩ (.slice E5 n f5)).setCell ⟨b, 6, none⟩ (.slice E6 n f6)) := ⟨_, rfl⟩
                rw [← hV] at hus ⊢
                have HUV := Lib.hid hus
                clear hus hV HU5 HR5
                have hop := popL HUV.out.lk
                rw [← HEE.out, ← HST.out] at hop
                have HOP := Lib.hid hop
                clear hop
                have hc2 := HC2.out V HUV.out.lk.below
                obtain ⟨hcx, hcy⟩ := hc2
                go_wp2_with (first | (go_at_call 10; (with_reducible refine HOP.out.mono ?_); rintro e w4 ⟨rfl, hl4, ht4⟩; have HU4 := Lib.hid (HUV.out.turn hl4 ht4); clear hl4 ht4) | (go_at_call 5; (with_reducible refine (errIs HG.out HU4.out.lk.below).mono ?_); rintro e w5 ⟨rfl, hb5⟩; have HU5 := Lib.hid (HU4.out.call hb5); clear hb5))
                go_meet
                exact ⟨fun _ => ⟨ST, _, _, _, _, _, _, _, HU5.out.older (by omega)⟩, fun h => absurd rfl h⟩
              · by_cases hbig : 1000 < y
                · have HOP := Lib.hid (pushFar HU.out.lk y (by omega))
                  have hyl : ¬ y ≤ 1000 := by omega
                  go_wp2_with (first | (go_at_call 11; (with_reducible refine HOP.out.mono ?_); rintro e w4 ⟨rfl, hl4, ht4⟩; have HU4 := Lib.hid (HU.out.turn hl4 ht4); clear hl4 ht4) | (go_at_call 5; (with_reducible refine (errIs HG.out HU4.out.lk.below).mono ?_); rintro e w5 ⟨rfl, hb5⟩; have HU5 := Lib.hid (HU4.out.call hb5); clear hb5))
                  go_meet
                  exact ⟨fun _ => ⟨s, _, _, _, _, _, _, _, HU5.out.older (by omega)⟩, fun h => absurd rfl h⟩
                · have hyl : y ≤ 1000 := by omega
                  go_upto_region 26 with fail
                  obtain ⟨ST, hST⟩ : ∃ t, t = sBegS s 0 1 y := ⟨_, rfl⟩
                  obtain ⟨EE, hEE⟩ : ∃ t, t = sBegE s 0 := ⟨_, rfl⟩
                  have hrb := beg0 wr.drew HU.out.drew.rk HU.out.drew.F h4 h1 y
                  rw [← hST, ← hEE] at hrb
                  have HRB := Lib.hid hrb
                  have HST := Lib.hid hST
                  have HEE := Lib.hid hEE
                  clear hrb hST hEE
                  refine wp_region_held_drew (S := (fun W : World => W.cell? ⟨b1, o1 + 1, none⟩ = some (.int .i64 y))) (by kernel_rfl) ?_ (fun hHeld => ?_)
                  · exact (HC2.out _ HU.out.drew.lk.below).2
                  refine wpAnyH_take (i := 1) (oi := { dst := some 97, op := Op.move (Operand.tmp 9), type := 29, pos := "law.go:201", after := #[], guard := none }) (v := Value.slice (some ⟨b1, o1, none⟩) ([0, y] : List Int).length c') rfl (by kernel_rfl) (by kernel_rfl) (by kernel_rfl) (fun _ _ _ h => h) (Or.inl ⟨by rfl, fun W hSw => by (try dsimp only at hSw); go_simp⟩) (by assumption) ?_
                  try simp only [Act.put, List.setIfInBounds_toArray, List.set_cons_zero, List.set_cons_succ]
                  refine wpAnyH_take (i := 2) (oi := { dst := some 98, op := Op.indexAddr 29 (Operand.tmp 97) (Operand.const (Value.int IntKind.i64 1)), type := 0, pos := "law.go:201", after := #[{ on := 1, ground := Ground.data }], guard := none }) (v := .pointer (some ⟨b1, o1 + 1, none⟩)) rfl (by kernel_rfl) (by kernel_rfl) (by kernel_rfl) (fun _ _ _ h => h) (Or.inl ⟨by rfl, fun W hSw => by (try dsimp only at hSw); go_simp⟩) (by assumption) ?_
                  try simp only [Act.put, List.setIfInBounds_toArray, List.set_cons_zero, List.set_cons_succ]
                  refine wpAnyH_take (i := 3) (oi := { dst := some 99, op := Op.load 3 (Operand.tmp 98), type := 3, pos := "law.go:201", after := #[{ on := 2, ground := Ground.data }], guard := none }) (v := .int .i64 y) rfl (by kernel_rfl) (by kernel_rfl) (by kernel_rfl) (fun _ _ _ h => h) (Or.inl ⟨by rfl, fun W hSw => by (try dsimp only at hSw); go_simp⟩) (by assumption) ?_
                  try simp only [Act.put, List.setIfInBounds_toArray, List.set_cons_zero, List.set_cons_succ]
                  obtain ⟨p0, p1, p2, p3, p4, p5, p6⟩ := HU.out.drew.q
                  refine held_any 0 (o := { dst := some 96, op := Op.load 31 (Operand.tmp 7), type := 31, pos := "law.go:201", after := #[], guard := none }) ?hr_0 ?ho_0 ?hw_0 (.agg #[.slice B0 8 d0, .int .i64 ((s.T : Nat) : Int), .int .i64 s.B, .slice B3 n d3, .slice B4 n d4, .slice B5 n d5, .slice B6 n d6]) wr.drew ?hy_0 hHeld ?h_0
                  case hr_0 => kernel_rfl
                  case ho_0 => rfl
                  case hw_0 => rfl
                  case hy_0 => (intro K hK; go_simp; exact hK)
                  try simp only [Act.put, List.setIfInBounds_toArray, List.set_cons_zero, List.set_cons_succ]
                  clear p0 p1 p2 p3 p4 p5 p6
                  refine held_call 4 (o := { dst := some 100, op := Op.call { callee := Callee.value (Operand.func 8), args := #[Operand.tmp 96, Operand.const (Value.int IntKind.i64 0), Operand.const (Value.int IntKind.i64 1), Operand.tmp 99], argTypes := #[31, 3, 3, 3] }, type := 34, pos := "law.go:201", after := #[{ on := 0, ground := Ground.data }, { on := 3, ground := Ground.data }], guard := none }) ?hr1 ?ho1 ?hw1 8 #[.agg #[.slice B0 8 d0, .int .i64 ((s.T : Nat) : Int), .int .i64 s.B, .slice B3 n d3, .slice B4 n d4, .slice B5 n d5, .slice B6 n d6], .int .i64 0, .int .i64 1, .int .i64 y] ?hx1 _ HRB.out ?h1
                  case hr1 => kernel_rfl
                  case ho1 => rfl
                  case hw1 => rfl
                  case hx1 => (go_simp; try rfl)
                  case h1 =>
                  rintro e w5 ⟨y0, y1, y2, y3, y4, y5, y6, rfl, hr5, hb5⟩
                  obtain ⟨rfl, rfl, E0, f0, E3, f3, E4, f4, E5, f5, E6, f6, rfl, rfl, rfl, rfl, rfl⟩ := hr5.forms
                  have HR5 := Lib.hid hr5
                  have hu5 := HU.out.drew.call hb5
                  have hHeld2 : (fun W : World => W.cell? ⟨b1, o1 + 1, none⟩ = some (.int .i64 y)) w5 := (HC2.out _ hu5.lk.below).2
                  obtain ⟨q0, q1, q2, q3, q4, q5, q6⟩ := hu5.q
                  have ff0 := hu5.box.free 0
                  have ff1 := hu5.box.free 1
                  have ff2 := hu5.box.free 2
                  have ff3 := hu5.box.free 3
                  have ff4 := hu5.box.free 4
                  have ff5 := hu5.box.free 5
                  have ff6 := hu5.box.free 6
                  have HU5 := Lib.hid hu5
                  clear hr5 hb5 hu5 hHeld
                  refine ⟨_, rfl, hHeld2, ?_⟩
                  try simp only [Act.put, List.setIfInBounds_toArray, List.set_cons_zero, List.set_cons_succ]
                  refine wpAnyH_take (i := 5) (oi := { dst := some 95, op := Op.move (Operand.tmp 100), type := 34, pos := "law.go:201", after := #[{ on := 4, ground := Ground.data }], guard := none }) (v := .tuple #[.agg #[.slice E0 8 f0, .int .i64 ((ST.T : Nat) : Int), .int .i64 ST.B, .slice E3 n f3, .slice E4 n f4, .slice E5 n f5, .slice E6 n f6], .int .i64 EE]) rfl (by kernel_rfl) (by kernel_rfl) (by kernel_rfl) (fun _ _ _ h => h) (Or.inl ⟨by rfl, fun W hSw => by (try dsimp only at hSw); go_simp⟩) (by assumption) ?_
                  try simp only [Act.put, List.setIfInBounds_toArray, List.set_cons_zero, List.set_cons_succ]
                  refine wpAnyH_take (i := 6) (oi := { dst := some 101, op := Op.extract (Operand.tmp 95) 0, type := 31, pos := "law.go:201", after := #[{ on := 5, ground := Ground.data }], guard := none }) (v := .agg #[.slice E0 8 f0, .int .i64 ((ST.T : Nat) : Int), .int .i64 ST.B, .slice E3 n f3, .slice E4 n f4, .slice E5 n f5, .slice E6 n f6]) rfl (by kernel_rfl) (by kernel_rfl) (by kernel_rfl) (fun _ _ _ h => h) (Or.inl ⟨by rfl, fun W hSw => by (try dsimp only at hSw); go_simp⟩) (by assumption) ?_
                  try simp only [Act.put, List.setIfInBounds_toArray, List.set_cons_zero, List.set_cons_succ]
                  refine wpAnyH_take (i := 7) (oi := { dst := some 102, op := Op.extract (Operand.tmp 95) 1, type := 3, pos := "law.go:201", after := #[{ on := 5, ground := Ground.data }, { on := 8, ground := Ground.gcOnly Departure.lateStores }], guard := none }) (v := .int .i64 EE) rfl (by kernel_rfl) (by kernel_rfl) (by kernel_rfl) (fun _ _ _ h => h) (Or.inl ⟨by rfl, fun W hSw => by (try dsimp only at hSw); go_simp⟩) (by assumption) ?_
                  try simp only [Act.put, List.setIfInBounds_toArray, List.set_cons_zero, List.set_cons_succ]
                  have hus := HU5.out.store HR5.out
                  have hHeld3 := (HC2.out _ hus.lk.below).2
                  refine held_any 8 (o := { dst := none, op := Op.store 31 (Operand.tmp 7) (Operand.tmp 101), type := 0, pos := "law.go:201", after := #[{ on := 6, ground := Ground.data }, { on := 4, ground := Ground.chain }, { on := 0, ground := Ground.phase }, { on := 1, ground := Ground.phase }, { on := 2, ground := Ground.phase }, { on := 3, ground := Ground.phase }, { on := 4, ground := Ground.phase }, { on := 5, ground := Ground.phase }, { on := 6, ground := Ground.phase }, { on := 7, ground := Ground.textOnly Departure.lateStores }], guard := none }) ?hr_8 ?ho_8 ?hw_8 undef (((((((w5.setCell ⟨b, 0, none⟩ (.slice E0 8 f0)).setCell ⟨b, 1, none⟩ (.int .i64 ((ST.T : Nat) : Int))).setCell ⟨b, 2, none⟩ (.int .i64 ST.B)).setCell ⟨b, 3, none⟩ (.slice E3 n f3)).setCell ⟨b, 4, none⟩ (.slice E4 n f4)).setCell ⟨b, 5, none⟩ (.slice E5 n f5)).setCell ⟨b, 6, none⟩ (.slice E6 n f6)) ?hy_8 hHeld3 ?h_8
                  case hr_8 => kernel_rfl
                  case ho_8 => rfl
                  case hw_8 => rfl
                  case hy_8 => (clear hus hHeld3; intro K hK; go_simp; exact hK)
                  clear hHeld2 q0 ff0 q1 ff1 q2 ff2 q3 ff3 q4 ff4 q5 ff5 q6 ff6
                  try simp only [Act.put]
                  refine wpAnyH_take (i := 9) (oi := { dst := some 11, op := Op.assign (Operand.tmp 102), type := 3, pos := "law.go:201", after := #[{ on := 7, ground := Ground.data }, { on := 8, ground := Ground.chain }, { on := 0, ground := Ground.phase }, { on := 1, ground := Ground.phase }, { on := 2, ground := Ground.phase }, { on := 3, ground := Ground.phase }, { on := 4, ground := Ground.phase }, { on := 5, ground := Ground.phase }, { on := 6, ground := Ground.phase }, { on := 7, ground := Ground.phase }, { on := 8, ground := Ground.phase }], guard := none }) (v := .int .i64 EE) rfl (by kernel_rfl) (by kernel_rfl) (by kernel_rfl) (fun _ _ _ h => h) (Or.inl ⟨by rfl, fun W hSw => by (try dsimp only at hSw); go_simp⟩) (by assumption) ?_
                  try simp only [Act.put, List.setIfInBounds_toArray, List.set_cons_zero, List.set_cons_succ]
                  clear hHeld3
                  refine wpAnyH_done (by kernel_rfl) ?_ _
                  obtain ⟨V, hV⟩ : ∃ V, V = (((((((w5.setCell ⟨b, 0, none⟩ (.slice E0 8 f0)).setCell ⟨b, 1, none⟩ (.int .i64 ((ST.T : Nat) : Int))).setCell ⟨b, 2, none⟩ (.int .i64 ST.B)).setCell ⟨b, 3, none⟩ (.slice E3 n f3)).setCell ⟨b, 4, none⟩ (.slice E4 n f4)).setCell ⟨b, 5, none⟩ (.slice E5 n f5)).setCell ⟨b, 6, none⟩ (.slice E6 n f6)) := ⟨_, rfl⟩
                  rw [← hV] at hus ⊢
                  have HUV := Lib.hid hus
                  clear hus hV HU5 HR5
                  have hop := push_at HUV.out.lk y (by omega) hyl
                  rw [← HEE.out, ← HST.out] at hop
                  have HOP := Lib.hid hop
                  clear hop
                  have hc2 := HC2.out V HUV.out.lk.below
                  obtain ⟨hcx, hcy⟩ := hc2
                  go_wp2_with (first | (go_at_call 11; (with_reducible refine HOP.out.mono ?_); rintro e w4 ⟨rfl, hl4, ht4⟩; have HU4 := Lib.hid (HUV.out.turn hl4 ht4); clear hl4 ht4) | (go_at_call 5; (with_reducible refine (errIs HG.out HU4.out.lk.below).mono ?_); rintro e w5 ⟨rfl, hb5⟩; have HU5 := Lib.hid (HU4.out.call hb5); clear hb5))
                  go_meet
                  exact ⟨fun _ => ⟨ST, _, _, _, _, _, _, _, HU5.out.older (by omega)⟩, fun h => absurd rfl h⟩
            · have hx0b : (x != 0) = true := by simp [hx0]
              by_cases hin : 1 ≤ x ∧ x ≤ (n : Int) - 1
              · have HIN := Lib.hid (inL_any x 1 ((n : Int) - 1) true (decide_eq_true hin))
                obtain ⟨q, rfl⟩ := Int.eq_ofNat_of_zero_le (show 0 ≤ x by omega)
                have hqn : q < n := by omega
                have hq1 : 1 ≤ q := by omega
                clear hin hx0
                obtain ⟨ST, hST⟩ : ∃ t, t = sBegS s q 9 0 := ⟨_, rfl⟩
                obtain ⟨EE, hEE⟩ : ∃ t, t = sBegE s q := ⟨_, rfl⟩
                have hrb := beg9 wr HU.out.rk HU.out.F h4 hqn
                rw [← hST, ← hEE] at hrb
                have HRB := Lib.hid hrb
                have HST := Lib.hid hST
                have HEE := Lib.hid hEE
                clear hrb hST hEE
                obtain ⟨p0, p1, p2, p3, p4, p5, p6⟩ := HU.out.q
                go_upto_region 18 with (first | (go_at_call 7; (with_reducible refine (HIN.out _).mono ?_); rintro e wi ⟨rfl, rfl⟩) | (go_at_call 8; (with_reducible refine HRB.out.mono ?_); rintro e w5 ⟨y0, y1, y2, y3, y4, y5, y6, rfl, hr5, hb5⟩; obtain ⟨rfl, rfl, E0, f0, E3, f3, E4, f4, E5, f5, E6, f6, rfl, rfl, rfl, rfl, rfl⟩ := hr5.forms; have HR5 := Lib.hid hr5; have hu5 := HU.out.call hb5; obtain ⟨q0, q1, q2, q3, q4, q5, q6⟩ := hu5.q; have ff0 := hu5.box.free 0; have ff1 := hu5.box.free 1; have ff2 := hu5.box.free 2; have ff3 := hu5.box.free 3; have ff4 := hu5.box.free 4; have ff5 := hu5.box.free 5; have ff6 := hu5.box.free 6; have HU5 := Lib.hid hu5; clear hr5 hb5 hu5))
                clear p0 p1 p2 p3 p4 p5 p6
                clear q0 ff0 q1 ff1 q2 ff2 q3 ff3 q4 ff4 q5 ff5 q6 ff6
                have hus := HU5.out.store HR5.out
                obtain ⟨V, hV⟩ : ∃ V, V = (((((((w5.setCell ⟨b, 0, none⟩ (.slice E0 8 f0)).setCell ⟨b, 1, none⟩ (.int .i64 ((ST.T : Nat) : Int))).setCell ⟨b, 2, none⟩ (.int .i64 ST.B)).setCell ⟨b, 3, none⟩ (.slice E3 n f3)).setCell ⟨b, 4, none⟩ (.slice E4 n f4)).setCell ⟨b, 5, none⟩ (.slice E5 n f5)).setCell ⟨b, 6, none⟩ (.slice E6 n f6)) := ⟨_, rfl⟩
                rw [← hV] at hus ⊢
                have HUV := Lib.hid hus
                clear hus hV HU5 HR5
                have hop := steal_at HUV.out.lk hq1 hqn
                rw [← HEE.out, ← HST.out] at hop
                have HOP := Lib.hid hop
                clear hop
                have hc2 := HC2.out V HUV.out.lk.below
                obtain ⟨hcx, hcy⟩ := hc2
                go_wp2_with (first | (go_at_call 9; (with_reducible refine HOP.out.mono ?_); rintro e w4 ⟨rfl, hl4, ht4⟩; have HU4 := Lib.hid (HUV.out.turn hl4 ht4); clear hl4 ht4) | (go_at_call 5; (with_reducible refine (errIs HG.out HU4.out.lk.below).mono ?_); rintro e w5 ⟨rfl, hb5⟩; have HU5 := Lib.hid (HU4.out.call hb5); clear hb5))
                go_meet
                exact ⟨fun _ => ⟨ST, _, _, _, _, _, _, _, HU5.out.older (by omega)⟩, fun h => absurd rfl h⟩
              · have HIN := Lib.hid (inL_any x 1 ((n : Int) - 1) false (decide_eq_false hin))
                have HOP := Lib.hid (steal_bad HU.out.lk x hin)
                clear hin hx0
                go_wp2_with (first | (go_at_call 7; (with_reducible refine (HIN.out _).mono ?_); rintro e wi ⟨rfl, rfl⟩) | (go_at_call 9; (with_reducible refine HOP.out.mono ?_); rintro e w4 ⟨rfl, hl4, ht4⟩; have HU4 := Lib.hid (HU.out.turn hl4 ht4); clear hl4 ht4) | (go_at_call 5; (with_reducible refine (errIs HG.out HU4.out.lk.below).mono ?_); rintro e w5 ⟨rfl, hb5⟩; have HU5 := Lib.hid (HU4.out.call hb5); clear hb5))
                go_meet
                exact ⟨fun _ => ⟨s, _, _, _, _, _, _, _, HU5.out.older (by omega)⟩, fun h => absurd rfl h⟩
          · have hbb : ((l.length : Int) == 2) = false := by simp; omega
            go_wp2_with fail
            go_meet
            exact ⟨fun h => absurd h hl2, fun _ => rfl⟩
        case rest =>
          obtain ⟨wq, rfl⟩ : ∃ wq : World, wq = wc := ⟨_, rfl⟩
          have HCUT := Lib.hid hcut
          clear hcut hxc
          go_upto_if 113 with fail
          go_cut [] (fun wx => ∃ (s' : DV) (v0 v1 v2 v3 v4 v5 v6 : Value), UP w wx g b n s' (k + 1) s' v0 v1 v2 v3 v4 v5 v6)
          case first =>
            by_cases hl1 : l.length = 1
            · obtain rfl := HCUT.out.2 (by omega)
              obtain ⟨x, rfl⟩ : ∃ x, l = [x] := by
                rcases row_case l with ⟨x, y, rfl⟩ | h | h
                · simp at hl1
                · exact h
                · exact absurd hl1 h.2
              obtain ⟨rfl, rfl, B0, d0, B3, d3, B4, d4, B5, d5, B6, d6, rfl, rfl, rfl, rfl, rfl⟩ := HU.out.rk.forms
              have hnl := HLX.out _ HU.out.lk.below
              obtain ⟨b1, o1, rfl, hbw, hc0⟩ := hnl.at_ (k := 0) rfl
              rw [Nat.add_zero] at hc0
              have HC2 := Lib.hid (show ∀ W, Below w.heap.size w W → W.cell? ⟨b1, o1, none⟩ = some (.int .i64 x) from fun W hb => (hb.cell (p := ⟨b1, o1, none⟩) hbw).trans ((HU.out.lk.below.cell (p := ⟨b1, o1, none⟩) hbw).symm.trans hc0))
              have hbb : ((([x] : List Int).length : Int) == 1) = true := rfl
              clear hnl hl1 HCUT
              go_upto_region 30 with fail
              go_cut [12, 13, 14, 15] (fun t14 t15 t16 t17 wx => t15 = .bool (sStpD n s x) ∧ t16 = .int .i64 (sStpG n s x) ∧ t17 = .int .i64 (sStpE n s x) ∧ ∃ (bv : Nat) (y0 y1 y2 y3 y4 y5 y6 : Value), t14 = .pointer (some ⟨bv, 0, none⟩) ∧ Block wx bv 31 #[y0, y1, y2, y3, y4, y5, y6] ∧ UP w wx g b n s k s (.slice B0 8 d0) (.int .i64 ((s.T : Nat) : Int)) (.int .i64 s.B) (.slice B3 n d3) (.slice B4 n d4) (.slice B5 n d5) (.slice B6 n d6) ∧ RD (fun z => z = g ∨ z = b) wx n (sStpS n s x) y0 y1 y2 y3 y4 y5 y6)
              case first =>
                refine reg30_any HU HC2 (by omega) h4 _ _ _ _ _ _ _ _ _ _ _ _ _ _ _ _ _ _ _ _ _ _ _ _ _ _ _ _ _ _ _ _ _ _ _ _ _ _ _ _ _ _ _ _ _ _ _ _ _ _ _ _ _ _ _ _ _ _ _ _ _ _ _ _ _ _ _ _ _ _ _ _ _ _ _ _ _ _ _ _ _ _ _ _ _ _ _ _ _ _ _ _ _ _ _ _ _ _ _ _ _ _ _ _ _ _ _ _ _ _ _ _ _ _ _ _ _ _ _ _ _ _ _ _ _ _ _ _ _ _ _ _ _ _ _ _ _ _ _ _ _ _ _ _ _ _ _ _ _ _ _ _ _ _ _ _ _ _ _ _ _ _ _ _ _ _ _ _ _ _ _ _ _ _ _ _ _ _ _ _ _ _ _ _ _ _ _ _ _ _ _ _ _ _ _ _ _ (Lib.hid ?_) (fun _ _ d _ _ h => (by cases d <;> exact h))
                intro x0 x1 x2 x3 x4 x5 x6 x7 x8 x9 W bv y0 y1 y2 y3 y4 y5 y6 hb9 hu9 hr9
                go_wp2_with fail
                go_meet
                exact ⟨rfl, rfl, rfl, _, _, _, _, _, _, _, _, rfl, hb9, hu9, hr9⟩
              case rest =>
                obtain ⟨rfl, rfl, rfl, bv, y0, y1, y2, y3, y4, y5, y6, rfl, hbv, hu2, hr2⟩ := hcut
                obtain ⟨wx, rfl⟩ : ∃ wx : World, wx = wc := ⟨_, rfl⟩
                obtain ⟨rfl, rfl, E0, f0, E3, f3, E4, f4, E5, f5, E6, f6, rfl, rfl, rfl, rfl, rfl⟩ := hr2.forms
                obtain ⟨ST, hST⟩ : ∃ t, t = sStpS n s x := ⟨_, rfl⟩
                rw [← hST] at hbv hr2
                have HST := Lib.hid hST
                clear hST
                have s0 := hbv.cell 0
                have s1 := hbv.cell 1
                have s2 := hbv.cell 2
                have s3 := hbv.cell 3
                have s4 := hbv.cell 4
                have s5 := hbv.cell 5
                have s6 := hbv.cell 6
                simp at s0 s1 s2 s3 s4 s5 s6
                obtain ⟨q0, q1, q2, q3, q4, q5, q6⟩ := hu2.q
                have ff0 := hu2.box.free 0
                have ff1 := hu2.box.free 1
                have ff2 := hu2.box.free 2
                have ff3 := hu2.box.free 3
                have ff4 := hu2.box.free 4
                have ff5 := hu2.box.free 5
                have ff6 := hu2.box.free 6
                have HUS := Lib.hid (hu2.store hr2)
                clear hbv hu2 hr2
                go_upto_region 32 with fail
                clear s0 q0 ff0 s1 q1 ff1 s2 q2 ff2 s3 q3 ff3 s4 q4 ff4 s5 q5 ff5 s6 q6 ff6
                have hus := HUS.out
                obtain ⟨V, hV⟩ : ∃ V, V = (((((((wx.setCell ⟨b, 0, none⟩ (.slice E0 8 f0)).setCell ⟨b, 1, none⟩ (.int .i64 ((ST.T : Nat) : Int))).setCell ⟨b, 2, none⟩ (.int .i64 ST.B)).setCell ⟨b, 3, none⟩ (.slice E3 n f3)).setCell ⟨b, 4, none⟩ (.slice E4 n f4)).setCell ⟨b, 5, none⟩ (.slice E5 n f5)).setCell ⟨b, 6, none⟩ (.slice E6 n f6)) := ⟨_, rfl⟩
                rw [← hV] at hus ⊢
                have HUV := Lib.hid hus
                clear hus hV HUS
                have hc0 := HC2.out V HUV.out.lk.below
                have HSP := Lib.hid (stepL HUV.out.lk (by omega) x)
                obtain ⟨D, hD⟩ : ∃ D, D = sStpD n s x := ⟨_, rfl⟩
                obtain ⟨G, hG⟩ : ∃ G, G = sStpG n s x := ⟨_, rfl⟩
                obtain ⟨EE, hEE⟩ : ∃ EE, EE = sStpE n s x := ⟨_, rfl⟩
                rw [← hD, ← hG, ← hEE, ← HST.out] at HSP
                rw [← hD, ← hG, ← hEE]
                have hDD : (D != D) = false := by simp
                have hGG : (G != G) = false := by simp
                clear hD hG hEE
                go_wp2_with (first | (go_at_call 13; (with_reducible refine HSP.out.mono ?_); rintro e w4 ⟨rfl, hl4, ht4⟩; have HU4 := Lib.hid (HUV.out.turn hl4 ht4); clear hl4 ht4) | (go_at_call 5; (with_reducible refine (errIs HG.out HU4.out.lk.below).mono ?_); rintro e w5 ⟨rfl, hb5⟩; have HU5 := Lib.hid (HU4.out.call hb5); clear hb5))
                go_meet
                exact ⟨ST, _, _, _, _, _, _, _, HU5.out⟩
            · have hbb : ((l.length : Int) == 1) = false := by simp; omega
              go_wp2_with fail
              go_meet
              by_cases hl2 : l.length = 2
              · exact HCUT.out.1 hl2
              · obtain rfl := HCUT.out.2 hl2
                exact ⟨s, _, _, _, _, _, _, _, HU.out.older (by omega)⟩
          case rest =>
            obtain ⟨s', v0, v1, v2, v3, v4, v5, v6, hup⟩ := hcut
            obtain ⟨wx, rfl⟩ : ∃ wx : World, wx = wc := ⟨_, rfl⟩
            obtain ⟨rfl, rfl, B0, d0, B3, d3, B4, d4, B5, d5, B6, d6, rfl, rfl, rfl, rfl, rfl⟩ := hup.rk.forms
            have HU3 := Lib.hid hup
            have HEN := Lib.hid (endsL hup.lk)
            clear hup HU
            go_upto_region 36 with (go_at_call 14; refine HEN.out.mono ?_; rintro e w9 ⟨rfl, i9, rfl⟩)
            have hud := HU3.out.drewN i9
            obtain ⟨WT, hWT⟩ : ∃ W, W = wx.drewN i9 := ⟨_, rfl⟩
            rw [← hWT] at hud ⊢
            have HU := Lib.hid hud
            clear hud hWT HU3 HEN
            obtain ⟨TH, hTH⟩ : ∃ t : Int, t = ((s'.T : Nat) : Int) := ⟨_, rfl⟩
            obtain ⟨TL, hTL⟩ : ∃ t : Int, t = s'.B := ⟨_, rfl⟩
            have HTT := Lib.hid (show TH = ((s'.T : Nat) : Int) ∧ TL = s'.B from ⟨hTH, hTL⟩)
            have HQ : Hid (∀ W, UP w W g b n s' (k + 1) s' (.slice B0 8 d0) (.int .i64 ((s'.T : Nat) : Int)) (.int .i64 s'.B) (.slice B3 n d3) (.slice B4 n d4) (.slice B5 n d5) (.slice B6 n d6) → (fun W : World => W.cell? ⟨b, 0, none⟩ = some (.slice B0 8 d0) ∧ W.cell? ⟨b, 1, none⟩ = some (.int .i64 TH) ∧ W.cell? ⟨b, 2, none⟩ = some (.int .i64 TL)) W) := Lib.hid (fun W h => ⟨h.q.1, by rw [hTH]; exact h.q.2.1, by rw [hTL]; exact h.q.2.2.1⟩)
            rw [← hTH, ← hTL]
            have hA : (TH != TH) = false := by simp
            have hB : (TL != TL) = false := by simp
            have HS := Lib.hid (HQ.out _ HU.out.drew)
            have HPL := Lib.hid (placesL HU.out.drew.lk)
            have HFI := Lib.hid (show ∀ w3 u, Nums w3 w3.heap.size u (lkPlaces s') → Below WT.heap.size WT w3 → Calls Tryd.prog 15 #[u, .slice B0 8 d0] w3 fun e w' => e = .returned (.bool true) ∧ ∃ i, w' = w3.drewN i from fun w3 u hu hb3 =>
              (ints_any (lkPlaces s') (lkPlaces s') u _ _ _ w3 hu (nums_pl (HU.out.call hb3).rk.p0)).mono fun _ _ ⟨he, hx⟩ => ⟨he.trans (by rw [decide_eq_true rfl]), hx⟩)
            clear hTH hTL
            go_region_held3 (fun W : World => W.cell? ⟨b, 0, none⟩ = some (.slice B0 8 d0) ∧ W.cell? ⟨b, 1, none⟩ = some (.int .i64 TH) ∧ W.cell? ⟨b, 2, none⟩ = some (.int .i64 TL)) (first | exact HS.out | exact HS3.out | exact HS4.out) ((first | (go_at_call 16; (with_reducible refine HPL.out.mono ?_); rintro e w3 ⟨u, rfl, hu, hb, -⟩; have HB3 := Lib.hid (show Below WT.heap.size WT w3 from below_undrew hb); have HN3 := Lib.hid hu; have HU3 := Lib.hid (HU.out.call (show Below WT.heap.size WT w3 from below_undrew hb)); have HS3 := Lib.hid (HQ.out _ HU3.out); clear hu hb) | (go_at_call 15; (with_reducible refine (HFI.out _ _ HN3.out HB3.out).mono ?_); rintro e w4 ⟨rfl, i4, rfl⟩; have HU4 := Lib.hid (HU3.out.drewN i4); have HS4 := Lib.hid (HQ.out _ HU4.out))))
            all_goals
              have hu4 := HU4.out
              clear HU HU3 HS HS3 HS4 HPL HFI HQ HN3 HB3 HTT
              have HU4 := Lib.hid hu4
              clear hu4
              go_wp2_with fail
              go_loopw [21] (fun i wr => ∃ q : Nat, q ≤ n ∧ i = .int .i64 q ∧ UP w wr g b n s' (k + 1) s' (.slice B0 8 d0) (.int .i64 ((s'.T : Nat) : Int)) (.int .i64 s'.B) (.slice B3 n d3) (.slice B4 n d4) (.slice B5 n d5) (.slice B6 n d6)) (fun i _ => n - (intOf i).toNat)
              case atStart => exact ⟨0, by omega, rfl, HU4.out⟩
              case round =>
                clear HU4
                obtain ⟨q, hq, rfl, hup⟩ := hrel
                have HU3 := Lib.hid hup
                clear hup
                by_cases hqn : q < n
                · have hqI : (q : Int) < n := by omega
                  obtain ⟨bt, ot, rfl, _, _, hct⟩ := nm_at HU3.out.drew.rk.p3 hqn
                  obtain ⟨a, ha⟩ : ∃ a, a = s'.a q := ⟨_, rfl⟩
                  have HA := Lib.hid (atL HU3.out.drew.lk q)
                  rw [sAt_in hqn, ← ha] at HA
                  rw [← ha] at hct
                  have haa : ((a : Int) != (a : Int)) = false := by simp
                  have HS := Lib.hid (show (fun W : World => W.cell? ⟨b, 3, none⟩ = some (.slice (some ⟨bt, ot, none⟩) n d3) ∧ W.cell? ⟨bt, ot + q, none⟩ = some (.int .i64 (a : Int))) _ from ⟨HU3.out.drew.box.cell 3, hct⟩)
                  clear ha hct
                  go_wp2_with fail
                  go_region_held3 (fun W : World => W.cell? ⟨b, 3, none⟩ = some (.slice (some ⟨bt, ot, none⟩) n d3) ∧ W.cell? ⟨bt, ot + q, none⟩ = some (.int .i64 (a : Int))) (exact HS.out) ((go_at_call 17; (with_reducible refine HA.out.mono ?_); rintro e w9 ⟨rfl, rfl⟩))
                  all_goals
                    go_wp2
                    go_roundw
                    case rel => exact ⟨q + 1, by omega, by go_num, HU3.out.drew⟩
                    case measure => simp [intOf]; omega
                · obtain rfl : q = n := by omega
                  have hqI : ¬ (q : Int) < q := by omega
                  go_wp2
                  go_roundw
                  case rel => exact ⟨k + 1, s', _, _, _, _, _, _, _, by omega, by go_num, by omega, HU3.out⟩
                  case measure => simp [intOf]; omega
      · have hh : (k : Int) < steps.length ∧ ¬ (k : Int) < 300 ∨ ¬ (k : Int) < steps.length := by omega
        clear hgo
        have HU := Lib.hid hup
        have HA1 := Lib.hid (show sAt n s (-1) = 0 from by rw [sAt, if_neg (by omega)])
        have HA2 := Lib.hid (show sAt n s n = 0 from by rw [sAt, if_neg (by omega)])
        have HST := Lib.hid (steal_bad hup.lk 0 (by omega))
        clear hup
        rcases hh with ⟨hI, hJ⟩ | hI
        all_goals
          go_wp2_with (first | (go_at_call 17; (with_reducible refine (atL HU.out.lk (-1)).mono ?_); rw [HA1.out]; rintro e w9 ⟨rfl, rfl⟩) | (go_at_call 17; (with_reducible refine (atL HU.out.lk n).mono ?_); rw [HA2.out]; rintro e w9 ⟨rfl, rfl⟩) | (go_at_call 9; (with_reducible refine HST.out.mono ?_); rintro e w4 ⟨rfl, hl4, ht4⟩; have HL4 := Lib.hid hl4; clear hl4 ht4) | (go_at_call 5; (with_reducible refine (errIs HG.out HL4.out.below).mono ?_); rintro e w5 ⟨rfl, hb5⟩; have HB5 := Lib.hid hb5; clear hb5))
          go_ret
          exact ⟨rfl, HL4.out.below.trans (HB5.out.mono HL4.out.below.size)⟩
  · have HZ := Lib.hid hz
    by_cases hz1 : z < 1
    all_goals
      have hz4 : z < 1 ∨ 4 < z := by omega
      clear hz
      have hz5 : ¬ z < 1 → 4 < z := fun h => by omega
      try have hz6 := hz5 hz1
      clear hz5 hz4
      go_enter Tryd.func3, Tryd.ntmps3
      go_wp2_with (first | (go_at_call 4; refine (newBad (Below.refl _ _) z HZ.out).mono ?_; rintro e w2 ⟨rfl, hb⟩; have HB2 := Lib.hid hb; clear hb) | (go_at_call 5; refine (errorIs_any 1 1 w2 (HG.out.below HB2.out HG.out.lt)).mono ?_; rw [decide_eq_true rfl]; rintro e w3 ⟨rfl, hb⟩; have HB3 := Lib.hid hb; clear hb))
      go_ret
      exact ⟨rfl, HB2.out.trans (HB3.out.mono HB2.out.size)⟩
end Go.Proofs.YtbicckeoidijpaaDoor.Dq
