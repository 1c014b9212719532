/-
  The walk of latchgarthlaw3.FifoOrder: it answers true, whatever the number of hands and the steps.
-/
import Derived.Test.YtnplhjbbkccdnaaFifoFact
import Derived.Test.YtnplhjbbkccdnaaFifoOrd
import Derived.Test.YtnplhjbbkccdnaaRws
import Derived.Deep.DeepCutAuto
import Derived.Deep.CutBlock
namespace Go.Proofs.Ytnplhjbbkccdnaa.Fif
open Go.RowKit

/-- The queue, and what the law writes down of it in three rows in blocks from base on. -/
structure OG (w W : World) (g n : Nat) (s : FG) (vl : Nat → Int) (base : Nat) (v0 v1 v2 : Value) (x0 x1 x2 : List Int) : Prop where
  lk : LkAt w W g n s vl
  rg : RG W base (at4 v0 v1 v2 (.slice none 0 0)) (at4 x0 x1 x2 [])
  gb : g < base
  bs : base ≤ W.heap.size
section
variable {w W W' : World} {g n base : Nat} {s s' : FG} {vl vl' : Nat → Int} {v0 v1 v2 : Value} {x0 x1 x2 : List Int}
theorem OG.turn (k : OG w W g n s vl base v0 v1 v2 x0 x1 x2) (hl : LkAt w W' g n s' vl') (ht : Touch (fun k => k = g) W W') : OG w W' g n s' vl' base v0 v1 v2 x0 x1 x2 :=
  ⟨hl, k.rg.touch ht fun i hi => by have := k.gb; omega, k.gb, Nat.le_trans k.bs ht.size⟩
theorem OG.app0 (k : OG w W g n s vl base v0 v1 v2 x0 x1 x2) {o : Obj} {q m cap : Nat} {z : Int} {ys : List Value} (hown : W'.ownsRow base 3 1 (.slice (some ⟨q, 0, none⟩) m cap) m ys) (hn : m = x0.length + 1) (hy : ys = x0.map (Value.int .i64) ++ [.int .i64 z])
    (hg : (W.alloc o).grownBy W' v0.ownBlock) (hat : v0.ownBlock = some q ∨ q = W.heap.size + 1) : OG w W' g n s vl base (.slice (some ⟨q, 0, none⟩) m cap) v1 v2 (x0 ++ [z]) x1 x2 := by
  obtain ⟨h1, h2⟩ := k.rg.app0 hown hn hy hg hat
  have hO : ∀ b, v0.ownBlock = some b → base ≤ b := fun b hb => (k.rg.lt (i := 0) (by omega) hb).1
  exact ⟨k.lk.touch h2 fun b hb => by have := hO b hb; have := k.lk.new; have := k.gb; omega, h1, k.gb, Nat.le_trans k.bs h2.size⟩
theorem OG.own0 (k : OG w W g n s vl base v0 v1 v2 x0 x1 x2) (o : Obj) {K : Nat} (hK : x0.length = K) : (W.alloc o).ownsRow base 3 1 v0 K (x0.map (Value.int .i64)) := by
  have := (k.rg.alloc o).own 0 (by omega)
  rw [← hK]; exact this
theorem OG.form0 (k : OG w W g n s vl base v0 v1 v2 x0 x1 x2) {K : Nat} (hK : x0.length = K) : ∃ A c, v0 = .slice A K c := by
  subst hK; obtain ⟨A, c, e, _⟩ := k.rg.form (i := 0) (by omega); exact ⟨A, c, e⟩
theorem OG.app1 (k : OG w W g n s vl base v0 v1 v2 x0 x1 x2) {o : Obj} {q m cap : Nat} {z : Int} {ys : List Value} (hown : W'.ownsRow base 3 1 (.slice (some ⟨q, 0, none⟩) m cap) m ys) (hn : m = x1.length + 1) (hy : ys = x1.map (Value.int .i64) ++ [.int .i64 z])
    (hg : (W.alloc o).grownBy W' v1.ownBlock) (hat : v1.ownBlock = some q ∨ q = W.heap.size + 1) : OG w W' g n s vl base v0 (.slice (some ⟨q, 0, none⟩) m cap) v2 x0 (x1 ++ [z]) x2 := by
  obtain ⟨h1, h2⟩ := k.rg.app1 hown hn hy hg hat
  have hO : ∀ b, v1.ownBlock = some b → base ≤ b := fun b hb => (k.rg.lt (i := 1) (by omega) hb).1
  exact ⟨k.lk.touch h2 fun b hb => by have := hO b hb; have := k.lk.new; have := k.gb; omega, h1, k.gb, Nat.le_trans k.bs h2.size⟩
theorem OG.own1 (k : OG w W g n s vl base v0 v1 v2 x0 x1 x2) (o : Obj) {K : Nat} (hK : x1.length = K) : (W.alloc o).ownsRow base 3 1 v1 K (x1.map (Value.int .i64)) := by
  have := (k.rg.alloc o).own 1 (by omega)
  rw [← hK]; exact this
theorem OG.form1 (k : OG w W g n s vl base v0 v1 v2 x0 x1 x2) {K : Nat} (hK : x1.length = K) : ∃ A c, v1 = .slice A K c := by
  subst hK; obtain ⟨A, c, e, _⟩ := k.rg.form (i := 1) (by omega); exact ⟨A, c, e⟩
theorem OG.app2 (k : OG w W g n s vl base v0 v1 v2 x0 x1 x2) {o : Obj} {q m cap : Nat} {z : Int} {ys : List Value} (hown : W'.ownsRow base 3 1 (.slice (some ⟨q, 0, none⟩) m cap) m ys) (hn : m = x2.length + 1) (hy : ys = x2.map (Value.int .i64) ++ [.int .i64 z])
    (hg : (W.alloc o).grownBy W' v2.ownBlock) (hat : v2.ownBlock = some q ∨ q = W.heap.size + 1) : OG w W' g n s vl base v0 v1 (.slice (some ⟨q, 0, none⟩) m cap) x0 x1 (x2 ++ [z]) := by
  obtain ⟨h1, h2⟩ := k.rg.app2 hown hn hy hg hat
  have hO : ∀ b, v2.ownBlock = some b → base ≤ b := fun b hb => (k.rg.lt (i := 2) (by omega) hb).1
  exact ⟨k.lk.touch h2 fun b hb => by have := hO b hb; have := k.lk.new; have := k.gb; omega, h1, k.gb, Nat.le_trans k.bs h2.size⟩
theorem OG.own2 (k : OG w W g n s vl base v0 v1 v2 x0 x1 x2) (o : Obj) {K : Nat} (hK : x2.length = K) : (W.alloc o).ownsRow base 3 1 v2 K (x2.map (Value.int .i64)) := by
  have := (k.rg.alloc o).own 2 (by omega)
  rw [← hK]; exact this
theorem OG.form2 (k : OG w W g n s vl base v0 v1 v2 x0 x1 x2) {K : Nat} (hK : x2.length = K) : ∃ A c, v2 = .slice A K c := by
  subst hK; obtain ⟨A, c, e, _⟩ := k.rg.form (i := 2) (by omega); exact ⟨A, c, e⟩
end
/-- What is read at the end: three rows. -/
structure Ends (w wr : World) (B G Wh : List Int) (a b c : Value) : Prop where
  below : Below w.heap.size w wr
  rb : Nums wr wr.heap.size a B
  rg : Nums wr wr.heap.size b G
  rw : Nums wr wr.heap.size c Wh
theorem Ends.drewN {w wr : World} {B G Wh : List Int} {a b c : Value} (h : Ends w wr B G Wh a b c) (i : Nat) : Ends w (wr.drewN i) B G Wh a b c := ⟨below_drewN h.below i, h.rb, h.rg, h.rw⟩

set_option maxHeartbeats 8000000 in
set_option maxRecDepth 100000 in
theorem order_law (z : Int) (sv : Value) (steps : List (List Int)) (w : World) (hn : Rws w w.heap.size sv steps) :
    Calls Try.prog 3 #[.int .i64 z, sv] w fun e w' => e = .returned (.bool true) ∧ Below w.heap.size w w' := by
  obtain ⟨A, c, rfl, hlen, -⟩ := id hn
  have HN := Lib.hid hn
  clear hn
  obtain ⟨i0, hi0, hz0, hz1, hz2⟩ := info_parts Tint_info
  by_cases hz : 1 ≤ z ∧ z ≤ 4
  · obtain ⟨n, rfl⟩ := Int.eq_ofNat_of_zero_le (show 0 ≤ z by omega)
    have h1 : 1 ≤ n := by omega
    have h4 : n ≤ 4 := by omega
    have hwn : IntKind.i64.wrap ((n : Int) - 1) = (n : Int) - 1 := IntWalk.i64_in _ (by omega)
    clear hz
    go_enter Try.func3, Try.ntmps3
    go_upto_region 9 with (first | (go_at_call 4; refine (fact_any _).mono ?_; rintro e w1 ⟨rfl, hb⟩; have HB := Lib.hid hb; clear hb) | (go_at_call 5; refine (newL HB.out h1 h4).mono ?_; rintro e w2 ⟨g, rfl, hl⟩; have HL := Lib.hid hl; clear hl))
    obtain ⟨base, hbase⟩ : ∃ base, base = w2.heap.size := ⟨_, rfl⟩
    have HO0 := Lib.hid (show OG w w2 g n fgnew (fun _ => 0) base (.slice none 0 0) (.slice none 0 0) (.slice none 0 0) [] [] [] from ⟨HL.out, RG.nil _ _, by rw [hbase]; exact HL.out.lt, by omega⟩)
    clear HL HB hbase
    go_upto_block 0 with fail
    go_cut [8, 9, 10, 11] (fun u0 u1 u2 u3 wx => ∃ (B G Wh : List Int), u0 = .int .i64 ((B.length : Nat) : Int) ∧ Ends w wx B G Wh u1 u2 u3 ∧ Ord B G Wh)
    case first =>
      go_wp2_with fail
      go_loopw [8, 9, 10, 11, 12] (fun u0 u1 u2 u3 i wr => ∃ (k : Nat) (s : FG) (vl : Nat → Int) (B G Wh : List Int), k ≤ steps.length ∧ i = .int .i64 k ∧ k ≤ 400 ∧ u0 = .int .i64 ((B.length : Nat) : Int) ∧ OG w wr g n s vl base u1 u2 u3 B G Wh ∧ OR n s vl B G Wh) (fun _ _ _ _ i _ => steps.length - (intOf i).toNat)
      case atStart => exact ⟨0, fgnew, _, [], [], [], by omega, rfl, by omega, rfl, HO0.out, OR.new n⟩
      case round =>
        clear HO0
        obtain ⟨k, s, vl, B, G, Wh, hk, rfl, hk2, rfl, hog, hor⟩ := hrel
        have HO := Lib.hid hog
        have HR := Lib.hid hor
        obtain ⟨K, hK⟩ : ∃ K, B.length = K := ⟨_, rfl⟩
        obtain ⟨M, hM⟩ : ∃ M, G.length = M := ⟨_, rfl⟩
        have hMW : Wh.length = M := by rw [hor.w, ← hor.lenG]; exact hM
        rw [hK]
        have HK := Lib.hid hK
        have HM := Lib.hid hM
        have HMW := Lib.hid hMW
        obtain ⟨A0, c0, rfl⟩ := hog.form0 hK
        obtain ⟨A1, c1, rfl⟩ := hog.form1 hM
        obtain ⟨A2, c2, rfl⟩ := hog.form2 hMW
        have hK40 : K < 40 := by have h1 := hor.lenB; have h2 := hor.k; have h3 := hor.ok.k1; omega
        have hM40 : M < 40 := by have h1 := hor.i40; have h2 := hor.k; have h3 := hor.lenG; omega
        clear hog hor hK hM hMW
        by_cases hgo : k < steps.length ∧ k < 400
        · have hI : (k : Int) < steps.length := by omega
          have h2I : (k : Int) < 400 := by omega
          obtain ⟨hlt, hk200⟩ := hgo
          obtain ⟨l, hx⟩ : ∃ l, steps[k]? = some l := ⟨steps[k], List.getElem?_eq_getElem hlt⟩
          obtain ⟨b, o, rfl, A', c', hxc, hnl⟩ := (HN.out.below HO.out.lk.below (Nat.le_refl _)).at_ hx
          clear hx
          rcases row_case l with ⟨x, y, rfl⟩ | ⟨x, rfl⟩ | ⟨hl2, hl1⟩
          · obtain ⟨b1, o1, rfl, hbw, hc0⟩ := hnl.at_ (k := 0) rfl
            rw [Nat.add_zero] at hc0
            obtain ⟨b2, o2, e2, _, hc1⟩ := hnl.at_ (k := 1) rfl
            injection e2 with e2
            injection e2 with e2 e3 _
            subst e2 e3
            have hxc : wr.cell? ⟨b, o + k, none⟩ = some (.slice (some ⟨b1, o1, none⟩) 2 c') := hxc
            have hbg : b1 ≠ g := by have := HO.out.lk.new; omega
            have hbs : b1 < wr.heap.size := by have := HO.out.lk.below.size; omega
            have HX := Lib.hid (fun w' (ht : Touch (fun k => k = g) wr w') => (show w'.cell? ⟨b1, o1, none⟩ = some (.int .i64 x) from (ht.cell (p := ⟨b1, o1, none⟩) hbs hbg).trans hc0))
            clear hnl hbg hbs hbw
            by_cases hp : 0 ≤ x ∧ x ≤ (n : Int) - 1
            · have HIN := Lib.hid (fun W => inB_any x 0 ((n : Int) - 1) true (decide_eq_true hp) W)
              obtain ⟨p, rfl⟩ := Int.eq_ofNat_of_zero_le hp.1
              clear hp
              by_cases hy : y < 0
              · have HG := Lib.hid (getL HO.out.lk p y hy)
                have HR2 := Lib.hid (show OR n (sBegS n s p y) (sBegV n s vl p y) B G Wh from by
                  unfold sBegS sBegV
                  split
                  · exact HR.out.get _
                  · exact HR.out)
                go_wp2_with (first | (go_at_call 6; (with_reducible refine (HIN.out _).mono ?_); rintro e w5 ⟨rfl, rfl⟩) | (go_at_call 7; (with_reducible refine HG.out.mono ?_); rintro e w4 ⟨rfl, hl4, ht4⟩; have HO4 := Lib.hid (HO.out.turn hl4 ht4); clear hl4 ht4))
                go_roundw
                case rel => exact ⟨k + 1, _, _, B, G, Wh, by omega, by go_num, by omega, by rw [HK.out], HO4.out, HR2.out⟩
                case measure => simp [intOf]; omega
              · have HP := Lib.hid (putL HO.out.lk p (K : Int) (by omega) (by omega))
                by_cases he : sBegE n s p (K : Int) = 0
                · obtain ⟨q, eq, hq, ha, h40⟩ := sBeg_some he
                  obtain rfl : p = q := by omega
                  have hs : sBegS n s p (K : Int) = fgput s p := by unfold sBegS; rw [if_pos he, if_neg (by omega)]; rfl
                  have hv : sBegV n s vl p (K : Int) = rput vl s.v.k (K : Int) := by unfold sBegV; rw [if_pos he, if_neg (by omega)]
                  rw [he, hs, hv, errV_zero] at HP
                  have HR2 := Lib.hid (show OR n (fgput s p) (rput vl s.v.k (K : Int)) (B ++ [(p : Int)]) G Wh from by
                    have h1 := HR.out.put p (by have := HR.out.k; have := h40 (by omega); omega)
                    rwa [HK.out] at h1)
                  have hwK : IntKind.i64.wrap ((K : Int) + 1) = ((K + 1 : Nat) : Int) := IntWalk.i64_in _ (by omega)
                  clear he eq ha h40 hs hv
                  go_wp2_with (first | (go_at_call 6; (with_reducible refine (HIN.out _).mono ?_); rintro e w5 ⟨rfl, rfl⟩) | (go_at_call 8; (with_reducible refine HP.out.mono ?_); rintro e w4 ⟨rfl, hl4, ht4⟩; have HO4 := Lib.hid (HO.out.turn hl4 ht4); have hd0 := HX.out w4 ht4; clear hl4 ht4) | (at_builtin; refine wpList_append_lies _ rfl (.tmp 76) (.tmp 80) 29 rfl base 3 i0 (.int .i64 0) 1 8 Try.underlying29 hi0 hz0 hz1 hz2 rfl (by omega) (.slice A0 K c0) K (B.map (Value.int .i64)) rfl (HO4.out.own0 _ HK.out) ⟨w4.heap.size, 0, none⟩ 1 1 [.int .i64 (p : Int)] rfl (by rfl) (one_cell (by simp)) (by intro u hu; simp at hu; subst hu; rfl) (by omega) (by unfold maxLen; omega) (by omega) (by have := HO4.out.bs; simp; omega) (w4.heap.size + 1) (by simp) ?_; intro q0 d0 w5 hown hgrow hat hlt; have HO5 := Lib.hid (HO4.out.app0 hown (congrArg (· + 1) HK.out.symm) rfl hgrow hat); clear hown hgrow hat hlt))
                  go_roundw
                  case rel => exact ⟨k + 1, _, _, B ++ [(p : Int)], G, Wh, by omega, by go_num, by omega, by rw [List.length_append, HK.out]; rfl, HO5.out, HR2.out⟩
                  case measure => simp [intOf]; omega
                · have hs : sBegS n s p (K : Int) = s := by unfold sBegS; rw [if_neg he]
                  have hv : sBegV n s vl p (K : Int) = vl := by unfold sBegV; rw [if_neg he]
                  rw [hs, hv] at HP
                  obtain he2 | he2 | he2 : sBegE n s p (K : Int) = 1 ∨ sBegE n s p (K : Int) = 7 ∨ sBegE n s p (K : Int) = 4 := by have := sBeg_err (n := n) (s := s) (p := p) (x := (K : Int)); omega
                  all_goals
                    rw [he2] at HP
                    first | rw [errV_one] at HP | rw [errV_seven] at HP | rw [errV_four] at HP
                    clear he he2 hs hv
                    go_wp2_with (first | (go_at_call 6; (with_reducible refine (HIN.out _).mono ?_); rintro e w5 ⟨rfl, rfl⟩) | (go_at_call 8; (with_reducible refine HP.out.mono ?_); rintro e w4 ⟨rfl, hl4, ht4⟩; have HO4 := Lib.hid (HO.out.turn hl4 ht4); clear hl4 ht4))
                    go_roundw
                    case rel => exact ⟨k + 1, _, _, B, G, Wh, by omega, by go_num, by omega, by rw [HK.out], HO4.out, HR.out⟩
                    case measure => simp [intOf]; omega
            · have HIN := Lib.hid (fun W => inB_any x 0 ((n : Int) - 1) false (decide_eq_false hp) W)
              clear hp
              go_wp2_with (go_at_call 6; (with_reducible refine (HIN.out _).mono ?_); rintro e w5 ⟨rfl, rfl⟩)
              go_roundw
              case rel => exact ⟨k + 1, _, _, B, G, Wh, by omega, by go_num, by omega, by rw [HK.out], HO.out, HR.out⟩
              case measure => simp [intOf]; omega
          · obtain ⟨b1, o1, rfl, hbw, hc0⟩ := hnl.at_ (k := 0) rfl
            rw [Nat.add_zero] at hc0
            have hxc : wr.cell? ⟨b, o + k, none⟩ = some (.slice (some ⟨b1, o1, none⟩) 1 c') := hxc
            have hbg : b1 ≠ g := by have := HO.out.lk.new; omega
            have hbs : b1 < wr.heap.size := by have := HO.out.lk.below.size; omega
            have HX := Lib.hid (fun w' (ht : Touch (fun k => k = g) wr w') => (show w'.cell? ⟨b1, o1, none⟩ = some (.int .i64 x) from (ht.cell (p := ⟨b1, o1, none⟩) hbs hbg).trans hc0))
            have HBW := Lib.hid (show b1 < w.heap.size ∧ w.heap.size ≤ g from ⟨hbw, HO.out.lk.new⟩)
            clear hnl hbg hbs hbw
            have HS := Lib.hid (stepL HO.out.lk x)
            by_cases he : sStpE n s x = 0
            · obtain ⟨p, rfl, hpn, ha⟩ := sStp_some he
              have hs : sStpS n s p = fgstp s p := by unfold sStpS; rw [if_pos he]; rfl
              have hd : sStpD n s p = sfin s.v p := by unfold sStpD; rw [if_pos he]; rfl
              have hg : sStpG n s vl p = stold s.v vl p := by unfold sStpG; rw [if_pos he]; rfl
              rw [he, hs, hd, hg, errV_zero] at HS
              rcases HR.out.step hpn ha with ⟨zz, f1, f2, f3, f4⟩ | ⟨f1, f4⟩
              · rw [f1, f2] at HS
                have HR2 := Lib.hid (f4 (p : Int))
                clear he ha hs hd hg f1 f2 f4
                go_upto_region 23 with (first | (go_at_call 9; (with_reducible refine HS.out.mono ?_); rintro e w4 ⟨rfl, hl4, ht4⟩; have HO4 := Lib.hid (HO.out.turn hl4 ht4); have hd0 := HX.out w4 ht4; have hbs4 : b1 < w4.heap.size := lt_of_cell hd0; clear hl4 ht4) | (at_builtin; refine wpList_append_lies _ rfl (.tmp 105) (.tmp 107) 29 rfl base 3 i0 (.int .i64 0) 1 8 Try.underlying29 hi0 hz0 hz1 hz2 rfl (by omega) (.slice A1 M c1) M (G.map (Value.int .i64)) rfl (HO4.out.own1 _ HM.out) ⟨w4.heap.size, 0, none⟩ 1 1 [.int .i64 zz] rfl (by rfl) (one_cell (by simp)) (by intro u hu; simp at hu; subst hu; rfl) (by omega) (by unfold maxLen; omega) (by omega) (by have := HO4.out.bs; simp; omega) (w4.heap.size + 1) (by simp) ?_; intro q1 d1 w5 hown hgrow hat hlt; have HO5 := Lib.hid (HO4.out.app1 hown (congrArg (· + 1) HM.out.symm) rfl hgrow hat); have HD5 := Lib.hid (show w5.cell? ⟨b1, o1, none⟩ = some (.int .i64 (p : Int)) from ((((Touch.refl (fun k => base ≤ k) w4).alloc _).grown hgrow fun k hk => Or.inl (HO4.out.rg.lt (i := 1) (by omega) hk).1).cell (p := ⟨b1, o1, none⟩) hbs4 (by have h1 := HBW.out; have h2 := HO4.out.gb; show ¬ base ≤ b1; omega)).trans hd0); clear hown hgrow hat hlt))
                have hd5 : w5.cell? ⟨b1, o1, none⟩ = some (.int .i64 (p : Int)) := HD5.out
                clear hd0 hxc hc0
                go_wp2_with (at_builtin; refine wpList_append_lies _ rfl (.tmp 109) (.tmp 113) 29 rfl base 3 i0 (.int .i64 0) 1 8 Try.underlying29 hi0 hz0 hz1 hz2 rfl (by omega) (.slice A2 M c2) M (Wh.map (Value.int .i64)) rfl (HO5.out.own2 _ HMW.out) ⟨w5.heap.size, 0, none⟩ 1 1 [.int .i64 (p : Int)] rfl (by rfl) (one_cell (by simp)) (by intro u hu; simp at hu; subst hu; rfl) (by omega) (by unfold maxLen; omega) (by omega) (by have := HO5.out.bs; simp; omega) (w5.heap.size + 1) (by simp) ?_; intro q2 d2 w6 hown hgrow hat hlt; have HO6 := Lib.hid (HO5.out.app2 hown (congrArg (· + 1) HMW.out.symm) rfl hgrow hat); clear hown hgrow hat hlt)
                go_roundw
                case rel => exact ⟨k + 1, _, _, B, G ++ [zz], Wh ++ [(p : Int)], by omega, by go_num, by omega, by rw [HK.out], HO6.out, HR2.out⟩
                case measure => simp [intOf]; omega
              · have HR2 := Lib.hid f4
                obtain ⟨zz, hzz⟩ : ∃ z, z = stold s.v vl p := ⟨_, rfl⟩
                obtain ⟨D, hD⟩ : ∃ D, D = sfin s.v p := ⟨_, rfl⟩
                rw [← hzz, ← hD] at HS f1
                clear he ha hs hd hg f4 hzz hD
                rcases f1 with rfl | rfl
                · go_wp2_with (go_at_call 9; (with_reducible refine HS.out.mono ?_); rintro e w4 ⟨rfl, hl4, ht4⟩; have HO4 := Lib.hid (HO.out.turn hl4 ht4); clear hl4 ht4)
                  go_roundw
                  case rel => exact ⟨k + 1, _, _, B, G, Wh, by omega, by go_num, by omega, by rw [HK.out], HO4.out, HR2.out⟩
                  case measure => simp [intOf]; omega
                · cases D
                  all_goals
                    go_wp2_with (go_at_call 9; (with_reducible refine HS.out.mono ?_); rintro e w4 ⟨rfl, hl4, ht4⟩; have HO4 := Lib.hid (HO.out.turn hl4 ht4); clear hl4 ht4)
                    go_roundw
                    case rel => exact ⟨k + 1, _, _, B, G, Wh, by omega, by go_num, by omega, by rw [HK.out], HO4.out, HR2.out⟩
                    case measure => simp [intOf]; omega
            · have hs : sStpS n s x = s := by unfold sStpS; rw [if_neg he]
              have hd : sStpD n s x = false := by unfold sStpD; rw [if_neg he]
              have hg : sStpG n s vl x = 0 := by unfold sStpG; rw [if_neg he]
              rw [hs, hd, hg] at HS
              obtain he2 | he2 : sStpE n s x = 1 ∨ sStpE n s x = 7 := by have := sStp_err (n := n) (s := s) (p := x); omega
              all_goals
                rw [he2] at HS
                first | rw [errV_one] at HS | rw [errV_seven] at HS
                clear he he2 hs hd hg
                go_wp2_with (go_at_call 9; (with_reducible refine HS.out.mono ?_); rintro e w4 ⟨rfl, hl4, ht4⟩; have HO4 := Lib.hid (HO.out.turn hl4 ht4); clear hl4 ht4)
                go_roundw
                case rel => exact ⟨k + 1, _, _, B, G, Wh, by omega, by go_num, by omega, by rw [HK.out], HO4.out, HR.out⟩
                case measure => simp [intOf]; omega
          · have hi2 : ((l.length : Int) == 2) = false := by simp; omega
            have hi1 : ((l.length : Int) == 1) = false := by simp; omega
            clear hl2 hl1 hnl
            go_wp2
            go_roundw
            case rel => exact ⟨k + 1, _, _, B, G, Wh, by omega, by go_num, by omega, by rw [HK.out], HO.out, HR.out⟩
            case measure => simp [intOf]; omega
        · have hh : (k : Int) < steps.length ∧ ¬ (k : Int) < 400 ∨ ¬ (k : Int) < steps.length := by omega
          clear hgo
          have HF := Lib.hid HR.out.fin
          have HE := Lib.hid (show Ends w wr B G Wh (.slice A0 K c0) (.slice A1 M c1) (.slice A2 M c2) from ⟨HO.out.lk.below, HO.out.rg.nums (i := 0) (by omega) (by show B.length ≤ _; have := HK.out; omega), HO.out.rg.nums (i := 1) (by omega) (by show G.length ≤ _; have := HM.out; omega), HO.out.rg.nums (i := 2) (by omega) (by show Wh.length ≤ _; have := HMW.out; omega)⟩)
          rcases hh with ⟨hI, hJ⟩ | hI
          all_goals
            go_wp2_with fail
            go_meet
            exact ⟨B, G, Wh, by rw [HK.out], HE.out, HF.out⟩
    case rest =>
      clear HO0
      obtain ⟨B, G, Wh, rfl, hends, hord⟩ := hcut
      obtain ⟨wr, rfl⟩ : ∃ wr : World, wr = wc := ⟨_, rfl⟩
      have HE := Lib.hid hends
      have HO := Lib.hid hord
      obtain ⟨A0, c0, rfl, -⟩ := hends.rb
      obtain ⟨A1, c1, rfl, -⟩ := hends.rg
      obtain ⟨A2, c2, rfl, -⟩ := hends.rw
      obtain ⟨K, hK⟩ : ∃ K, K = B.length := ⟨_, rfl⟩
      obtain ⟨M, hM⟩ : ∃ M, M = G.length := ⟨_, rfl⟩
      have hb40 := hord.b40
      have hg40 := hord.g40
      rw [show Wh.length = M from hord.w.trans hM.symm] at HE ⊢
      rw [← hK] at HE hb40 ⊢
      rw [← hM] at HE hg40 ⊢
      have hwK : IntKind.i64.wrap ((K : Int) - 1) = (K : Int) - 1 := IntWalk.i64_in _ (by omega)
      have HK := Lib.hid hK
      have HM := Lib.hid hM
      clear hends hord hK hM
      go_wp2_with fail
      go_loopw [17] (fun i wr => ∃ x : Nat, x ≤ M ∧ i = .int .i64 x ∧ Ends w wr B G Wh (.slice A0 K c0) (.slice A1 M c1) (.slice A2 M c2)) (fun i _ => M - (intOf i).toNat)
      case atStart => exact ⟨0, by omega, rfl, HE.out⟩
      case round =>
        clear HE
        obtain ⟨x, hx, rfl, he⟩ := hrel
        have HE := Lib.hid he
        clear he
        by_cases hxM : x < M
        · have hI : (x : Int) < M := by omega
          obtain ⟨zx, hzx⟩ : ∃ z, G[x]? = some z := ⟨G[x]'(by have := HM.out; omega), List.getElem?_eq_getElem _⟩
          obtain ⟨a, rfl, ha⟩ := HO.out.in' x zx hzx
          obtain ⟨b1, o1, rfl, _, hc1⟩ := HE.out.rg.at_ hzx
          have HIN := Lib.hid (fun W => inB_any (a : Int) 0 ((K : Int) - 1) true (decide_eq_true (by have := HK.out; omega)) W)
          have haK : a < K := by have := HK.out; omega
          have HA := Lib.hid hzx
          clear ha hzx
          go_wp2_with (go_at_call 6; (with_reducible refine (HIN.out _).mono ?_); rintro e w5 ⟨rfl, rfl⟩)
          clear hc1
          go_loopw [18] (fun i wr => ∃ y : Nat, y ≤ x ∧ i = .int .i64 y ∧ Ends w wr B G Wh (.slice A0 K c0) (.slice (some ⟨b1, o1, none⟩) M c1) (.slice A2 M c2)) (fun i _ => x - (intOf i).toNat)
          case atStart => exact ⟨0, by omega, rfl, HE.out⟩
          case round =>
            clear HE
            obtain ⟨y, hy, rfl, he⟩ := hrel
            have HE := Lib.hid he
            clear he
            by_cases hyx : y < x
            · have hJ : (y : Int) < x := by omega
              have hyM : (y : Int) < M := by omega
              obtain ⟨zy, hzy⟩ : ∃ z, G[y]? = some z := ⟨G[y]'(by have := HM.out; omega), List.getElem?_eq_getElem _⟩
              obtain ⟨b, rfl, hb⟩ := HO.out.in' y zy hzy
              obtain ⟨hab, hba⟩ := HO.out.two x y a b hyx HA.out hzy
              have hbK : b < K := by have := HK.out; omega
              obtain ⟨b2, o2, e2, _, hcx⟩ := HE.out.rg.at_ HA.out
              injection e2 with e2
              injection e2 with e2 e3 _
              subst e2 e3
              obtain ⟨b2, o2, e2, _, hcy⟩ := HE.out.rg.at_ hzy
              injection e2 with e2
              injection e2 with e2 e3 _
              subst e2 e3
              obtain ⟨wx, hwx⟩ : ∃ z, Wh[x]? = some z := ⟨Wh[x]'(by have := HM.out; have := HO.out.w; omega), List.getElem?_eq_getElem _⟩
              obtain ⟨wy, hwy⟩ : ∃ z, Wh[y]? = some z := ⟨Wh[y]'(by have := HM.out; have := HO.out.w; omega), List.getElem?_eq_getElem _⟩
              obtain ⟨b3, o3, rfl, _, hwxc⟩ := HE.out.rw.at_ hwx
              obtain ⟨b2, o2, e2, _, hwyc⟩ := HE.out.rw.at_ hwy
              injection e2 with e2
              injection e2 with e2 e3 _
              subst e2 e3
              obtain ⟨bx, hbx⟩ : ∃ z, B[a]? = some z := ⟨B[a]'(by have := HK.out; omega), List.getElem?_eq_getElem _⟩
              obtain ⟨by', hby⟩ : ∃ z, B[b]? = some z := ⟨B[b]'(by have := HK.out; omega), List.getElem?_eq_getElem _⟩
              obtain ⟨b4, o4, rfl, _, hbxc⟩ := HE.out.rb.at_ hbx
              obtain ⟨b2, o2, e2, _, hbyc⟩ := HE.out.rb.at_ hby
              injection e2 with e2
              injection e2 with e2 e3 _
              subst e2 e3
              have haI : (a : Int) < K := by omega
              have hbI : (b : Int) < K := by omega
              have e1 : ((a : Int) == (b : Int)) = false := by simp; omega
              have e1' : (a == b) = false := by simp [hab]
              rw [hbx, hby] at hba
              have hba2 : bx = by' → decide ((a : Int) < (b : Int)) = false := fun e => decide_eq_false (by have := hba (by rw [e]); omega)
              have hba3 : bx = by' → decide (a < b) = false := fun e => decide_eq_false (by have := hba (by rw [e]); omega)
              clear hba hab hzy hwx hwy hbx hby hb
              by_cases hw : wx = wy
              · have e2 : (wx == wy) = true := by simp [hw]
                clear hw
                by_cases hbb : bx = by'
                · have e3 : (bx == by') = true := by simp [hbb]
                  have e4 := hba2 hbb
                  have e5 := hba3 hbb
                  clear hba2 hba3 hbb
                  go_wp2_with fail
                  go_quiet (fail)
                  go_wp2
                  go_roundw
                  case rel => exact ⟨y + 1, by omega, by go_num, HE.out.drewN _⟩
                  case measure => simp [intOf]; omega
                · have e3 : (bx == by') = false := by simp [hbb]
                  clear hba2 hba3 hbb
                  go_wp2_with fail
                  go_quiet (fail)
                  go_wp2
                  go_roundw
                  case rel => exact ⟨y + 1, by omega, by go_num, HE.out.drewN _⟩
                  case measure => simp [intOf]; omega
              · have e2 : (wx == wy) = false := by simp [hw]
                clear hw hba2 hba3
                go_wp2_with fail
                go_quiet (fail)
                go_wp2
                go_roundw
                case rel => exact ⟨y + 1, by omega, by go_num, HE.out.drewN _⟩
                case measure => simp [intOf]; omega
            · obtain rfl : y = x := by omega
              have hJ : ¬ (y : Int) < y := by omega
              go_wp2
              go_roundw
              case rel => exact ⟨y + 1, by omega, by go_num, HE.out⟩
              case measure => simp [intOf]; omega
        · obtain rfl : x = M := by omega
          have hI : ¬ (x : Int) < x := by omega
          go_wp2
          go_ret
          exact ⟨rfl, HE.out.below⟩
  · have HZ := Lib.hid hz
    by_cases hz1 : z < 1
    all_goals
      clear hz
      go_enter Try.func3, Try.ntmps3
      go_wp2_with (first | (go_at_call 4; refine (fact_any _).mono ?_; rintro e w1 ⟨rfl, hb⟩; have HB := Lib.hid hb; clear hb) | (go_at_call 5; refine (newBad HB.out z HZ.out).mono ?_; rw [errV_one]; rintro e w2 ⟨rfl, hb⟩; have HB2 := Lib.hid hb; clear hb))
      go_ret
      first | exact ⟨rfl, HB2.out⟩ | exact ⟨congrArg (fun b => Ending.returned (.bool b)) (bad_true HZ.out), HB2.out⟩
end Go.Proofs.Ytnplhjbbkccdnaa.Fif
