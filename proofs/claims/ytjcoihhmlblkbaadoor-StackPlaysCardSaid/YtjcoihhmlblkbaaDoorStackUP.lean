/-
  The walk of latchgarthlaw3.StackPlays: it answers true, whatever the number of hands, the tags and the steps.
-/
import Derived.Test.YtjcoihhmlblkbaaDoorStkRef4
import Derived.Test.YtjcoihhmlblkbaaDoorRws
import Derived.Test.YtjcoihhmlblkbaaDoorInts
import Derived.Test.YtjcoihhmlblkbaaDoorAs2
import Derived.Deep.DeepCutAuto
namespace Go.Proofs.YtjcoihhmlblkbaaDoor.Stk
open Go.RowKit Rf

theorem kstep_no {tg : Bool} {v : KS} {p : Nat} (h : kfin v p = false) : kstep tg v p = kdo tg v p := by unfold kstep; rw [h]; rfl
/-- BeginStack, StepStack: what is told, in one. -/
theorem refstep_any {F : Nat → Prop} {n T : Nat} {tg : Bool} {v : KS} {v0 v1 v2 v3 v4 v5 v6 v7 v8 v9 v10 : Value} {fm fn ft fx : Nat → Int} (w : World) (h : RK F w n tg v v0 v1 v2 v3 v4 v5 v6 v7 v8 v9 v10 fm fn ft fx) (hF : ∀ b, F b → b < w.heap.size) (h1 : 1 ≤ n) (h4 : n ≤ 4) (hl : KLoc n T v) (hT : T ≤ 1000) (p : Int) :
    Calls Tryd.prog 21 #[.agg #[v0, v1, v2, v3, v4, v5, v6, v7, v8, v9, v10], .int .i64 p] w fun e w' => StpT F w w' n tg (stpD n v p) (stpG n v p) (stpE n v p) (stpS n tg v p) e := by
  by_cases hp : 0 ≤ p ∧ p < n
  · obtain ⟨q, rfl⟩ := Int.eq_ofNat_of_zero_le hp.1
    have hq : q < n := by omega
    by_cases ha : v.a q = 0
    · have he : stpE n v q = 7 := by unfold stpE; rw [if_neg (by omega), if_pos (by simpa using ha)]
      have hd : stpD n v q = false := by unfold stpD; rw [he]; rfl
      have hg : stpG n v q = 0 := by unfold stpG; rw [he]; rfl
      have hs : stpS n tg v q = v := by unfold stpS; rw [he]; rfl
      rw [hg, hd, hs, he]
      exact sidle w h hF h1 h4 hq ha
    · have he : stpE n v q = 0 := by unfold stpE; rw [if_neg (by omega), if_neg (show ¬ v.a (q : Int).toNat = 0 by simpa using ha)]
      have hd : stpD n v q = kfin v q := by unfold stpD; rw [he]; rfl
      have hg : stpG n v q = ktold v q := by unfold stpG; rw [he]; rfl
      have hs : stpS n tg v q = kstep tg v q := by unfold stpS; rw [he]; rfl
      rw [hg, hd, hs, he]
      have h5 := hl.ln q hq
      have ht : 0 ≤ v.tt ∧ v.tt ≤ 1000 := ⟨hl.tt.1, by have := hl.tt.2; omega⟩
      have hc : v.a q = 1 ∨ v.a q = 2 ∨ v.a q = 3 ∨ v.a q = 4 ∨ v.a q = 5 := by omega
      rcases hc with c | c | c | c | c
      · have e1 : kfin v q = false := by unfold kfin; rw [if_neg (by omega), if_neg (by omega)]
        have e2 : ktold v q = 0 := by unfold ktold; rw [e1]; rfl
        have e3 : kstep tg v q = kdo1 v q := by rw [kstep_no e1]; unfold kdo; rw [if_pos c]
        rw [e1, e2, e3]
        exact s1 w h hF h1 h4 hq c (hl.m q hq (Or.inl c))
      · have e1 : kfin v q = kseen v q := by unfold kfin; rw [if_pos (by omega)]
        cases hs : kseen v q with
        | true =>
          rw [hs] at e1
          have e2 : ktold v q = -1 := by unfold ktold; rw [e1, if_pos rfl, if_neg (by omega)]
          have e3 : kstep tg v q = kclr (kchg tg v (v.m q)) q 0 0 := by unfold kstep; rw [e1, if_pos rfl]; unfold kdo; rw [if_neg (by omega), if_pos c, if_pos hs]
          rw [e1, e2, e3]
          have hh : v.tn = v.sn q ∧ v.tt = v.st q := of_decide_eq_true hs
          cases htg : tg with
          | true => rw [htg] at h; exact s2yt w h hF h1 h4 hq c hh rfl ht
          | false => rw [htg] at h; exact s2yf w h hF h1 h4 hq c hh rfl ht
        | false =>
          rw [hs] at e1
          have e2 : ktold v q = 0 := by unfold ktold; rw [e1]; rfl
          have e3 : kstep tg v q = kclr v q 1 (v.m q) := by rw [kstep_no e1]; unfold kdo; rw [if_neg (by omega), if_pos c, hs]; rfl
          rw [e1, e2, e3]
          have hh : ¬ (v.tn = v.sn q ∧ v.tt = v.st q) := of_decide_eq_false hs
          by_cases c1 : v.tn = v.sn q
          · exact s2t w h hF h1 h4 hq c ⟨c1, fun c2 => hh ⟨c1, c2⟩⟩
          · exact s2n w h hF h1 h4 hq c c1
      · by_cases hn : v.tn = -1
        · have e1 : kfin v q = true := by unfold kfin; rw [if_neg (by omega), if_pos c]; exact decide_eq_true hn
          have e2 : ktold v q = -1 := by unfold ktold; rw [e1, if_pos rfl, if_neg (by omega)]
          have e3 : kstep tg v q = kclr (ksee v q) q 0 0 := by unfold kstep; rw [e1, if_pos rfl]; unfold kdo; rw [if_neg (by omega), if_neg (by omega), if_pos c, if_pos hn]
          rw [e1, e2, e3]
          exact s3y w h hF h1 h4 hq c hn
        · have e1 : kfin v q = false := by unfold kfin; rw [if_neg (by omega), if_pos c]; exact decide_eq_false hn
          have e2 : ktold v q = 0 := by unfold ktold; rw [e1]; rfl
          have e3 : kstep tg v q = kat (ksee v q) q 4 := by rw [kstep_no e1]; unfold kdo; rw [if_neg (by omega), if_neg (by omega), if_pos c, if_neg hn]
          rw [e1, e2, e3]
          exact s3n w h hF h1 h4 hq c (by have := hl.tn; omega)
      · obtain ⟨s0, s4'⟩ := hl.sn q hq (Or.inl c)
        obtain ⟨k, hk2⟩ := Int.eq_ofNat_of_zero_le s0
        have e1 : kfin v q = false := by unfold kfin; rw [if_neg (by omega), if_neg (by omega)]
        have e2 : ktold v q = 0 := by unfold ktold; rw [e1]; rfl
        have e3 : kstep tg v q = kat { v with sx := rput v.sx q (v.nx k) } q 5 := by
          rw [kstep_no e1]; unfold kdo; rw [if_neg (by omega), if_neg (by omega), if_neg (by omega), if_pos c]; unfold kdo4; rw [hk2]; rfl
        rw [e1, e2, e3]
        exact s4 w h hF h1 h4 hq c hk2 (by omega)
      · obtain ⟨s0, s4'⟩ := hl.sn q hq (Or.inr c)
        obtain ⟨k, hk2⟩ := Int.eq_ofNat_of_zero_le s0
        have e1 : kfin v q = kseen v q := by unfold kfin; rw [if_pos (by omega)]
        have ek : (v.sn q).toNat = k := by omega
        cases hs : kseen v q with
        | true =>
          rw [hs] at e1
          have e2 : ktold v q = v.x k := by unfold ktold; rw [e1, if_pos rfl, if_pos c, ek]
          have e3 : kstep tg v q = kclr { kchg tg v (v.sx q) with u := rput v.u k false } q 0 0 := by unfold kstep; rw [e1, if_pos rfl]; unfold kdo; rw [if_neg (by omega), if_neg (by omega), if_neg (by omega), if_neg (by omega), if_pos hs, ek]
          rw [e1, e2, e3]
          have hh : v.tn = v.sn q ∧ v.tt = v.st q := of_decide_eq_true hs
          cases htg : tg with
          | true => rw [htg] at h; exact s5yt w h hF h1 h4 hq c hh rfl ht hk2 (by omega)
          | false => rw [htg] at h; exact s5yf w h hF h1 h4 hq c hh rfl ht hk2 (by omega)
        | false =>
          rw [hs] at e1
          have e2 : ktold v q = 0 := by unfold ktold; rw [e1]; rfl
          have e3 : kstep tg v q = kclr v q 3 0 := by rw [kstep_no e1]; unfold kdo; rw [if_neg (by omega), if_neg (by omega), if_neg (by omega), if_neg (by omega), hs]; rfl
          rw [e1, e2, e3]
          have hh : ¬ (v.tn = v.sn q ∧ v.tt = v.st q) := of_decide_eq_false hs
          by_cases c1 : v.tn = v.sn q
          · exact s5t w h hF h1 h4 hq c ⟨c1, fun c2 => hh ⟨c1, c2⟩⟩
          · exact s5n w h hF h1 h4 hq c c1
  · have he : stpE n v p = 1 := by unfold stpE; rw [if_pos hp]
    have hd : stpD n v p = false := by unfold stpD; rw [he]; rfl
    have hg : stpG n v p = 0 := by unfold stpG; rw [he]; rfl
    have hs : stpS n tg v p = v := by unfold stpS; rw [he]; rfl
    rw [hg, hd, hs, he]
    exact sbad w h hF h1 h4 p hp
theorem RK.below {F : Nat → Prop} {W W' : World} {n : Nat} {tg : Bool} {v : KS} {v0 v1 v2 v3 v4 v5 v6 v7 v8 v9 v10 : Value} {fm fn ft fx : Nat → Int} (h : RK F W n tg v v0 v1 v2 v3 v4 v5 v6 v7 v8 v9 v10 fm fn ft fx) (hb : Below W.heap.size W W') : RK F W' n tg v v0 v1 v2 v3 v4 v5 v6 v7 v8 v9 v10 fm fn ft fx := ⟨h.rv.below hb, h.f⟩
theorem RK.touch {F O : Nat → Prop} {W W' : World} {n : Nat} {tg : Bool} {v : KS} {v0 v1 v2 v3 v4 v5 v6 v7 v8 v9 v10 : Value} {fm fn ft fx : Nat → Int} (h : RK F W n tg v v0 v1 v2 v3 v4 v5 v6 v7 v8 v9 v10 fm fn ft fx) (ht : Touch O W W') (hO : ∀ b, b < W.heap.size → O b → F b) : RK F W' n tg v v0 v1 v2 v3 v4 v5 v6 v7 v8 v9 v10 fm fn ft fx := ⟨h.rv.touch ht hO, h.f⟩
theorem RK.more {F F' : Nat → Prop} {W : World} {n : Nat} {tg : Bool} {v : KS} {v0 v1 v2 v3 v4 v5 v6 v7 v8 v9 v10 : Value} {fm fn ft fx : Nat → Int} (h : RK F W n tg v v0 v1 v2 v3 v4 v5 v6 v7 v8 v9 v10 fm fn ft fx) (hF : ∀ b, b < W.heap.size → F' b → F b) : RK F' W n tg v v0 v1 v2 v3 v4 v5 v6 v7 v8 v9 v10 fm fn ft fx := ⟨h.rv.more hF, h.f⟩
theorem RK.forms {F : Nat → Prop} {W : World} {n : Nat} {tg : Bool} {v : KS} {v0 v1 v2 v3 v4 v5 v6 v7 v8 v9 v10 : Value} {fm fn ft fx : Nat → Int} (h : RK F W n tg v v0 v1 v2 v3 v4 v5 v6 v7 v8 v9 v10 fm fn ft fx) : v0 = .bool tg ∧ v1 = .int .i64 v.tn ∧ v2 = .int .i64 v.tt ∧ ∃ A3 c3 A4 c4 A5 c5 A6 c6 A7 c7 A8 c8 A9 c9 A10 c10, v3 = .slice A3 4 c3 ∧ v4 = .slice A4 4 c4 ∧ v5 = .slice A5 4 c5 ∧ v6 = .slice A6 n c6 ∧ v7 = .slice A7 n c7 ∧ v8 = .slice A8 n c8 ∧ v9 = .slice A9 n c9 ∧ v10 = .slice A10 n c10 := by
  obtain ⟨A3, c3, e3⟩ := SL.form h.rv.p3
  obtain ⟨A4, c4, e4⟩ := SL.form h.rv.p4
  obtain ⟨A5, c5, e5⟩ := SL.form h.rv.p5
  obtain ⟨A6, c6, e6⟩ := SL.form h.rv.p6
  obtain ⟨A7, c7, e7⟩ := SL.form h.rv.p7
  obtain ⟨A8, c8, e8⟩ := SL.form h.rv.p8
  obtain ⟨A9, c9, e9⟩ := SL.form h.rv.p9
  obtain ⟨A10, c10, e10⟩ := SL.form h.rv.p10
  exact ⟨h.rv.p0, h.rv.p1, h.rv.p2, A3, c3, A4, c4, A5, c5, A6, c6, A7, c7, A8, c8, A9, c9, A10, c10, e3, e4, e5, e6, e7, e8, e9, e10⟩
/-- The stack in block g, which is as s says; the reference's stack, in block b, which is as v says. -/
structure UP (w W : World) (g b n T : Nat) (tg : Bool) (s v : KS) (v0 v1 v2 v3 v4 v5 v6 v7 v8 v9 v10 : Value) (fm fn ft fx : Nat → Int) : Prop where
  lk : LkAt w W g n T tg s
  box : Block W b 54 #[v0, v1, v2, v3, v4, v5, v6, v7, v8, v9, v10]
  gb : g < b
  rk : RK (fun x => x = g ∨ x = b) W n tg v v0 v1 v2 v3 v4 v5 v6 v7 v8 v9 v10 fm fn ft fx
section
variable {w W W' : World} {g b n T T' : Nat} {tg : Bool} {s s' v v' : KS} {v0 v1 v2 v3 v4 v5 v6 v7 v8 v9 v10 u0 u1 u2 u3 u4 u5 u6 u7 u8 u9 u10 : Value} {fm fn ft fx gm gn gt gx : Nat → Int}
theorem UP.low (h : UP w W g b n T tg s v v0 v1 v2 v3 v4 v5 v6 v7 v8 v9 v10 fm fn ft fx) : w.heap.size ≤ b := by have := h.lk.new; have := h.gb; omega
theorem UP.F (h : UP w W g b n T tg s v v0 v1 v2 v3 v4 v5 v6 v7 v8 v9 v10 fm fn ft fx) : ∀ x, (x = g ∨ x = b) → x < W.heap.size := fun x hx => by
  have := h.lk.lk.lt
  have := h.box.lt
  rcases hx with rfl | rfl <;> assumption
theorem UP.call (h : UP w W g b n T tg s v v0 v1 v2 v3 v4 v5 v6 v7 v8 v9 v10 fm fn ft fx) (hb : Below W.heap.size W W') : UP w W' g b n T tg s v v0 v1 v2 v3 v4 v5 v6 v7 v8 v9 v10 fm fn ft fx :=
  ⟨h.lk.on hb (Nat.le_refl _), h.box.below hb h.box.lt, h.gb, h.rk.below hb⟩
theorem UP.turn (h : UP w W g b n T tg s v v0 v1 v2 v3 v4 v5 v6 v7 v8 v9 v10 fm fn ft fx) (hl : LkAt w W' g n T' tg s') (ht : Touch (fun k => k = g) W W') : UP w W' g b n T' tg s' v v0 v1 v2 v3 v4 v5 v6 v7 v8 v9 v10 fm fn ft fx :=
  ⟨hl, h.box.touch ht (by have := h.gb; omega), h.gb, h.rk.touch ht fun x _ e => Or.inl e⟩
theorem UP.later (h : UP w W g b n T tg s v v0 v1 v2 v3 v4 v5 v6 v7 v8 v9 v10 fm fn ft fx) (hT : T ≤ T') : UP w W g b n T' tg s v v0 v1 v2 v3 v4 v5 v6 v7 v8 v9 v10 fm fn ft fx := ⟨h.lk.later hT, h.box, h.gb, h.rk⟩
theorem UP.drewN (h : UP w W g b n T tg s v v0 v1 v2 v3 v4 v5 v6 v7 v8 v9 v10 fm fn ft fx) (i : Nat) : UP w (W.drewN i) g b n T tg s v v0 v1 v2 v3 v4 v5 v6 v7 v8 v9 v10 fm fn ft fx := h.call (below_drewN (Below.refl _ W) i)
theorem UP.drew (h : UP w W g b n T tg s v v0 v1 v2 v3 v4 v5 v6 v7 v8 v9 v10 fm fn ft fx) : UP w W.drew g b n T tg s v v0 v1 v2 v3 v4 v5 v6 v7 v8 v9 v10 fm fn ft fx := h.call (Below.refl _ W).drew
/-- The reference's stack is written anew. -/
theorem UP.store (h : UP w W g b n T tg s v v0 v1 v2 v3 v4 v5 v6 v7 v8 v9 v10 fm fn ft fx) (hr : RK (fun x => x = g ∨ x = b) W n tg v' u0 u1 u2 u3 u4 u5 u6 u7 u8 u9 u10 gm gn gt gx) : UP w (((((((((((W.setCell ⟨b, 0, none⟩ u0).setCell ⟨b, 1, none⟩ u1).setCell ⟨b, 2, none⟩ u2).setCell ⟨b, 3, none⟩ u3).setCell ⟨b, 4, none⟩ u4).setCell ⟨b, 5, none⟩ u5).setCell ⟨b, 6, none⟩ u6).setCell ⟨b, 7, none⟩ u7).setCell ⟨b, 8, none⟩ u8).setCell ⟨b, 9, none⟩ u9).setCell ⟨b, 10, none⟩ u10) g b n T tg s v' u0 u1 u2 u3 u4 u5 u6 u7 u8 u9 u10 gm gn gt gx := by
  have hw := h.low
  have hgb := h.gb
  have hb : Below w.heap.size w (((((((((((W.setCell ⟨b, 0, none⟩ u0).setCell ⟨b, 1, none⟩ u1).setCell ⟨b, 2, none⟩ u2).setCell ⟨b, 3, none⟩ u3).setCell ⟨b, 4, none⟩ u4).setCell ⟨b, 5, none⟩ u5).setCell ⟨b, 6, none⟩ u6).setCell ⟨b, 7, none⟩ u7).setCell ⟨b, 8, none⟩ u8).setCell ⟨b, 9, none⟩ u9).setCell ⟨b, 10, none⟩ u10) := (((((((((((h.lk.below.setCell hw _).setCell hw _).setCell hw _).setCell hw _).setCell hw _).setCell hw _).setCell hw _).setCell hw _).setCell hw _).setCell hw _).setCell hw _)
  have ht : Touch (fun x => x = b) W (((((((((((W.setCell ⟨b, 0, none⟩ u0).setCell ⟨b, 1, none⟩ u1).setCell ⟨b, 2, none⟩ u2).setCell ⟨b, 3, none⟩ u3).setCell ⟨b, 4, none⟩ u4).setCell ⟨b, 5, none⟩ u5).setCell ⟨b, 6, none⟩ u6).setCell ⟨b, 7, none⟩ u7).setCell ⟨b, 8, none⟩ u8).setCell ⟨b, 9, none⟩ u9).setCell ⟨b, 10, none⟩ u10) := ((((((((((((Touch.refl (fun x => x = b) W).setCell (p := ⟨b, 0, none⟩) (Or.inl rfl) u0).setCell (p := ⟨b, 1, none⟩) (Or.inl rfl) u1).setCell (p := ⟨b, 2, none⟩) (Or.inl rfl) u2).setCell (p := ⟨b, 3, none⟩) (Or.inl rfl) u3).setCell (p := ⟨b, 4, none⟩) (Or.inl rfl) u4).setCell (p := ⟨b, 5, none⟩) (Or.inl rfl) u5).setCell (p := ⟨b, 6, none⟩) (Or.inl rfl) u6).setCell (p := ⟨b, 7, none⟩) (Or.inl rfl) u7).setCell (p := ⟨b, 8, none⟩) (Or.inl rfl) u8).setCell (p := ⟨b, 9, none⟩) (Or.inl rfl) u9).setCell (p := ⟨b, 10, none⟩) (Or.inl rfl) u10)
  refine ⟨h.lk.touch ht fun k hk => by omega, ?_, hgb, hr.touch ht fun x _ e => Or.inr e⟩
  have := (((((((((((h.box.put 0 u0).put 1 u1).put 2 u2).put 3 u3).put 4 u4).put 5 u5).put 6 u6).put 7 u7).put 8 u8).put 9 u9).put 10 u10)
  simpa using this
theorem UP.q (h : UP w W g b n T tg s v v0 v1 v2 v3 v4 v5 v6 v7 v8 v9 v10 fm fn ft fx) : W.cell? ⟨b, 0, none⟩ = some v0 ∧ W.cell? ⟨b, 1, none⟩ = some v1 ∧ W.cell? ⟨b, 2, none⟩ = some v2 ∧ W.cell? ⟨b, 3, none⟩ = some v3 ∧ W.cell? ⟨b, 4, none⟩ = some v4 ∧ W.cell? ⟨b, 5, none⟩ = some v5 ∧ W.cell? ⟨b, 6, none⟩ = some v6 ∧ W.cell? ⟨b, 7, none⟩ = some v7 ∧ W.cell? ⟨b, 8, none⟩ = some v8 ∧ W.cell? ⟨b, 9, none⟩ = some v9 ∧ W.cell? ⟨b, 10, none⟩ = some v10 := ⟨h.box.cell 0, h.box.cell 1, h.box.cell 2, h.box.cell 3, h.box.cell 4, h.box.cell 5, h.box.cell 6, h.box.cell 7, h.box.cell 8, h.box.cell 9, h.box.cell 10⟩
end
theorem errIs {c : Int} {w W : World} (hg : ErrVar w) (hb : Below w.heap.size w W) : Calls Tryd.prog 6 #[errV 65 c, .int .i64 c] W fun e w' => e = .returned (.bool true) ∧ Below W.heap.size W w' :=
  (errorIs_any c c W (hg.below hb hg.lt)).mono fun _ _ ⟨he, hx⟩ => ⟨he.trans (by rw [decide_eq_true rfl]), hx⟩
theorem row_case (l : List Int) : (∃ x y, l = [x, y]) ∨ (∃ x, l = [x]) ∨ l.length ≠ 2 ∧ l.length ≠ 1 := by
  match l with
  | [] => exact .inr (.inr ⟨by simp, by simp⟩)
  | [x] => exact .inr (.inl ⟨x, rfl⟩)
  | [x, y] => exact .inl ⟨x, y, rfl⟩
  | _ :: _ :: _ :: _ => exact .inr (.inr ⟨by simp, by simp⟩)
end Go.Proofs.YtjcoihhmlblkbaaDoor.Stk
