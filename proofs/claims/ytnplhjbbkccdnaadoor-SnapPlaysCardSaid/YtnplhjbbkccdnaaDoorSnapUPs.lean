/-
  Texts merged: SnapStpR, SnapUP.
-/
import Derived.Test.YtnplhjbbkccdnaaDoorSnpStp2
import Derived.Test.YtnplhjbbkccdnaaDoorSnpNew2
import Derived.Test.YtnplhjbbkccdnaaDoorSnapDoor
import Derived.Test.YtnplhjbbkccdnaaDoorRws
import Derived.Test.YtnplhjbbkccdnaaDoorInts
import Derived.Test.YtnplhjbbkccdnaaDoorAsAs
import Derived.Deep.DeepCutAuto
/-
  The reference of package snap: StepBoard, in one; the board by value, without what nobody reads.
-/
namespace Go.Proofs.YtnplhjbbkccdnaaDoor.Snap
open Go.RowKit

def stE (n : Nat) (s : SS) (p : Int) : Int := if ¬ (0 ≤ p ∧ p < n) then 1 else if (s.h p.toNat).a = 0 then 7 else 0
def stD (n : Nat) (s : SS) (p : Int) : Bool := if stE n s p = 0 then decide ((sone n s p.toNat).a = 0) else false
def stL (n : Nat) (s : SS) (p : Int) : Option (Nat → Nat) := if stE n s p = 0 then stold n s p.toNat else none
theorem step_ref {F : Nat → Prop} {n t : Nat} {s : SS} {v0 v1 v2 v3 v4 v5 v6 v7 : Value} {fx : Nat → Int} {fb : Nat → Bool} {Gf Gl Gm Gs : Nat → Pd} (w : World) (h : BK F w n s v0 v1 v2 v3 v4 v5 v6 v7 fx fb Gf Gl Gm Gs) (hF : ∀ b, F b → b < w.heap.size) (ok : SF n t s) (ht : t ≤ 1000000) (h1 : 1 ≤ n) (h4 : n ≤ 4) (p : Int) :
    Calls Tryd.prog 11 #[.agg #[v0, v1, v2, v3, v4, v5, v6, v7], .int .i64 p] w fun e w' => StpT F w w' n (stD n s p) (stL n s p) (stE n s p) (gst n s p) e := by
  by_cases hp : 0 ≤ p ∧ p < n
  · obtain ⟨q, rfl⟩ := Int.eq_ofNat_of_zero_le hp.1
    have hq : q < n := by omega
    by_cases ha : (s.h q).a = 0
    · have he : stE n s q = 7 := by unfold stE; rw [if_neg (show ¬ ¬ (0 ≤ (q : Int) ∧ (q : Int) < n) from fun h => h hp), if_pos (show (s.h (q : Int).toNat).a = 0 by simpa using ha)]
      have hd : stD n s q = false := by unfold stD; rw [he]; rfl
      have hl : stL n s q = none := by unfold stL; rw [he]; rfl
      have hs : gst n s q = s := by unfold gst; rw [if_pos (Or.inr (show (s.h (q : Int).toNat).a = 0 by simpa using ha))]
      rw [hl, hd, hs, he]
      exact sidle w h hF h1 h4 hq ha
    · have he : stE n s q = 0 := by unfold stE; rw [if_neg (show ¬ ¬ (0 ≤ (q : Int) ∧ (q : Int) < n) from fun h => h hp), if_neg (show ¬ (s.h (q : Int).toNat).a = 0 by simpa using ha)]
      have hd : stD n s q = decide ((sone n s q).a = 0) := by unfold stD; rw [he]; rfl
      have hl : stL n s q = stold n s q := by unfold stL; rw [he]; rfl
      have hs : gst n s q = ⟨nput s.h q (sone n s q), swd s q⟩ := by unfold gst; rw [if_neg (fun e => e.elim (fun e => e hp) fun e => ha (by simpa using e))]; rfl
      rw [hl, hd, hs, he]
      have k := ok.mks q hq
      have hln := k.ln
      have hc : (s.h q).a = 1 ∨ (s.h q).a = 2 ∨ (s.h q).a = 3 := by omega
      rcases hc with a | a | a
      · have hto : stold n s q = none := by unfold stold; rw [if_neg fun e => by have := e.1; omega]
        have hwd : swd s q = s.wd := by unfold swd; rw [if_neg (by omega)]
        have hk := k.kn (Or.inl a)
        by_cases hkn : (s.h q).k + 1 = n
        · rw [hto, hwd, show sone n s q = _ from by unfold sone; rw [if_pos a, if_pos hkn]]
          exact s1z w h hF h1 h4 hq a hk hkn
        · rw [hto, hwd, show sone n s q = _ from by unfold sone; rw [if_pos a, if_neg hkn]]
          exact s1a w h hF h1 h4 hq a hk hkn
      · have hwd : swd s q = s.wd := by unfold swd; rw [if_neg (by omega)]
        have hk := k.kn (Or.inr a)
        by_cases hkn : (s.h q).k + 1 = n
        · rw [hwd]
          exact s2z w h hF h1 h4 hq a hk hkn k.mv
        · have hto : stold n s q = none := by unfold stold; rw [if_neg fun e => hkn e.2.1]
          rw [hto, hwd, show sone n s q = _ from by unfold sone; rw [if_neg (by omega), if_pos a, if_neg hkn]]
          exact s2a w h hF h1 h4 hq a hk hkn
      · have hto : stold n s q = none := by unfold stold; rw [if_neg fun e => by have := e.1; omega]
        have hwd : swd s q = nput s.wd q ⟨(s.h q).x, (s.wd q).t + 1, (s.h q).sw⟩ := by unfold swd; rw [if_pos a]
        rw [hto, hwd, show sone n s q = _ from by unfold sone; rw [if_neg (by omega), if_neg (by omega)]]
        exact s3 w h hF h1 h4 hq a (Nat.le_trans (ok.tn q hq) ht)
  · have he : stE n s p = 1 := by unfold stE; rw [if_pos hp]
    have hd : stD n s p = false := by unfold stD; rw [he]; rfl
    have hl : stL n s p = none := by unfold stL; rw [he]; rfl
    have hs : gst n s p = s := by unfold gst; rw [if_pos (Or.inl hp)]
    rw [hl, hd, hs, he]
    exact sbad w h hF h1 h4 p hp
end Go.Proofs.YtnplhjbbkccdnaaDoor.Snap

/-
  The walk of latchgarthlaw3.SnapPlays: the board and the reference's, beside each other.
-/
namespace Go.Proofs.YtnplhjbbkccdnaaDoor.Snap
open Go.RowKit

/-- The reference's board, whatever lies in it that nobody reads. -/
def BX (F : Nat → Prop) (W : World) (n : Nat) (s : SS) (v0 v1 v2 v3 v4 v5 v6 v7 : Value) : Prop := ∃ fx fb Gf Gl Gm Gs, BK F W n s v0 v1 v2 v3 v4 v5 v6 v7 fx fb Gf Gl Gm Gs
/-- What is told, if anything. -/
def Told (F : Nat → Prop) (W : World) (n : Nat) (l : Option (Nat → Nat)) (tv : Value) : Prop := (l = none → tv = .slice none 0 0) ∧ ∀ f, l = some f → nm n (fun r => ((f r : Nat) : Int)) F W tv
section
variable {F F' O : Nat → Prop} {W W' : World} {n t : Nat} {s : SS} {v0 v1 v2 v3 v4 v5 v6 v7 tv : Value} {l : Option (Nat → Nat)}
theorem BX.below (h : BX F W n s v0 v1 v2 v3 v4 v5 v6 v7) (hb : Below W.heap.size W W') : BX F W' n s v0 v1 v2 v3 v4 v5 v6 v7 := by
  obtain ⟨fx, fb, Gf, Gl, Gm, Gs, h⟩ := h
  exact ⟨_, _, _, _, _, _, h.below hb⟩
theorem BX.touch (h : BX F W n s v0 v1 v2 v3 v4 v5 v6 v7) (ht : Touch O W W') (hO : ∀ b, b < W.heap.size → O b → F b) : BX F W' n s v0 v1 v2 v3 v4 v5 v6 v7 := by
  obtain ⟨fx, fb, Gf, Gl, Gm, Gs, h⟩ := h
  exact ⟨_, _, _, _, _, _, h.touch ht hO⟩
theorem BX.more (h : BX F W n s v0 v1 v2 v3 v4 v5 v6 v7) (hF : ∀ b, b < W.heap.size → F' b → F b) : BX F' W n s v0 v1 v2 v3 v4 v5 v6 v7 := by
  obtain ⟨fx, fb, Gf, Gl, Gm, Gs, h⟩ := h
  exact ⟨_, _, _, _, _, _, h.more hF⟩
theorem BX.forms (h : BX F W n s v0 v1 v2 v3 v4 v5 v6 v7) : ∃ A0 c0 A1 c1 A2 c2 A3 c3 A4 c4 A5 c5 A6 c6 A7 c7, v0 = .slice A0 n c0 ∧ v1 = .slice A1 n c1 ∧ v2 = .slice A2 n c2 ∧ v3 = .slice A3 n c3 ∧ v4 = .slice A4 n c4 ∧ v5 = .slice A5 n c5 ∧ v6 = .slice A6 n c6 ∧ v7 = .slice A7 n c7 := by
  obtain ⟨fx, fb, Gf, Gl, Gm, Gs, h⟩ := h
  exact h.forms
theorem Told.below (h : Told F W n l tv) (hb : Below W.heap.size W W') : Told F W' n l tv := ⟨h.1, fun f e => (nm_stb _ _).below hb (h.2 f e)⟩
theorem Told.touch (h : Told F W n l tv) (ht : Touch O W W') (hO : ∀ b, b < W.heap.size → O b → F b) : Told F W' n l tv := ⟨h.1, fun f e => (nm_stb _ _).touch ht hO (h.2 f e)⟩
theorem Told.more (h : Told F W n l tv) (hF : ∀ b, b < W.heap.size → F' b → F b) : Told F' W n l tv := ⟨h.1, fun f e => (nm_stb _ _).more hF (h.2 f e)⟩
theorem nm_nums {f : Nat → Nat} (h : nm n (fun r => ((f r : Nat) : Int)) F W tv) (h4 : n ≤ 4) : Nums W W.heap.size tv (lkS n f) := by
  obtain ⟨A, cp, rfl, -, h2⟩ := h
  refine ⟨A, cp, by rw [lkS_len], by rw [lkS_len]; omega, fun h0 => ?_⟩
  obtain ⟨b, o, e, hb, -, hc⟩ := h2 (by rw [lkS_len] at h0; simpa using h0)
  refine ⟨b, o, e, hb, fun i z hz => ?_⟩
  have hi : i < n := by have := (List.getElem?_eq_some_iff.1 hz).1; rw [lkS_len] at this; exact this
  obtain ⟨u, hu, h3⟩ := hc i _ (sl_get _ hi)
  have h3 : u = _ := h3
  rw [hu, h3]
  show some (Value.int .i64 ((f i : Nat) : Int)) = _
  have e2 : (lkS n f)[i]? = some ((f i : Nat) : Int) := by unfold lkS; rw [List.getElem?_map, List.getElem?_range hi]; rfl
  rw [e2] at hz
  rw [Option.some.inj hz]
theorem nil_nums (B : Nat) : Nums W B (.slice none 0 0) [] := ⟨none, 0, rfl, by simp, fun h => absurd h (by simp)⟩
/-- What the two tell is the same. -/
theorem told_same {u : Value} (h : Told F W n l tv) (h4 : n ≤ 4) {B : Nat} (hu : (l = none → u = .slice none 0 0) ∧ ∀ f, l = some f → Nums W B u (lkS n f)) :
    Calls Tryd.prog 13 #[u, tv] W fun e w' => e = .returned (.bool true) ∧ Below W.heap.size W w' := by
  cases l with
  | none =>
    rw [hu.1 rfl, h.1 rfl]
    exact (ints_any [] [] _ _ 0 0 W (nil_nums 0) (nil_nums 0)).mono fun _ _ ⟨he, i, hw⟩ => ⟨he.trans (by rw [decide_eq_true rfl]), by rw [hw]; exact below_drewN (Below.refl _ W) i⟩
  | some f =>
    exact (ints_any (lkS n f) (lkS n f) _ _ _ _ W (hu.2 f rfl) (nm_nums (h.2 f rfl) h4)).mono fun _ _ ⟨he, i, hw⟩ => ⟨he.trans (by rw [decide_eq_true rfl]), by rw [hw]; exact below_drewN (Below.refl _ W) i⟩
theorem refbegin_any (w : World) (h : BX F w n s v0 v1 v2 v3 v4 v5 v6 v7) (hF : ∀ b, F b → b < w.heap.size) (h1 : 1 ≤ n) (h4 : n ≤ 4) (p x : Int) :
    Calls Tryd.prog 8 #[.agg #[v0, v1, v2, v3, v4, v5, v6, v7], .int .i64 p, .bool true, .int .i64 x] w fun e w' => ∃ u0 u1 u2 u3 u4 u5 u6 u7, e = .returned (.tuple #[.agg #[u0, u1, u2, u3, u4, u5, u6, u7], .int .i64 (wrE n s p x)]) ∧ BX F w' n (gwr n s p x) u0 u1 u2 u3 u4 u5 u6 u7 ∧ Below w.heap.size w w' := by
  obtain ⟨fx, fb, Gf, Gl, Gm, Gs, h⟩ := h
  refine (begin_ref w h hF h1 h4 p x true).mono ?_
  rintro e w' ⟨u0, u1, u2, u3, u4, u5, u6, u7, gx, gb, Hf, Hl, Hm, Hs, he, hb, hw⟩
  exact ⟨u0, u1, u2, u3, u4, u5, u6, u7, he, ⟨_, _, _, _, _, _, hb⟩, hw⟩
theorem reflook_any (w : World) (h : BX F w n s v0 v1 v2 v3 v4 v5 v6 v7) (hF : ∀ b, F b → b < w.heap.size) (h1 : 1 ≤ n) (h4 : n ≤ 4) (p : Int) :
    Calls Tryd.prog 8 #[.agg #[v0, v1, v2, v3, v4, v5, v6, v7], .int .i64 p, .bool false, .int .i64 0] w fun e w' => ∃ u0 u1 u2 u3 u4 u5 u6 u7, e = .returned (.tuple #[.agg #[u0, u1, u2, u3, u4, u5, u6, u7], .int .i64 (bgE n s p)]) ∧ BX F w' n (glk n s p) u0 u1 u2 u3 u4 u5 u6 u7 ∧ Below w.heap.size w w' := by
  obtain ⟨fx, fb, Gf, Gl, Gm, Gs, h⟩ := h
  refine (begin_ref w h hF h1 h4 p 0 false).mono ?_
  rintro e w' ⟨u0, u1, u2, u3, u4, u5, u6, u7, gx, gb, Hf, Hl, Hm, Hs, he, hb, hw⟩
  rw [if_neg (show ¬ ((0 : Int) < 0 ∨ (1000 : Int) < 0) by omega)] at he hb
  exact ⟨u0, u1, u2, u3, u4, u5, u6, u7, he, ⟨_, _, _, _, _, _, hb⟩, hw⟩
theorem refstep_any (w : World) (h : BX F w n s v0 v1 v2 v3 v4 v5 v6 v7) (hF : ∀ b, F b → b < w.heap.size) (ok : SF n t s) (ht : t ≤ 1000000) (h1 : 1 ≤ n) (h4 : n ≤ 4) (p : Int) :
    Calls Tryd.prog 11 #[.agg #[v0, v1, v2, v3, v4, v5, v6, v7], .int .i64 p] w fun e w' => ∃ u0 u1 u2 u3 u4 u5 u6 u7 tv, e = .returned (.tuple #[.agg #[u0, u1, u2, u3, u4, u5, u6, u7], .bool (stD n s p), tv, .int .i64 (stE n s p)]) ∧ Told F w' n (stL n s p) tv ∧ BX F w' n (gst n s p) u0 u1 u2 u3 u4 u5 u6 u7 ∧ Below w.heap.size w w' := by
  obtain ⟨fx, fb, Gf, Gl, Gm, Gs, h⟩ := h
  refine (step_ref w h hF ok ht h1 h4 p).mono ?_
  rintro e w' ⟨u0, u1, u2, u3, u4, u5, u6, u7, tv, gx, gb, Hf, Hl, Hm, Hs, he, ht, hb, hw⟩
  exact ⟨u0, u1, u2, u3, u4, u5, u6, u7, tv, he, ht, ⟨_, _, _, _, _, _, hb⟩, hw⟩
theorem refnew_any (w : World) (hF : ∀ b, F b → b < w.heap.size) (h1 : 1 ≤ n) (h4 : n ≤ 4) :
    Calls Tryd.prog 7 #[.int .i64 n] w fun e w' => ∃ u0 u1 u2 u3 u4 u5 u6 u7, e = .returned (.agg #[u0, u1, u2, u3, u4, u5, u6, u7]) ∧ BX F w' n ssnew u0 u1 u2 u3 u4 u5 u6 u7 ∧ Below w.heap.size w w' :=
  (new_ref n h1 h4 w hF).mono fun _ _ ⟨u0, u1, u2, u3, u4, u5, u6, u7, he, hb, hw⟩ => ⟨u0, u1, u2, u3, u4, u5, u6, u7, he, ⟨_, _, _, _, _, _, hb⟩, hw⟩
end
/-- The board in block g, which is as s says; the reference's board, in block b, which is as v says. -/
structure UP (w W : World) (g b n t : Nat) (s v : SS) (v0 v1 v2 v3 v4 v5 v6 v7 : Value) : Prop where
  lk : LkAt w W g n t s
  box : Block W b 34 #[v0, v1, v2, v3, v4, v5, v6, v7]
  gb : g < b
  rk : BX (fun x => x = g ∨ x = b) W n v v0 v1 v2 v3 v4 v5 v6 v7
section
variable {w W W' : World} {g b n t t' : Nat} {s s' v v' : SS} {v0 v1 v2 v3 v4 v5 v6 v7 u0 u1 u2 u3 u4 u5 u6 u7 : Value}
theorem UP.low (h : UP w W g b n t s v v0 v1 v2 v3 v4 v5 v6 v7) : w.heap.size ≤ b := by have := h.lk.new; have := h.gb; omega
theorem UP.F (h : UP w W g b n t s v v0 v1 v2 v3 v4 v5 v6 v7) : ∀ x, (x = g ∨ x = b) → x < W.heap.size := fun x hx => by
  have := h.lk.lk.lt
  have := h.box.lt
  rcases hx with rfl | rfl <;> assumption
theorem UP.call (h : UP w W g b n t s v v0 v1 v2 v3 v4 v5 v6 v7) (hb : Below W.heap.size W W') : UP w W' g b n t s v v0 v1 v2 v3 v4 v5 v6 v7 :=
  ⟨h.lk.on hb (Nat.le_refl _), h.box.below hb h.box.lt, h.gb, h.rk.below hb⟩
theorem UP.turn (h : UP w W g b n t s v v0 v1 v2 v3 v4 v5 v6 v7) (hl : LkAt w W' g n t' s') (ht : Touch (fun k => k = g) W W') : UP w W' g b n t' s' v v0 v1 v2 v3 v4 v5 v6 v7 :=
  ⟨hl, h.box.touch ht (by have := h.gb; omega), h.gb, h.rk.touch ht fun x _ e => Or.inl e⟩
theorem UP.later (h : UP w W g b n t s v v0 v1 v2 v3 v4 v5 v6 v7) (ht : t ≤ t') : UP w W g b n t' s v v0 v1 v2 v3 v4 v5 v6 v7 := ⟨h.lk.later ht, h.box, h.gb, h.rk⟩
theorem UP.drewN (h : UP w W g b n t s v v0 v1 v2 v3 v4 v5 v6 v7) (i : Nat) : UP w (W.drewN i) g b n t s v v0 v1 v2 v3 v4 v5 v6 v7 := h.call (below_drewN (Below.refl _ W) i)
theorem UP.drew (h : UP w W g b n t s v v0 v1 v2 v3 v4 v5 v6 v7) : UP w W.drew g b n t s v v0 v1 v2 v3 v4 v5 v6 v7 := h.call (Below.refl _ W).drew
/-- The reference's board is written anew. -/
theorem UP.store (h : UP w W g b n t s v v0 v1 v2 v3 v4 v5 v6 v7) (hr : BX (fun x => x = g ∨ x = b) W n v' u0 u1 u2 u3 u4 u5 u6 u7) : UP w ((((((((W.setCell ⟨b, 0, none⟩ u0).setCell ⟨b, 1, none⟩ u1).setCell ⟨b, 2, none⟩ u2).setCell ⟨b, 3, none⟩ u3).setCell ⟨b, 4, none⟩ u4).setCell ⟨b, 5, none⟩ u5).setCell ⟨b, 6, none⟩ u6).setCell ⟨b, 7, none⟩ u7) g b n t s v' u0 u1 u2 u3 u4 u5 u6 u7 := by
  have hw := h.low
  have hgb := h.gb
  have hb : Below w.heap.size w ((((((((W.setCell ⟨b, 0, none⟩ u0).setCell ⟨b, 1, none⟩ u1).setCell ⟨b, 2, none⟩ u2).setCell ⟨b, 3, none⟩ u3).setCell ⟨b, 4, none⟩ u4).setCell ⟨b, 5, none⟩ u5).setCell ⟨b, 6, none⟩ u6).setCell ⟨b, 7, none⟩ u7) := ((((((((h.lk.below.setCell hw _).setCell hw _).setCell hw _).setCell hw _).setCell hw _).setCell hw _).setCell hw _).setCell hw _)
  have ht : Touch (fun x => x = b) W ((((((((W.setCell ⟨b, 0, none⟩ u0).setCell ⟨b, 1, none⟩ u1).setCell ⟨b, 2, none⟩ u2).setCell ⟨b, 3, none⟩ u3).setCell ⟨b, 4, none⟩ u4).setCell ⟨b, 5, none⟩ u5).setCell ⟨b, 6, none⟩ u6).setCell ⟨b, 7, none⟩ u7) := (((((((((Touch.refl (fun x => x = b) W).setCell (p := ⟨b, 0, none⟩) (Or.inl rfl) u0).setCell (p := ⟨b, 1, none⟩) (Or.inl rfl) u1).setCell (p := ⟨b, 2, none⟩) (Or.inl rfl) u2).setCell (p := ⟨b, 3, none⟩) (Or.inl rfl) u3).setCell (p := ⟨b, 4, none⟩) (Or.inl rfl) u4).setCell (p := ⟨b, 5, none⟩) (Or.inl rfl) u5).setCell (p := ⟨b, 6, none⟩) (Or.inl rfl) u6).setCell (p := ⟨b, 7, none⟩) (Or.inl rfl) u7)
  refine ⟨h.lk.touch ht fun k hk => by omega, ?_, hgb, hr.touch ht fun x _ e => Or.inr e⟩
  have := ((((((((h.box.put 0 u0).put 1 u1).put 2 u2).put 3 u3).put 4 u4).put 5 u5).put 6 u6).put 7 u7)
  simpa using this
theorem Told.stored {l : Option (Nat → Nat)} {tv : Value} (h : Told (fun x => x = g ∨ x = b) W n l tv) : Told (fun x => x = g ∨ x = b) ((((((((W.setCell ⟨b, 0, none⟩ u0).setCell ⟨b, 1, none⟩ u1).setCell ⟨b, 2, none⟩ u2).setCell ⟨b, 3, none⟩ u3).setCell ⟨b, 4, none⟩ u4).setCell ⟨b, 5, none⟩ u5).setCell ⟨b, 6, none⟩ u6).setCell ⟨b, 7, none⟩ u7) n l tv := h.touch (O := fun x => x = b) (((((((((Touch.refl (fun x => x = b) W).setCell (p := ⟨b, 0, none⟩) (Or.inl rfl) u0).setCell (p := ⟨b, 1, none⟩) (Or.inl rfl) u1).setCell (p := ⟨b, 2, none⟩) (Or.inl rfl) u2).setCell (p := ⟨b, 3, none⟩) (Or.inl rfl) u3).setCell (p := ⟨b, 4, none⟩) (Or.inl rfl) u4).setCell (p := ⟨b, 5, none⟩) (Or.inl rfl) u5).setCell (p := ⟨b, 6, none⟩) (Or.inl rfl) u6).setCell (p := ⟨b, 7, none⟩) (Or.inl rfl) u7) fun _ _ e => Or.inr e
theorem UP.q (h : UP w W g b n t s v v0 v1 v2 v3 v4 v5 v6 v7) : W.cell? ⟨b, 0, none⟩ = some v0 ∧ W.cell? ⟨b, 1, none⟩ = some v1 ∧ W.cell? ⟨b, 2, none⟩ = some v2 ∧ W.cell? ⟨b, 3, none⟩ = some v3 ∧ W.cell? ⟨b, 4, none⟩ = some v4 ∧ W.cell? ⟨b, 5, none⟩ = some v5 ∧ W.cell? ⟨b, 6, none⟩ = some v6 ∧ W.cell? ⟨b, 7, none⟩ = some v7 := ⟨h.box.cell 0, h.box.cell 1, h.box.cell 2, h.box.cell 3, h.box.cell 4, h.box.cell 5, h.box.cell 6, h.box.cell 7⟩
/-- A hand's line and its word's value, as the reference keeps them. -/
theorem UP.qt (h : UP w W g b n t s v v0 v1 v2 v3 v4 v5 v6 v7) {q : Nat} (hq : q < n) : ∃ bt ot ct b0 o0 c0, v1 = .slice (some ⟨bt, ot, none⟩) n ct ∧ v0 = .slice (some ⟨b0, o0, none⟩) n c0 ∧ W.cell? ⟨b, 1, none⟩ = some (.slice (some ⟨bt, ot, none⟩) n ct) ∧ W.cell? ⟨bt, ot + q, none⟩ = some (.int .i64 (((v.h q).a : Nat) : Int)) ∧
    W.cell? ⟨b, 0, none⟩ = some (.slice (some ⟨b0, o0, none⟩) n c0) ∧ W.cell? ⟨b0, o0 + q * 3, none⟩ = some (.int .i64 (((v.wd q).v : Nat) : Int)) := by
  obtain ⟨fx, fb, Gf, Gl, Gm, Gs, hk⟩ := h.rk
  have hc1 := h.box.cell 1
  have hc0 := h.box.cell 0
  obtain ⟨A0, c0, A1, c1, A2, c2, A3, c3, A4, c4, A5, c5, A6, c6, A7, c7, rfl, rfl, rfl, rfl, rfl, rfl, rfl, rfl⟩ := hk.forms
  obtain ⟨bt, ot, rfl, -, -, ut, ht, hu⟩ := sl_at hk.rv.p1 hq
  have hu : ut = _ := hu
  rw [hu] at ht
  obtain ⟨b0, o0, rfl, -, -, h0, -⟩ := wds_at hk.rv.p0 hq
  exact ⟨bt, ot, _, b0, o0, _, rfl, rfl, hc1, ht, hc0, h0⟩
end
/-- Step, and what it tells. -/
theorem stepX {w wr : World} {g n t : Nat} {s : SS} (h : LkAt w wr g n t s) (hT : t ≤ 1000000) (p : Int) :
    Calls Tryd.prog 12 #[.pointer (some ⟨g, 0, none⟩), .int .i64 p] wr fun e w' => ∃ u, e = .returned (.tuple #[.bool (stD n s p), u, errV 64 (stE n s p)]) ∧ ((stL n s p = none → u = .slice none 0 0) ∧ ∀ f, stL n s p = some f → Nums w' w'.heap.size u (lkS n f)) ∧ LkAt w w' g n (t + 1) (gst n s p) ∧ Touch (fun k => k = g) wr w' := by
  refine (stepT h hT p).mono ?_
  rintro e w' ⟨he, hl, ht⟩
  unfold GR at he
  by_cases hp : ¬ (0 ≤ p ∧ p < n)
  · rw [if_pos hp] at he
    have e1 : stE n s p = 1 := by unfold stE; rw [if_pos hp]
    have e2 : stL n s p = none := by unfold stL; rw [e1]; rfl
    refine ⟨_, ?_, ⟨fun _ => rfl, fun f hf => by rw [e2] at hf; cases hf⟩, hl, ht⟩
    rw [he, show stD n s p = false by unfold stD; rw [e1]; rfl, e1]
  · rw [if_neg hp] at he
    by_cases ha : (s.h p.toNat).a = 0
    · rw [if_pos ha] at he
      have e1 : stE n s p = 7 := by unfold stE; rw [if_neg hp, if_pos ha]
      have e2 : stL n s p = none := by unfold stL; rw [e1]; rfl
      refine ⟨_, ?_, ⟨fun _ => rfl, fun f hf => by rw [e2] at hf; cases hf⟩, hl, ht⟩
      rw [he, show stD n s p = false by unfold stD; rw [e1]; rfl, e1]
    · rw [if_neg ha] at he
      have e1 : stE n s p = 0 := by unfold stE; rw [if_neg hp, if_neg ha]
      have e2 : stL n s p = stold n s p.toNat := by unfold stL; rw [e1]; rfl
      obtain ⟨u, h1, h2, h3⟩ := he
      refine ⟨u, ?_, ⟨fun hn => h3 (e2 ▸ hn), fun f hf => (h2 f (e2 ▸ hf)).1⟩, hl, ht⟩
      rw [h1, show stD n s p = decide ((sone n s p.toNat).a = 0) by unfold stD; rw [e1]; rfl, e1]; rfl
theorem vals_of {W : World} {B n : Nat} {u : Value} {f : Nat → Nat} (h : Nums W B u (lkS n f)) (h1 : 1 ≤ n) : ∃ bv ov cv, u = .slice (some ⟨bv, ov, none⟩) n cv ∧ bv < B ∧ ∀ q, q < n → W.cell? ⟨bv, ov + q, none⟩ = some (.int .i64 ((f q : Nat) : Int)) := by
  obtain ⟨A, cv, rfl, -, h2⟩ := h
  obtain ⟨b, o, rfl, hb, hc⟩ := h2 (by rw [lkS_len]; omega)
  refine ⟨b, o, cv, by rw [lkS_len], hb, fun q hq => hc q _ ?_⟩
  unfold lkS; rw [List.getElem?_map, List.getElem?_range hq]; rfl
theorem errIs {cc : Int} {w W : World} (hg : ErrVar w) (hb : Below w.heap.size w W) : Calls Tryd.prog 6 #[errV 64 cc, .int .i64 cc] W fun e w' => e = .returned (.bool true) ∧ Below W.heap.size W w' :=
  (errorIs_any cc cc W (hg.below hb hg.lt)).mono fun _ _ ⟨he, hx⟩ => ⟨he.trans (by rw [decide_eq_true rfl]), hx⟩
theorem row_case (l : List Int) : (∃ x y, l = [x, y]) ∨ (∃ x, l = [x]) ∨ l.length ≠ 2 ∧ l.length ≠ 1 := by
  match l with
  | [] => exact .inr (.inr ⟨by simp, by simp⟩)
  | [x] => exact .inr (.inl ⟨x, rfl⟩)
  | [x, y] => exact .inl ⟨x, y, rfl⟩
  | _ :: _ :: _ :: _ => exact .inr (.inr ⟨by simp, by simp⟩)
end Go.Proofs.YtnplhjbbkccdnaaDoor.Snap
