/-
  The walk of latchgarthlaw4.DequePlays: the deque and the reference's, beside each other.
-/
import Derived.Test.YtbicckeoidijpaaDoorDqRefA
import Derived.Test.YtbicckeoidijpaaDoorDqRefB
import Derived.Test.YtbicckeoidijpaaDoorDqRefC
import Derived.Test.YtbicckeoidijpaaDoorDqRefD
import Derived.Test.YtbicckeoidijpaaDoorDqRefE
import Derived.Test.YtbicckeoidijpaaDoorDequeAt
import Derived.Test.YtbicckeoidijpaaDoorRws
import Derived.Test.YtbicckeoidijpaaDoorInts
import Derived.Test.YtbicckeoidijpaaDoorAs2
import Derived.Deep.DeepCutAuto
namespace Go.Proofs.YtbicckeoidijpaaDoor.Dq
open Go.RowKit Rf

theorem PR.refl (s : DV) : PR s s := ⟨rfl, rfl, rfl, rfl, fun _ _ => rfl, fun _ _ => rfl, fun _ _ => rfl⟩
/-- StepDeque: what is told, in one. -/
theorem refstep_any {F : Nat → Prop} {n : Nat} {s : DV} {v0 v1 v2 v3 v4 v5 v6 : Value} (w : World) (h : RD F w n s v0 v1 v2 v3 v4 v5 v6) (hF : ∀ b, F b → b < w.heap.size) (h4 : n ≤ 4) (ok : DVOk s) (hA : s.T ≤ 1000000) (p : Int) :
    Calls Tryd.prog 12 #[.agg #[v0, v1, v2, v3, v4, v5, v6], .int .i64 p] w fun e w' => DpT F w w' n (sStpS n s p) (sStpD n s p) (sStpG n s p) (sStpE n s p) e := by
  by_cases hp : 0 ≤ p ∧ p < n
  · obtain ⟨q, rfl⟩ := Int.eq_ofNat_of_zero_le hp.1
    have hq : q < n := by omega
    by_cases ha : s.a q = 0
    · have he : sStpE n s q = 7 := by unfold sStpE; rw [if_neg (show ¬ ¬ (0 ≤ (q : Int) ∧ (q : Int) < n) from fun h => h hp), if_pos (show s.a (q : Int).toNat = 0 by simpa using ha)]
      have hd : sStpD n s q = false := by unfold sStpD; rw [he]; rfl
      have hg : sStpG n s q = 0 := by unfold sStpG; rw [he]; rfl
      have hs : sStpS n s q = s := by unfold sStpS; rw [he]; rfl
      rw [hg, hd, hs, he]
      exact d_rest w h hF h4 hq ha
    · have he : sStpE n s q = 0 := by unfold sStpE; rw [if_neg (show ¬ ¬ (0 ≤ (q : Int) ∧ (q : Int) < n) from fun h => h hp), if_neg (show ¬ s.a (q : Int).toNat = 0 by simpa using ha)]
      have hd : sStpD n s q = dvfin s q := by unfold sStpD; rw [he]; rfl
      have hg : sStpG n s q = dvtold s q := by unfold sStpG; rw [he]; rfl
      have hs : sStpS n s q = dvstp s q := by unfold sStpS; rw [he]; rfl
      rw [hg, hd, hs, he]
      have L := (PR.refl s).loc ok hA q
      have hln := L.ln
      have hc : s.a q = 1 ∨ s.a q = 2 ∨ s.a q = 3 ∨ s.a q = 4 ∨ s.a q = 5 ∨ s.a q = 6 ∨ s.a q = 7 ∨ s.a q = 8 ∨ s.a q = 9 ∨ s.a q = 10 ∨ s.a q = 11 ∨ s.a q = 12 := by omega
      rcases hc with a | a | a | a | a | a | a | a | a | a | a | a
      · by_cases hf : (s.T : Int) + 8 ≤ s.B
        · rw [(Go.Proofs.YtbicckeoidijpaaDoor.v1y (s := s) a hf).2.1, (Go.Proofs.YtbicckeoidijpaaDoor.v1y (s := s) a hf).2.2]
          exact d1y w h hF h4 hq a L.T L.B hf
        · rw [(Go.Proofs.YtbicckeoidijpaaDoor.v1n (s := s) a hf).2.1, (Go.Proofs.YtbicckeoidijpaaDoor.v1n (s := s) a hf).2.2]
          exact d1n w h hF h4 hq a L.T L.B hf
      · rw [(Go.Proofs.YtbicckeoidijpaaDoor.v2 (s := s) a).2.1, (Go.Proofs.YtbicckeoidijpaaDoor.v2 (s := s) a).2.2]
        exact d2 w h hF h4 hq a (L.two a)
      · rw [(Go.Proofs.YtbicckeoidijpaaDoor.v3 (s := s) a).2.1, (Go.Proofs.YtbicckeoidijpaaDoor.v3 (s := s) a).2.2]
        exact d3 w h hF h4 hq a L.B
      · rw [(Go.Proofs.YtbicckeoidijpaaDoor.v4 (s := s) a).2.1, (Go.Proofs.YtbicckeoidijpaaDoor.v4 (s := s) a).2.2]
        exact d4 w h hF h4 hq a L.B
      · by_cases hf : (s.T : Int) < s.b q
        · rw [(v5y (s := s) a hf).2.1, (v5y (s := s) a hf).2.2]
          exact d5y w h hF h4 hq a hf
        · by_cases he : s.b q = s.T
          · rw [(v5e (s := s) a hf he).2.1, (v5e (s := s) a hf he).2.2]
            exact d5e w h hF h4 hq a hf he
          · rw [(v5n (s := s) a hf he).2.1, (v5n (s := s) a hf he).2.2]
            exact d5n w h hF h4 hq a hf he
      · rw [(Go.Proofs.YtbicckeoidijpaaDoor.v6 (s := s) a).2.1, (Go.Proofs.YtbicckeoidijpaaDoor.v6 (s := s) a).2.2]
        exact d6 w h hF h4 hq a
      · by_cases hf : s.T = s.t q
        · rw [(Go.Proofs.YtbicckeoidijpaaDoor.v7y (s := s) a hf).2.1, (Go.Proofs.YtbicckeoidijpaaDoor.v7y (s := s) a hf).2.2]
          exact d7y w h hF h4 hq a L.T hf (L.seven a).1
        · rw [(Go.Proofs.YtbicckeoidijpaaDoor.v7n (s := s) a hf).2.1, (Go.Proofs.YtbicckeoidijpaaDoor.v7n (s := s) a hf).2.2]
          exact d7n w h hF h4 hq a hf
      · rw [(Go.Proofs.YtbicckeoidijpaaDoor.v8 (s := s) a).2.1, (Go.Proofs.YtbicckeoidijpaaDoor.v8 (s := s) a).2.2]
        exact d8 w h hF h4 hq a (L.t (.inl a))
      · rw [(Go.Proofs.YtbicckeoidijpaaDoor.v9 (s := s) a).2.1, (Go.Proofs.YtbicckeoidijpaaDoor.v9 (s := s) a).2.2]
        exact d9 w h hF h4 hq a
      · by_cases hf : s.B ≤ (s.t q : Int)
        · rw [(Go.Proofs.YtbicckeoidijpaaDoor.v10y (s := s) a hf).2.1, (Go.Proofs.YtbicckeoidijpaaDoor.v10y (s := s) a hf).2.2]
          exact d10y w h hF h4 hq a hf
        · rw [(Go.Proofs.YtbicckeoidijpaaDoor.v10n (s := s) a hf).2.1, (Go.Proofs.YtbicckeoidijpaaDoor.v10n (s := s) a hf).2.2]
          exact d10n w h hF h4 hq a hf
      · rw [(Go.Proofs.YtbicckeoidijpaaDoor.v11 (s := s) a).2.1, (Go.Proofs.YtbicckeoidijpaaDoor.v11 (s := s) a).2.2]
        exact d11 w h hF h4 hq a
      · by_cases hf : s.T = s.t q
        · rw [(Go.Proofs.YtbicckeoidijpaaDoor.v12y (s := s) a hf).2.1, (Go.Proofs.YtbicckeoidijpaaDoor.v12y (s := s) a hf).2.2]
          exact d12y w h hF h4 hq a L.T hf
        · rw [(Go.Proofs.YtbicckeoidijpaaDoor.v12n (s := s) a hf).2.1, (Go.Proofs.YtbicckeoidijpaaDoor.v12n (s := s) a hf).2.2]
          exact d12n w h hF h4 hq a hf
  · have he : sStpE n s p = 1 := by unfold sStpE; rw [if_pos hp]
    have hd : sStpD n s p = false := by unfold sStpD; rw [he]; rfl
    have hg : sStpG n s p = 0 := by unfold sStpG; rw [he]; rfl
    have hs : sStpS n s p = s := by unfold sStpS; rw [he]; rfl
    rw [hg, hd, hs, he]
    exact d_bad w h hF h4 p hp
/-- BeginDeque, in one. -/
theorem refbeg_any {F : Nat → Prop} {n : Nat} {s : DV} {v0 v1 v2 v3 v4 v5 v6 : Value} (w : World) (h : RD F w n s v0 v1 v2 v3 v4 v5 v6) (hF : ∀ b, F b → b < w.heap.size) (h4 : n ≤ 4) {q : Nat} (hq : q < n) (l : Nat) (x : Int) :
    Calls Tryd.prog 8 #[.agg #[v0, v1, v2, v3, v4, v5, v6], .int .i64 (q : Int), .int .i64 (l : Int), .int .i64 x] w fun e w' => BgT F w w' n (sBegS s q l x) (sBegE s q) e := by
  by_cases ha : s.a q = 0
  · rw [show sBegE s q = 0 from if_pos ha, show sBegS s q l x = dvbeg s q l x from if_pos ha]
    exact refbegin_some w h hF h4 hq ha l x
  · rw [show sBegE s q = 7 from if_neg ha, show sBegS s q l x = s from if_neg ha]
    exact refbegin_busy w h hF h4 hq ha l x
section
variable {F F' O : Nat → Prop} {W W' : World} {n : Nat} {v : DV} {v0 v1 v2 v3 v4 v5 v6 : Value}
theorem RD.below (h : RD F W n v v0 v1 v2 v3 v4 v5 v6) (hb : Below W.heap.size W W') : RD F W' n v v0 v1 v2 v3 v4 v5 v6 := RV.below h hb
theorem RD.touch (h : RD F W n v v0 v1 v2 v3 v4 v5 v6) (ht : Touch O W W') (hO : ∀ b, b < W.heap.size → O b → F b) : RD F W' n v v0 v1 v2 v3 v4 v5 v6 := RV.touch h ht hO
theorem RD.more (h : RD F W n v v0 v1 v2 v3 v4 v5 v6) (hF : ∀ b, b < W.heap.size → F' b → F b) : RD F' W n v v0 v1 v2 v3 v4 v5 v6 := RV.more h hF
theorem RD.forms (h : RD F W n v v0 v1 v2 v3 v4 v5 v6) : v1 = .int .i64 ((v.T : Nat) : Int) ∧ v2 = .int .i64 v.B ∧ ∃ A0 c0 A3 c3 A4 c4 A5 c5 A6 c6, v0 = .slice A0 8 c0 ∧ v3 = .slice A3 n c3 ∧ v4 = .slice A4 n c4 ∧ v5 = .slice A5 n c5 ∧ v6 = .slice A6 n c6 := by
  obtain ⟨A0, c0, e0⟩ := SL.form h.p0
  obtain ⟨A3, c3, e3⟩ := SL.form h.p3
  obtain ⟨A4, c4, e4⟩ := SL.form h.p4
  obtain ⟨A5, c5, e5⟩ := SL.form h.p5
  obtain ⟨A6, c6, e6⟩ := SL.form h.p6
  exact ⟨h.p1, h.p2, A0, c0, A3, c3, A4, c4, A5, c5, A6, c6, e0, e3, e4, e5, e6⟩
end
/-- The deque in block g, which is as s says; the reference's deque, in block b, which is as v says. -/
structure UP (w W : World) (g b n : Nat) (s : DV) (A : Nat) (v : DV) (v0 v1 v2 v3 v4 v5 v6 : Value) : Prop where
  lk : LkAt w W g n s A
  box : Block W b 31 #[v0, v1, v2, v3, v4, v5, v6]
  gb : g < b
  rk : RD (fun x => x = g ∨ x = b) W n v v0 v1 v2 v3 v4 v5 v6
section
variable {w W W' : World} {g b n A A' : Nat} {s s' v v' : DV} {v0 v1 v2 v3 v4 v5 v6 u0 u1 u2 u3 u4 u5 u6 : Value}
theorem UP.low (h : UP w W g b n s A v v0 v1 v2 v3 v4 v5 v6) : w.heap.size ≤ b := by have := h.lk.new; have := h.gb; omega
theorem UP.F (h : UP w W g b n s A v v0 v1 v2 v3 v4 v5 v6) : ∀ x, (x = g ∨ x = b) → x < W.heap.size := fun x hx => by
  have := h.lk.lt
  have := h.box.lt
  rcases hx with rfl | rfl <;> assumption
theorem UP.call (h : UP w W g b n s A v v0 v1 v2 v3 v4 v5 v6) (hb : Below W.heap.size W W') : UP w W' g b n s A v v0 v1 v2 v3 v4 v5 v6 :=
  ⟨h.lk.on hb (Nat.le_refl _), h.box.below hb h.box.lt, h.gb, h.rk.below hb⟩
theorem UP.turn (h : UP w W g b n s A v v0 v1 v2 v3 v4 v5 v6) (hl : LkAt w W' g n s' A') (ht : Touch (fun k => k = g) W W') : UP w W' g b n s' A' v v0 v1 v2 v3 v4 v5 v6 :=
  ⟨hl, h.box.touch ht (by have := h.gb; omega), h.gb, h.rk.touch ht fun x _ e => Or.inl e⟩
theorem UP.older (h : UP w W g b n s A v v0 v1 v2 v3 v4 v5 v6) (hA : A ≤ A') : UP w W g b n s A' v v0 v1 v2 v3 v4 v5 v6 := ⟨h.lk.older hA, h.box, h.gb, h.rk⟩
theorem UP.drewN (h : UP w W g b n s A v v0 v1 v2 v3 v4 v5 v6) (i : Nat) : UP w (W.drewN i) g b n s A v v0 v1 v2 v3 v4 v5 v6 := h.call (below_drewN (Below.refl _ W) i)
theorem UP.drew (h : UP w W g b n s A v v0 v1 v2 v3 v4 v5 v6) : UP w W.drew g b n s A v v0 v1 v2 v3 v4 v5 v6 := h.call (Below.refl _ W).drew
/-- The reference's deque is written anew. -/
theorem UP.store (h : UP w W g b n s A v v0 v1 v2 v3 v4 v5 v6) (hr : RD (fun x => x = g ∨ x = b) W n v' u0 u1 u2 u3 u4 u5 u6) : UP w (((((((W.setCell ⟨b, 0, none⟩ u0).setCell ⟨b, 1, none⟩ u1).setCell ⟨b, 2, none⟩ u2).setCell ⟨b, 3, none⟩ u3).setCell ⟨b, 4, none⟩ u4).setCell ⟨b, 5, none⟩ u5).setCell ⟨b, 6, none⟩ u6) g b n s A v' u0 u1 u2 u3 u4 u5 u6 := by
  have hw := h.low
  have hgb := h.gb
  have hb : Below w.heap.size w (((((((W.setCell ⟨b, 0, none⟩ u0).setCell ⟨b, 1, none⟩ u1).setCell ⟨b, 2, none⟩ u2).setCell ⟨b, 3, none⟩ u3).setCell ⟨b, 4, none⟩ u4).setCell ⟨b, 5, none⟩ u5).setCell ⟨b, 6, none⟩ u6) := (((((((h.lk.below.setCell hw _).setCell hw _).setCell hw _).setCell hw _).setCell hw _).setCell hw _).setCell hw _)
  have ht : Touch (fun x => x = b) W (((((((W.setCell ⟨b, 0, none⟩ u0).setCell ⟨b, 1, none⟩ u1).setCell ⟨b, 2, none⟩ u2).setCell ⟨b, 3, none⟩ u3).setCell ⟨b, 4, none⟩ u4).setCell ⟨b, 5, none⟩ u5).setCell ⟨b, 6, none⟩ u6) := ((((((((Touch.refl (fun x => x = b) W).setCell (p := ⟨b, 0, none⟩) (Or.inl rfl) u0).setCell (p := ⟨b, 1, none⟩) (Or.inl rfl) u1).setCell (p := ⟨b, 2, none⟩) (Or.inl rfl) u2).setCell (p := ⟨b, 3, none⟩) (Or.inl rfl) u3).setCell (p := ⟨b, 4, none⟩) (Or.inl rfl) u4).setCell (p := ⟨b, 5, none⟩) (Or.inl rfl) u5).setCell (p := ⟨b, 6, none⟩) (Or.inl rfl) u6)
  refine ⟨h.lk.touch ht fun k hk => by omega, ?_, hgb, hr.touch ht fun x _ e => Or.inr e⟩
  have := (((((((h.box.put 0 u0).put 1 u1).put 2 u2).put 3 u3).put 4 u4).put 5 u5).put 6 u6)
  simpa using this
theorem UP.q (h : UP w W g b n s A v v0 v1 v2 v3 v4 v5 v6) : W.cell? ⟨b, 0, none⟩ = some v0 ∧ W.cell? ⟨b, 1, none⟩ = some v1 ∧ W.cell? ⟨b, 2, none⟩ = some v2 ∧ W.cell? ⟨b, 3, none⟩ = some v3 ∧ W.cell? ⟨b, 4, none⟩ = some v4 ∧ W.cell? ⟨b, 5, none⟩ = some v5 ∧ W.cell? ⟨b, 6, none⟩ = some v6 := ⟨h.box.cell 0, h.box.cell 1, h.box.cell 2, h.box.cell 3, h.box.cell 4, h.box.cell 5, h.box.cell 6⟩
end
theorem errIs {c : Int} {w W : World} (hg : ErrVar w) (hb : Below w.heap.size w W) : Calls Tryd.prog 5 #[errV 48 c, .int .i64 c] W fun e w' => e = .returned (.bool true) ∧ Below W.heap.size W w' :=
  (errorIs_any c c W (hg.below hb hg.lt)).mono fun _ _ ⟨he, hx⟩ => ⟨he.trans (by rw [decide_eq_true rfl]), hx⟩
theorem row_case (l : List Int) : (∃ x y, l = [x, y]) ∨ (∃ x, l = [x]) ∨ l.length ≠ 2 ∧ l.length ≠ 1 := by
  match l with
  | [] => exact .inr (.inr ⟨by simp, by simp⟩)
  | [x] => exact .inr (.inl ⟨x, rfl⟩)
  | [x, y] => exact .inl ⟨x, y, rfl⟩
  | _ :: _ :: _ :: _ => exact .inr (.inr ⟨by simp, by simp⟩)
theorem sAt_in {n : Nat} {s : DV} {p : Nat} (h : p < n) : sAt n s p = s.a p := by
  rw [sAt, if_pos (by omega)]; rfl
end Go.Proofs.YtbicckeoidijpaaDoor.Dq
