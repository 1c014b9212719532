/-
  The reference of package snap: what StepBoard hands back, and how it is told of chapter 14's step.
-/
import Derived.Test.YtnplhjbbkccdnaaDoorSnpBK
import Derived.Deep.OwnRows
namespace Go.Proofs.YtnplhjbbkccdnaaDoor.Snap
open Go.RowKit

theorem nm_congr {F : Nat → Prop} {w : World} {v : Value} {n : Nat} {f f' : Nat → Int} (h : nm n f F w v) (e : ∀ i, i < n → f' i = f i) : nm n f' F w v := by
  have h1 : (List.range n).map (fun i => isInt (f' i)) = (List.range n).map (fun i => isInt (f i)) := List.map_congr_left fun i hi => by rw [e i (List.mem_range.1 hi)]
  unfold nm sl at h ⊢
  rw [h1]; exact h
theorem wds_congr {F : Nat → Prop} {w : World} {v : Value} {n m : Nat} {f f' : Nat → SW} (h : wds n m f F w v) (e : ∀ i, i < m → f' i = f i) : wds n m f' F w v := by
  unfold wds at h ⊢
  rw [wl_congr e]; exact h
/-- Hand q alone turns, and words maybe. -/
theorem BK.turn {F : Nat → Prop} {W : World} {n q : Nat} {s s' : SS} {u0 u1 u2 u3 u4 u5 u6 u7 : Value} {wd' : Nat → SW} {fa' fx : Nat → Int} {fb : Nat → Bool} {Gf Gl Gm Gs Hf Hl Hm Hs : Nat → Pd}
    (f : ∀ p, p < n → HKp n (s.h p) (fx p) (fb p) (Gf p) (Gl p) (Gm p) (Gs p)) (rv : RV F W u0 u1 u2 u3 u4 u5 u6 u7 (wds n n wd') (nm n fa') (nm n fx) (bl n fb) (sl n Hf) (sl n Hl) (sl n Hm) (sl n Hs))
    (hf : ∀ i, i < n → Stb (Hf i)) (hl : ∀ i, i < n → Stb (Hl i)) (hm : ∀ i, i < n → Stb (Hm i)) (hs : ∀ i, i < n → Stb (Hs i))
    (ew : ∀ i, i < n → s'.wd i = wd' i) (ea : ∀ p, p < n → (((s'.h p).a : Nat) : Int) = fa' p) (oh : ∀ p, p ≠ q → s'.h p = s.h p ∧ Hf p = Gf p ∧ Hl p = Gl p ∧ Hm p = Gm p ∧ Hs p = Gs p)
    (hq : HKp n (s'.h q) (fx q) (fb q) (Hf q) (Hl q) (Hm q) (Hs q)) : BK F W n s' u0 u1 u2 u3 u4 u5 u6 u7 fx fb Hf Hl Hm Hs := by
  refine ⟨⟨wds_congr rv.p0 ew, nm_congr rv.p1 ea, rv.p2, rv.p3, rv.p4, rv.p5, rv.p6, rv.p7, wds_stb _ _ _, nm_stb _ _, nm_stb _ _, bl_stb _ _, sl_stb hf, sl_stb hl, sl_stb hm, sl_stb hs⟩, hf, hl, hm, hs, fun p hp => ?_⟩
  by_cases e : p = q
  · subst e; exact hq
  · obtain ⟨e1, e2, e3, e4, e5⟩ := oh p e
    rw [e1, e2, e3, e4, e5]
    exact f p hp
/-- What StepBoard hands back: done, what is told, what is wrong. -/
def StpT (F : Nat → Prop) (w w' : World) (n : Nat) (D : Bool) (T : Option (Nat → Nat)) (E : Int) (s : SS) (e : Ending) : Prop := ∃ u0 u1 u2 u3 u4 u5 u6 u7 tv gx gb Hf Hl Hm Hs, e = .returned (.tuple #[.agg #[u0, u1, u2, u3, u4, u5, u6, u7], .bool D, tv, .int .i64 E]) ∧
  ((T = none → tv = .slice none 0 0) ∧ ∀ f, T = some f → nm n (fun r => ((f r : Nat) : Int)) F w' tv) ∧ BK F w' n s u0 u1 u2 u3 u4 u5 u6 u7 gx gb Hf Hl Hm Hs ∧ Below w.heap.size w w'
theorem StpT.of {F : Nat → Prop} {w w' : World} {n : Nat} {D : Bool} {T : Option (Nat → Nat)} {E : Int} {s : SS} {e : Ending} (h : ∃ u0 u1 u2 u3 u4 u5 u6 u7 tv gx gb Hf Hl Hm Hs, e = .returned (.tuple #[.agg #[u0, u1, u2, u3, u4, u5, u6, u7], .bool D, tv, .int .i64 E]) ∧
  ((T = none → tv = .slice none 0 0) ∧ ∀ f, T = some f → nm n (fun r => ((f r : Nat) : Int)) F w' tv) ∧ BK F w' n s u0 u1 u2 u3 u4 u5 u6 u7 gx gb Hf Hl Hm Hs ∧ Below w.heap.size w w') : StpT F w w' n D T E s e := h
theorem told_none {F : Nat → Prop} {w' : World} {n : Nat} : ((none : Option (Nat → Nat)) = none → Value.slice none 0 0 = .slice none 0 0) ∧ ∀ f, (none : Option (Nat → Nat)) = some f → nm n (fun r => ((f r : Nat) : Int)) F w' (.slice none 0 0) := ⟨fun _ => rfl, fun _ h => by cases h⟩
theorem told_some {F : Nat → Prop} {w' : World} {n : Nat} {f : Nat → Nat} {tv : Value} (h : nm n (fun r => ((f r : Nat) : Int)) F w' tv) : ((some f : Option (Nat → Nat)) = none → tv = .slice none 0 0) ∧ ∀ g, (some f : Option (Nat → Nat)) = some g → nm n (fun r => ((g r : Nat) : Int)) F w' tv := ⟨fun h => (by cases h), fun g e => by rw [← Option.some.inj e]; exact h⟩
/-- A row of words of one's own in which one is written anew. -/
theorem own_words {F : Nat → Prop} {w W : World} {n q g cap : Nat} {wd : Nat → SW} {e : TypeId} {us : List Value} {x t : Nat} {sf : Nat → Nat} {As : Option Addr} {cs : Nat} (ho : W.ownsRow w.heap.size e 3 (.slice (some ⟨g, 0, none⟩) n cap) n us) (hF : ∀ b, F b → b < w.heap.size) (hw : Below w.heap.size w W)
    (hul : us.length = n * 3) (hus : ∀ (i : Nat) P, (wl n n wd)[i]? = some P → ∃ u, us[i]? = some u ∧ P F w u) (hq : q < n) (hs : nm n (fun r => ((sf r : Nat) : Int)) F w (.slice As n cs)) :
    wds n n (nput wd q ⟨x, t, sf⟩) F (((W.setCell ⟨g, q * 3, none⟩ (.int .i64 ((x : Nat) : Int))).setCell ⟨g, q * 3 + 1, none⟩ (.int .i64 ((t : Nat) : Int))).setCell ⟨g, q * 3 + 2, none⟩ (.slice As n cs)) (.slice (some ⟨g, 0, none⟩) n cap) ∧
      Below w.heap.size w (((W.setCell ⟨g, q * 3, none⟩ (.int .i64 ((x : Nat) : Int))).setCell ⟨g, q * 3 + 1, none⟩ (.int .i64 ((t : Nat) : Int))).setCell ⟨g, q * 3 + 2, none⟩ (.slice As n cs)) := by
  have hg := ho.lt g rfl
  have hb : Below w.heap.size w (((W.setCell ⟨g, q * 3, none⟩ (.int .i64 ((x : Nat) : Int))).setCell ⟨g, q * 3 + 1, none⟩ (.int .i64 ((t : Nat) : Int))).setCell ⟨g, q * 3 + 2, none⟩ (.slice As n cs)) := ((hw.setCell (p := ⟨g, q * 3, none⟩) hg.1 _).setCell (p := ⟨g, q * 3 + 1, none⟩) hg.1 _).setCell (p := ⟨g, q * 3 + 2, none⟩) hg.1 _
  refine ⟨?_, hb⟩
  have ho3 := ((ho.stored (q * 3) (.int .i64 ((x : Nat) : Int))).1.stored (q * 3 + 1) (.int .i64 ((t : Nat) : Int))).1.stored (q * 3 + 2) (.slice As n cs)
  have hl := wl_len n n (nput wd q ⟨x, t, sf⟩)
  have hl2 := wl_len n n wd
  refine SL.own ho3.1 hF (by simp [hul, hl]) (by rw [hl]; omega) fun i P hP => ?_
  have hi : i < n * 3 := by rw [← hl]; exact (List.getElem?_eq_some_iff.1 hP).1
  have hst := wl_stb n n _ P (List.mem_of_getElem? hP)
  obtain ⟨j, r, hij, hr⟩ : ∃ j r, i = j * 3 + r ∧ r < 3 := ⟨i / 3, i % 3, by omega, by omega⟩
  have hjn : j < n := by omega
  obtain ⟨g0, g1, g2⟩ := wl_get (n := n) (f := nput wd q ⟨x, t, sf⟩) hjn
  by_cases e : j = q
  · subst e
    rw [nput_same] at g0 g1 g2
    have h3 : r = 0 ∨ r = 1 ∨ r = 2 := by omega
    rcases h3 with rfl | rfl | rfl
    · rw [Nat.add_zero] at hij; subst hij
      rw [g0] at hP
      rw [← Option.some.inj hP]
      exact ⟨_, by rw [List.getElem?_set_ne (by omega), List.getElem?_set_ne (by omega), List.getElem?_set_self (by omega)], rfl⟩
    · subst hij
      rw [g1] at hP
      rw [← Option.some.inj hP]
      exact ⟨_, by rw [List.getElem?_set_ne (by omega), List.getElem?_set_self (by simp; omega)], rfl⟩
    · subst hij
      rw [g2] at hP
      rw [← Option.some.inj hP]
      exact ⟨_, by rw [List.getElem?_set_self (by simp; omega)], (nm_stb _ _).below hb hs⟩
  · have hPw : (wl n n wd)[i]? = some P := by
      obtain ⟨k0, k1, k2⟩ := wl_get (n := n) (f := wd) hjn
      rw [nput_other e] at g0 g1 g2
      have h3 : r = 0 ∨ r = 1 ∨ r = 2 := by omega
      rcases h3 with rfl | rfl | rfl
      · rw [Nat.add_zero] at hij; subst hij; rw [k0, ← g0]; exact hP
      · subst hij; rw [k1, ← g1]; exact hP
      · subst hij; rw [k2, ← g2]; exact hP
    obtain ⟨u, hu, hp⟩ := hus i P hPw
    exact ⟨u, by rw [List.getElem?_set_ne (by omega), List.getElem?_set_ne (by omega), List.getElem?_set_ne (by omega)]; exact hu, hst.below hb hp⟩
/-- How often hands moved, of the first r by the new words. -/
def mvr (b : SB) (l : Nat → SW) (r : Nat) : Nat → Int := fun j => if j < r then ((smvd b l j : Nat) : Int) else ((b.mv j : Nat) : Int)
theorem mvr_zero (b : SB) (l : Nat → SW) : mvr b l 0 = fun j => ((b.mv j : Nat) : Int) := funext fun j => if_neg (Nat.not_lt_zero j)
theorem mvr_same {b : SB} {l : Nat → SW} {r : Nat} (h : (b.f r).t = (l r).t) : mvr b l (r + 1) = mvr b l r := funext fun j => by
  unfold mvr
  by_cases e : j = r
  · subst e
    rw [if_pos (Nat.lt_succ_self _), if_neg (Nat.lt_irrefl _)]
    unfold smvd; rw [if_pos h]; rfl
  · by_cases e2 : j < r
    · rw [if_pos (by omega), if_pos e2]
    · rw [if_neg (by omega), if_neg e2]
theorem mvr_step {b : SB} {l : Nat → SW} {r : Nat} (h : (b.f r).t ≠ (l r).t) : rput (mvr b l r) r ((b.mv r + 1 : Nat) : Int) = mvr b l (r + 1) := funext fun j => by
  by_cases e : j = r
  · subst e
    rw [rput_same]
    unfold mvr
    rw [if_pos (Nat.lt_succ_self _)]
    unfold smvd; rw [if_neg h]
  · rw [rput_other e]
    unfold mvr
    by_cases e2 : j < r
    · rw [if_pos e2, if_pos (by omega)]
    · rw [if_neg e2, if_neg (by omega)]
/-- Whom it is helped by so far; -1: nobody. -/
def hlp (b : SB) (l : Nat → SW) (r : Nat) : Int := match sfind (fun q => decide (smvd b l q = 2)) r with | some q => (q : Int) | none => -1
/-- Whether all are the same so far. -/
def alk (b : SB) (l : Nat → SW) (r : Nat) : Bool := match sfind (fun q => decide ((b.f q).t ≠ (l q).t)) r with | some _ => false | none => true
theorem alk_same {b : SB} {l : Nat → SW} {r : Nat} (h : (b.f r).t = (l r).t) : alk b l (r + 1) = alk b l r := by
  unfold alk
  rw [show sfind (fun q => decide ((b.f q).t ≠ (l q).t)) (r + 1) = sfind (fun q => decide ((b.f q).t ≠ (l q).t)) r from by
    show (match sfind _ r with | some q => some q | none => if decide ((b.f r).t ≠ (l r).t) = true then some r else none) = _
    cases sfind (fun q => decide ((b.f q).t ≠ (l q).t)) r with
    | some q => rfl
    | none => simp [h]]
theorem alk_step {b : SB} {l : Nat → SW} {r : Nat} (h : (b.f r).t ≠ (l r).t) : alk b l (r + 1) = false := by
  unfold alk
  have : ∃ q, sfind (fun q => decide ((b.f q).t ≠ (l q).t)) (r + 1) = some q := by
    show ∃ q, (match sfind _ r with | some q => some q | none => if decide ((b.f r).t ≠ (l r).t) = true then some r else none) = some q
    cases sfind (fun q => decide ((b.f q).t ≠ (l q).t)) r with
    | some q => exact ⟨q, rfl⟩
    | none => exact ⟨r, by simp [h]⟩
  obtain ⟨q, hq⟩ := this
  rw [hq]
theorem hlp_same {b : SB} {l : Nat → SW} {r : Nat} (h : smvd b l r ≠ 2) : hlp b l (r + 1) = hlp b l r := by
  unfold hlp
  rw [show sfind (fun q => decide (smvd b l q = 2)) (r + 1) = sfind (fun q => decide (smvd b l q = 2)) r from by
    show (match sfind _ r with | some q => some q | none => if decide (smvd b l r = 2) = true then some r else none) = _
    cases sfind (fun q => decide (smvd b l q = 2)) r with
    | some q => rfl
    | none => simp [h]]
theorem hlp_on {b : SB} {l : Nat → SW} {r : Nat} (h : ¬ hlp b l r < 0) : hlp b l (r + 1) = hlp b l r := by
  unfold hlp at h ⊢
  cases e : sfind (fun q => decide (smvd b l q = 2)) r with
  | none => rw [e] at h; exact absurd (by decide) h
  | some q =>
    rw [show sfind (fun q => decide (smvd b l q = 2)) (r + 1) = some q from by
      show (match sfind _ r with | some q => some q | none => if decide (smvd b l r = 2) = true then some r else none) = _
      rw [e]]
theorem hlp_step {b : SB} {l : Nat → SW} {r : Nat} (h : hlp b l r < 0) (h2 : smvd b l r = 2) : hlp b l (r + 1) = (r : Int) := by
  unfold hlp at h ⊢
  cases e : sfind (fun q => decide (smvd b l q = 2)) r with
  | some q => rw [e] at h; have h : (q : Int) < 0 := h; omega
  | none =>
    rw [show sfind (fun q => decide (smvd b l q = 2)) (r + 1) = some r from by
      show (match sfind _ r with | some q => some q | none => if decide (smvd b l r = 2) = true then some r else none) = _
      rw [e]; simp [h2]]
/-- What is seen behind all of it. -/
theorem see_cases (n : Nat) (b : SB) (l : Nat → SW) : (∃ j : Nat, j < n ∧ hlp b l n = (j : Int) ∧ ssee n b l = some (l j).s) ∨ (hlp b l n = -1 ∧ alk b l n = true ∧ ssee n b l = some fun q => (l q).v) ∨ (hlp b l n = -1 ∧ alk b l n = false ∧ ssee n b l = none) := by
  unfold hlp alk ssee
  cases e : sfind (fun q => decide (smvd b l q = 2)) n with
  | some q => exact .inl ⟨q, (sfind_some e).1, rfl, rfl⟩
  | none =>
    cases e2 : sfind (fun q => decide ((b.f q).t ≠ (l q).t)) n with
    | some q => exact .inr (.inr ⟨rfl, rfl, rfl⟩)
    | none => exact .inr (.inl ⟨rfl, rfl, rfl⟩)
end Go.Proofs.YtnplhjbbkccdnaaDoor.Snap
