/-
  What the law UnivOne writes down, and what of it is asked at the end.
-/
import Derived.Test.YtegplglokaoemaaUnivFact
import Derived.Test.YtegplglokaoemaaRws
import Derived.Test.YtegplglokaoemaaRowsG
namespace Go.Proofs.Ytegplglokaoemaa.Univ
open Go.RowKit

def xa (s : UG) : List Int := rowOf s.v.k fun d => ((s.v.add d : Nat) : Int)
def xg (s : UG) : List Int := rowOf s.v.k fun d => ((s.got d : Nat) : Int) - 1
def xb (s : UG) : List Int := rowOf s.v.k fun d => ((s.bt d : Nat) : Int)
def xe (s : UG) : List Int := rowOf s.v.k fun d => ((s.et d : Nat) : Int)
section
variable {n T : Nat} {s : UG}
theorem got_new (h : UF n T s) : s.got s.v.k = 0 := by
  rcases Nat.eq_zero_or_pos (s.got s.v.k) with h1 | h1
  · exact h1
  · have := (h.ok.gt s.v.k (by omega)).1; omega
theorem xa_beg (p x : Nat) : xa (ugbeg s T p x) = xa s ++ [(x : Int)] :=
  rowOf_more (m := s.v.k) (fun i hi => by show ((uput s.v.add s.v.k x i : Nat) : Int) = _; rw [uput_other (by omega)]) (by show ((uput s.v.add s.v.k x s.v.k : Nat) : Int) = _; rw [uput_same])
theorem xg_beg (h : UF n T s) (p x : Nat) : xg (ugbeg s T p x) = xg s ++ [-1] :=
  rowOf_more (m := s.v.k) (fun i hi => rfl) (by show ((s.got s.v.k : Nat) : Int) - 1 = _; rw [got_new h]; rfl)
theorem xb_beg (p x : Nat) : xb (ugbeg s T p x) = xb s ++ [(T : Int)] :=
  rowOf_more (m := s.v.k) (fun i hi => by show ((uput s.bt s.v.k T i : Nat) : Int) = _; rw [uput_other (by omega)]) (by show ((uput s.bt s.v.k T s.v.k : Nat) : Int) = _; rw [uput_same])
theorem xe_beg (h : UF n T s) (p x : Nat) : xe (ugbeg s T p x) = xe s ++ [1000] :=
  rowOf_more (m := s.v.k) (fun i hi => rfl) (by show ((s.et s.v.k : Nat) : Int) = _; rw [h.ok.en _ (got_new h)]; rfl)
theorem xg_end {p : Nat} (hu : ulast s.v p) : xg (ugstep s T p) = (xg s).set (s.v.h p).e ((s.v.h p).s : Int) := by
  have e : (ugstep s T p).got = uput s.got (s.v.h p).e ((s.v.h p).s + 1) := if_pos hu
  refine rowOf_set (m := s.v.k) (fun i _ hi => ?_) ?_
  · rw [e, uput_other hi]
  · rw [e, uput_same]; omega
theorem xe_end {p : Nat} (hu : ulast s.v p) : xe (ugstep s T p) = (xe s).set (s.v.h p).e (T : Int) := by
  have e : (ugstep s T p).et = uput s.et (s.v.h p).e T := if_pos hu
  refine rowOf_set (m := s.v.k) (fun i _ hi => ?_) ?_
  · rw [e, uput_other hi]
  · rw [e, uput_same]
theorem xg_not {p : Nat} (hu : ¬ ulast s.v p) : xg (ugstep s T p) = xg s := by
  have e : (ugstep s T p).got = s.got := if_neg hu
  unfold xg; rw [e]; rfl
theorem xe_not {p : Nat} (hu : ¬ ulast s.v p) : xe (ugstep s T p) = xe s := by
  have e : (ugstep s T p).et = s.et := if_neg hu
  unfold xe; rw [e]; rfl
/-- The deed of each hand that does something, as the law has it. -/
def Mi (n : Nat) (s : UG) (f : Nat → Int) : Prop := ∀ p, p < n → (s.v.h p).a ≠ 0 → f p = ((s.v.h p).e : Int)
theorem mi_new (n : Nat) (f : Nat → Int) : Mi n ugnew f := fun _ _ h => absurd rfl h
theorem mi_beg {f : Nat → Int} (h : Mi n s f) (p x : Nat) : Mi n (ugbeg s T p x) (rput f p (s.v.k : Int)) := fun q hq ha => by
  by_cases e : q = p
  · subst e
    rw [rput_same]
    show _ = (((uput s.v.h q ⟨1, 0, 0, s.v.k⟩) q).e : Int)
    rw [uput_same]
  · have e1 : (ugbeg s T p x).v.h q = s.v.h q := uput_other e
    rw [rput_other e, e1]
    rw [e1] at ha
    exact h q hq ha
theorem mi_stp {f : Nat → Int} (h : Mi n s f) {p : Nat} (hp : p < n) (h0 : (s.v.h p).a ≠ 0) : Mi n (ugstep s T p) f := fun q hq ha => by
  by_cases e : q = p
  · subst e
    have e1 : (ugstep s T q).v.h q = uone s.v q := uput_same _ _ _
    rw [e1] at ha ⊢
    rw [h q hp h0]
    unfold uone at ha ⊢
    split
    · rfl
    · rename_i h1
      rw [if_neg h1] at ha
      split
      · rename_i h2
        rw [if_pos h2] at ha
        exact absurd rfl ha
      · rfl
  · have e1 : (ugstep s T p).v.h q = s.v.h q := uput_other e
    rw [e1] at ha ⊢
    exact h q hq ha

/-- Where each deed stands that has one of the first cells; else -1. -/
def upl (cell : Nat → Nat) : Nat → Nat → Int
  | 0 => fun _ => -1
  | j + 1 => fun d => if d = cell j then (j : Int) else upl cell j d
theorem upl_none {cell : Nat → Nat} {j d : Nat} (h : ∀ i, i < j → cell i ≠ d) : upl cell j d = -1 := by
  induction j with
  | zero => rfl
  | succ j ih =>
    unfold upl
    rw [if_neg fun e => h j (by omega) e.symm]
    exact ih fun i hi => h i (by omega)
theorem upl_some {cell : Nat → Nat} {j i : Nat} (hj : ∀ a b, a < j → b < j → cell a = cell b → a = b) (hi : i < j) : upl cell j (cell i) = (i : Int) := by
  induction j with
  | zero => omega
  | succ j ih =>
    unfold upl
    by_cases e : cell i = cell j
    · rw [if_pos e, hj i j hi (by omega) e]
    · rw [if_neg e]
      have : i ≠ j := fun h => e (by rw [h])
      exact ih (fun a b ha hb => hj a b (by omega) (by omega)) (by omega)
theorem upl_cases {cell : Nat → Nat} (j d : Nat) : upl cell j d = -1 ∨ ∃ i, i < j ∧ cell i = d ∧ upl cell j d = (i : Int) := by
  induction j with
  | zero => exact .inl rfl
  | succ j ih =>
    unfold upl
    by_cases e : d = cell j
    · exact .inr ⟨j, by omega, e.symm, by rw [if_pos e]⟩
    · rw [if_neg e]
      rcases ih with h | ⟨i, h1, h2, h3⟩
      · exact .inl h
      · exact .inr ⟨i, by omega, h2, h3⟩
/-- At cell j of the order. -/
theorem one_cell' (h : UF n T s) {j : Nat} (hj : j < s.v.m) : s.v.cell j < s.v.k ∧ upl s.v.cell j (s.v.cell j) = -1 ∧
    (0 ≤ ((s.got (s.v.cell j) : Nat) : Int) - 1 → ((s.got (s.v.cell j) : Nat) : Int) - 1 = ((usum s.v.add s.v.cell j : Nat) : Int)) := by
  refine ⟨(h.ok.ck j hj).1, upl_none fun i hi e => ?_, fun hg => ?_⟩
  · have := h.ok.cj i j (by omega) hj e; omega
  · obtain ⟨_, i, h1, h2, h3⟩ := h.ok.gt (s.v.cell j) (by omega)
    have := h.ok.cj i j h1 hj h2
    subst this
    rw [h3]; omega
/-- Of a deed that is done. -/
theorem one_has (h : UF n T s) {d : Nat} (hg : 0 ≤ ((s.got d : Nat) : Int) - 1) : ¬ upl s.v.cell s.v.m d < 0 := by
  obtain ⟨_, i, h1, h2, _⟩ := h.ok.gt d (by omega)
  rw [← h2, upl_some (fun a b ha hb => h.ok.cj a b ha hb) h1]
  omega
/-- Of a deed that was done when another one began. -/
theorem one_row (h : UF n T s) {d f : Nat} (hf : f < s.v.k) (ht : ((s.et d : Nat) : Int) < ((s.bt f : Nat) : Int)) (hp : 0 ≤ upl s.v.cell s.v.m f) : ¬ upl s.v.cell s.v.m f < upl s.v.cell s.v.m d := by
  obtain ⟨j, h1, h2, h3⟩ := h.ok.rw d f hf (by omega)
  rw [← h3, upl_some (fun a b ha hb => h.ok.cj a b ha hb) h2]
  rcases upl_cases (cell := s.v.cell) s.v.m f with h4 | ⟨i, h4, h5, h6⟩
  · omega
  · have := (h.ok.ck i h4).2
    rw [h5] at this
    rw [h6]
    omega
end
/-- What is read at the end: four rows and the order, in blocks ahead of hp. -/
structure Ends (w wr : World) (hp : Nat) (s : UG) (a b c d u : Value) : Prop where
  below : Below w.heap.size w wr
  low : w.heap.size ≤ hp
  ra : Nums wr hp a (xa s)
  rg : Nums wr hp b (xg s)
  rb : Nums wr hp c (xb s)
  re : Nums wr hp d (xe s)
  ro : Nums wr hp u (lkOrder s.v)
section
variable {w wr : World} {hp : Nat} {s : UG} {a b c d u : Value}
theorem Ends.put (h : Ends w wr hp s a b c d u) (i : Nat) (z : Value) : Ends w (wr.setCell ⟨hp, i, none⟩ z) hp s a b c d u := by
  have hk : ∀ p : Addr, p.block < hp → (wr.setCell ⟨hp, i, none⟩ z).cell? p = wr.cell? p := fun p hlt => World.cell?_setCell_other _ _ _ _ fun e => by rw [← e] at hlt; exact absurd hlt (Nat.lt_irrefl _)
  exact ⟨h.below.setCell h.low _, h.low, h.ra.keep hk, h.rg.keep hk, h.rb.keep hk, h.re.keep hk, h.ro.keep hk⟩
theorem Ends.drewN (h : Ends w wr hp s a b c d u) (i : Nat) : Ends w (wr.drewN i) hp s a b c d u := ⟨below_drewN h.below i, h.low, h.ra, h.rg, h.rb, h.re, h.ro⟩
end
end Go.Proofs.Ytegplglokaoemaa.Univ
