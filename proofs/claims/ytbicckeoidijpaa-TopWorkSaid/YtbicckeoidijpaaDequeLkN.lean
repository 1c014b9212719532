/-
  A deque of package deque beside what was there, as chapter 18's machine has it.
-/
import Derived.Test.YtbicckeoidijpaaDequeStep
namespace Go.Proofs.Ytbicckeoidijpaa.Dq
open Go.RowKit

/-- What the program has is as the document says, where it counts. -/
structure PR (v s : DV) : Prop where
  a : v.a = s.a
  T : v.T = s.T
  B : v.B = s.B
  pl : v.pl = s.pl
  t : ∀ p, (6 ≤ s.a p ∧ s.a p ≤ 8) ∨ 10 ≤ s.a p → v.t p = s.t p
  b : ∀ p, 5 ≤ s.a p ∧ s.a p ≤ 7 → v.b p = s.b p
  v : ∀ p, s.a p ≠ 0 → v.v p = s.v p
section
variable {v s : DV} (h : PR v s)
include h
theorem PR.turn {v' s' : DV} {p l : Nat} {t1 t2 : Nat} {b1 b2 v1 v2 : Int} (ha : v'.a = dput v.a p l) (hs : s'.a = dput s.a p l) (hT : v'.T = s'.T) (hB : v'.B = s'.B) (hpl : v'.pl = s'.pl)
    (ht : v'.t = dput v.t p t1) (hts : s'.t = dput s.t p t2) (hb : v'.b = dput v.b p b1) (hbs : s'.b = dput s.b p b2) (hv : v'.v = dput v.v p v1) (hvs : s'.v = dput s.v p v2)
    (ct : (6 ≤ l ∧ l ≤ 8) ∨ 10 ≤ l → t1 = t2) (cb : 5 ≤ l ∧ l ≤ 7 → b1 = b2) (cv : l ≠ 0 → v1 = v2) : PR v' s' := by
  refine ⟨by rw [ha, hs, h.a], hT, hB, hpl, fun q hq => ?_, fun q hq => ?_, fun q hq => ?_⟩
  · rw [hs] at hq
    rw [ht, hts]
    by_cases e : q = p
    · subst e; rw [dput_same] at hq; rw [dput_same, dput_same]; exact ct hq
    · rw [dput_other e] at hq; rw [dput_other e, dput_other e]; exact h.t q hq
  · rw [hs] at hq
    rw [hb, hbs]
    by_cases e : q = p
    · subst e; rw [dput_same] at hq; rw [dput_same, dput_same]; exact cb hq
    · rw [dput_other e] at hq; rw [dput_other e, dput_other e]; exact h.b q hq
  · rw [hs] at hq
    rw [hv, hvs]
    by_cases e : q = p
    · subst e; rw [dput_same] at hq; rw [dput_same, dput_same]; exact cv hq
    · rw [dput_other e] at hq; rw [dput_other e, dput_other e]; exact h.v q hq
theorem PR.beg (p l : Nat) (x : Int) (hl : l < 5 ∨ l = 9) : PR (dclr v p l x) (dvbeg s p l x) :=
  h.turn (l := l) (t1 := 0) (t2 := s.t p) (b1 := 0) (b2 := s.b p) (v1 := x) (v2 := x) rfl rfl h.T h.B h.pl rfl (dput_self _ _).symm rfl (dput_self _ _).symm rfl rfl (fun q => by omega) (fun q => by omega) (fun _ => rfl)
/-- A hand that is done. -/
theorem PR.done {x y : DV} {p : Nat} (hT : x.T = y.T) (hB : x.B = y.B) (hpl : x.pl = y.pl) (ha : x.a = v.a) (hya : y.a = s.a) {t1 t2 : Nat} {b1 b2 v1 v2 : Int} (ht : x.t = dput v.t p t1) (hts : y.t = dput s.t p t2) (hb : x.b = dput v.b p b1) (hbs : y.b = dput s.b p b2) (hv : x.v = dput v.v p v1) (hvs : y.v = dput s.v p v2) :
    PR (dclr (dvto x p 0) p 0 0) (dvto y p 0) := by
  refine h.turn (l := 0) (t1 := 0) (t2 := t2) (b1 := 0) (b2 := b2) (v1 := 0) (v2 := v2) ?_ (by rw [← hya]; rfl) hT hB hpl ?_ hts ?_ hbs ?_ hvs (fun q => by omega) (fun q => by omega) (fun q => absurd rfl q)
  · show rput (dput x.a p 0) p 0 = dput v.a p 0
    rw [ha]; exact rput_twice v.a p 0 0
  · show rput x.t p 0 = dput v.t p 0
    rw [ht]; exact rput_twice v.t p t1 0
  · show rput x.b p 0 = dput v.b p 0
    rw [hb]; exact rput_twice v.b p b1 0
  · show rput x.v p 0 = dput v.v p 0
    rw [hv]; exact rput_twice v.v p v1 0
omit h in
theorem pstp_done {p : Nat} {x : DV} (e1 : dvstp v p = x) (e2 : dvfin v p = true) : pstp v p = dclr x p 0 0 := by unfold pstp; rw [e2, if_pos rfl, e1]
omit h in
theorem pstp_on {p : Nat} {x : DV} (e1 : dvstp v p = x) (e2 : dvfin v p = false) : pstp v p = x := by unfold pstp; rw [e2, if_neg (by decide), e1]
/-- A step of the one is a step of the other. -/
theorem PR.step {p : Nat} (h0 : s.a p ≠ 0) (h12 : s.a p ≤ 12) : PR (pstp v p) (dvstp s p) ∧ dvfin v p = dvfin s p ∧ dvtold v p = dvtold s p := by
  have ea : v.a p = s.a p := by rw [h.a]
  have hT := h.T
  have hB := h.B
  have hpl := h.pl
  have hv : v.v p = s.v p := h.v p h0
  have hc : s.a p = 1 ∨ s.a p = 2 ∨ s.a p = 3 ∨ s.a p = 4 ∨ s.a p = 5 ∨ s.a p = 6 ∨ s.a p = 7 ∨ s.a p = 8 ∨ s.a p = 9 ∨ s.a p = 10 ∨ s.a p = 11 ∨ s.a p = 12 := by omega
  rcases hc with q | q | q | q | q | q | q | q | q | q | q | q
  · by_cases hf : (s.T : Int) + 8 ≤ s.B
    · obtain ⟨e1, e2, e3⟩ := v1y (s := s) q hf
      obtain ⟨f1, f2, f3⟩ := v1y (s := v) (ea.trans q) (by rw [hT, hB]; exact hf)
      rw [pstp_done f1 f2, e1, e2, f2, e3, f3]
      exact ⟨h.done (t1 := v.t p) (t2 := s.t p) (b1 := v.b p) (b2 := s.b p) (v1 := v.v p) (v2 := s.v p) (hT) (hB) (hpl) rfl rfl (dput_self _ _).symm (dput_self _ _).symm (dput_self _ _).symm (dput_self _ _).symm (dput_self _ _).symm (dput_self _ _).symm, rfl, rfl⟩
    · obtain ⟨e1, e2, e3⟩ := v1n (s := s) q hf
      obtain ⟨f1, f2, f3⟩ := v1n (s := v) (ea.trans q) (by rw [hT, hB]; exact hf)
      rw [pstp_on f1 f2, e1, e2, f2, e3, f3]
      exact ⟨h.turn (l := 2) (t1 := v.t p) (t2 := s.t p) (b1 := v.b p) (b2 := s.b p) (v1 := v.v p) (v2 := s.v p) rfl rfl (hT) (hB) (hpl) (dput_self _ _).symm (dput_self _ _).symm (dput_self _ _).symm (dput_self _ _).symm (dput_self _ _).symm (dput_self _ _).symm (fun z => (by omega)) (fun z => (by omega)) (fun z => hv), rfl, rfl⟩
  · obtain ⟨e1, e2, e3⟩ := v2 (s := s) q
    obtain ⟨f1, f2, f3⟩ := v2 (s := v) (ea.trans q)
    rw [pstp_on f1 f2, e1, e2, f2, e3, f3]
    exact ⟨h.turn (l := 3) (t1 := v.t p) (t2 := s.t p) (b1 := v.b p) (b2 := s.b p) (v1 := v.v p) (v2 := s.v p) rfl rfl (hT) (hB) (show dput v.pl _ _ = dput s.pl _ _ by rw [hpl, hB, hv]) (dput_self _ _).symm (dput_self _ _).symm (dput_self _ _).symm (dput_self _ _).symm (dput_self _ _).symm (dput_self _ _).symm (fun z => (by omega)) (fun z => (by omega)) (fun z => hv), rfl, rfl⟩
  · obtain ⟨e1, e2, e3⟩ := v3 (s := s) q
    obtain ⟨f1, f2, f3⟩ := v3 (s := v) (ea.trans q)
    rw [pstp_done f1 f2, e1, e2, f2, e3, f3]
    exact ⟨h.done (t1 := v.t p) (t2 := s.t p) (b1 := v.b p) (b2 := s.b p) (v1 := v.v p) (v2 := s.v p) (hT) (show v.B + 1 = s.B + 1 by rw [hB]) (hpl) rfl rfl (dput_self _ _).symm (dput_self _ _).symm (dput_self _ _).symm (dput_self _ _).symm (dput_self _ _).symm (dput_self _ _).symm, rfl, rfl⟩
  · obtain ⟨e1, e2, e3⟩ := v4 (s := s) q
    obtain ⟨f1, f2, f3⟩ := v4 (s := v) (ea.trans q)
    rw [pstp_on f1 f2, e1, e2, f2, e3, f3]
    exact ⟨h.turn (l := 5) (t1 := v.t p) (t2 := s.t p) (b1 := v.B - 1) (b2 := s.B - 1) (v1 := v.v p) (v2 := s.v p) rfl rfl (hT) (show v.B - 1 = s.B - 1 by rw [hB]) (hpl) (dput_self _ _).symm (dput_self _ _).symm rfl rfl (dput_self _ _).symm (dput_self _ _).symm (fun z => (by omega)) (fun z => (by rw [hB])) (fun z => hv), rfl, rfl⟩
  · have eb : v.b p = s.b p := h.b p (by omega)
    by_cases hf : (s.T : Int) < s.b p
    · obtain ⟨e1, e2, e3⟩ := v5y (s := s) q hf
      obtain ⟨f1, f2, f3⟩ := v5y (s := v) (ea.trans q) (by rw [hT, eb]; exact hf)
      rw [pstp_done f1 f2, e1, e2, f2, e3, f3]
      exact ⟨h.done (t1 := v.T) (t2 := s.T) (b1 := v.b p) (b2 := s.b p) (v1 := v.v p) (v2 := s.v p) (hT) (hB) (hpl) rfl rfl rfl rfl (dput_self _ _).symm (dput_self _ _).symm (dput_self _ _).symm (dput_self _ _).symm, rfl, (by rw [hpl, eb])⟩
    · by_cases he : s.b p = s.T
      · obtain ⟨e1, e2, e3⟩ := v5e (s := s) q hf he
        obtain ⟨f1, f2, f3⟩ := v5e (s := v) (ea.trans q) (by rw [hT, eb]; exact hf) (by rw [hT, eb]; exact he)
        rw [pstp_on f1 f2, e1, e2, f2, e3, f3]
        exact ⟨h.turn (l := 7) (t1 := v.T) (t2 := s.T) (b1 := v.b p) (b2 := s.b p) (v1 := v.v p) (v2 := s.v p) rfl rfl (hT) (hB) (hpl) rfl rfl (dput_self _ _).symm (dput_self _ _).symm (dput_self _ _).symm (dput_self _ _).symm (fun z => hT) (fun z => eb) (fun z => hv), rfl, rfl⟩
      · obtain ⟨e1, e2, e3⟩ := v5n (s := s) q hf he
        obtain ⟨f1, f2, f3⟩ := v5n (s := v) (ea.trans q) (by rw [hT, eb]; exact hf) (by rw [hT, eb]; exact he)
        rw [pstp_on f1 f2, e1, e2, f2, e3, f3]
        exact ⟨h.turn (l := 6) (t1 := v.T) (t2 := s.T) (b1 := v.b p) (b2 := s.b p) (v1 := v.v p) (v2 := s.v p) rfl rfl (hT) (hB) (hpl) rfl rfl (dput_self _ _).symm (dput_self _ _).symm (dput_self _ _).symm (dput_self _ _).symm (fun z => hT) (fun z => eb) (fun z => hv), rfl, rfl⟩
  · have et : v.t p = s.t p := h.t p (by omega)
    obtain ⟨e1, e2, e3⟩ := v6 (s := s) q
    obtain ⟨f1, f2, f3⟩ := v6 (s := v) (ea.trans q)
    rw [pstp_done f1 f2, e1, e2, f2, e3, f3]
    exact ⟨h.done (t1 := v.t p) (t2 := s.t p) (b1 := v.b p) (b2 := s.b p) (v1 := v.v p) (v2 := s.v p) (hT) (show (v.t p : Int) = (s.t p : Int) by rw [et]) (hpl) rfl rfl (dput_self _ _).symm (dput_self _ _).symm (dput_self _ _).symm (dput_self _ _).symm (dput_self _ _).symm (dput_self _ _).symm, rfl, rfl⟩
  · have et : v.t p = s.t p := h.t p (by omega)
    have eb : v.b p = s.b p := h.b p (by omega)
    by_cases hf : s.T = s.t p
    · obtain ⟨e1, e2, e3⟩ := v7y (s := s) q hf
      obtain ⟨f1, f2, f3⟩ := v7y (s := v) (ea.trans q) (by rw [hT, et]; exact hf)
      rw [pstp_on f1 f2, e1, e2, f2, e3, f3]
      exact ⟨h.turn (l := 8) (t1 := v.t p) (t2 := s.t p) (b1 := v.b p) (b2 := s.b p) (v1 := v.pl ((v.b p).toNat % 8)) (v2 := s.pl ((s.b p).toNat % 8)) rfl rfl (show v.t p + 1 = s.t p + 1 by rw [et]) (hB) (hpl) (dput_self _ _).symm (dput_self _ _).symm (dput_self _ _).symm (dput_self _ _).symm rfl rfl (fun z => et) (fun z => (by omega)) (fun z => (by rw [hpl, eb])), rfl, rfl⟩
    · obtain ⟨e1, e2, e3⟩ := v7n (s := s) q hf
      obtain ⟨f1, f2, f3⟩ := v7n (s := v) (ea.trans q) (by rw [hT, et]; exact hf)
      rw [pstp_on f1 f2, e1, e2, f2, e3, f3]
      exact ⟨h.turn (l := 8) (t1 := v.t p) (t2 := s.t p) (b1 := v.b p) (b2 := s.b p) (v1 := (-1)) (v2 := (-1)) rfl rfl (hT) (hB) (hpl) (dput_self _ _).symm (dput_self _ _).symm (dput_self _ _).symm (dput_self _ _).symm rfl rfl (fun z => et) (fun z => (by omega)) (fun z => rfl), rfl, rfl⟩
  · have et : v.t p = s.t p := h.t p (by omega)
    obtain ⟨e1, e2, e3⟩ := v8 (s := s) q
    obtain ⟨f1, f2, f3⟩ := v8 (s := v) (ea.trans q)
    rw [pstp_done f1 f2, e1, e2, f2, e3, f3]
    exact ⟨h.done (t1 := v.t p) (t2 := s.t p) (b1 := v.b p) (b2 := s.b p) (v1 := v.v p) (v2 := s.v p) (hT) (show (v.t p : Int) + 1 = (s.t p : Int) + 1 by rw [et]) (hpl) rfl rfl (dput_self _ _).symm (dput_self _ _).symm (dput_self _ _).symm (dput_self _ _).symm (dput_self _ _).symm (dput_self _ _).symm, rfl, hv⟩
  · obtain ⟨e1, e2, e3⟩ := v9 (s := s) q
    obtain ⟨f1, f2, f3⟩ := v9 (s := v) (ea.trans q)
    rw [pstp_on f1 f2, e1, e2, f2, e3, f3]
    exact ⟨h.turn (l := 10) (t1 := v.T) (t2 := s.T) (b1 := v.b p) (b2 := s.b p) (v1 := v.v p) (v2 := s.v p) rfl rfl (hT) (hB) (hpl) rfl rfl (dput_self _ _).symm (dput_self _ _).symm (dput_self _ _).symm (dput_self _ _).symm (fun z => hT) (fun z => (by omega)) (fun z => hv), rfl, rfl⟩
  · have et : v.t p = s.t p := h.t p (by omega)
    by_cases hf : s.B ≤ (s.t p : Int)
    · obtain ⟨e1, e2, e3⟩ := v10y (s := s) q hf
      obtain ⟨f1, f2, f3⟩ := v10y (s := v) (ea.trans q) (by rw [hB, et]; exact hf)
      rw [pstp_done f1 f2, e1, e2, f2, e3, f3]
      exact ⟨h.done (t1 := v.t p) (t2 := s.t p) (b1 := v.b p) (b2 := s.b p) (v1 := v.v p) (v2 := s.v p) (hT) (hB) (hpl) rfl rfl (dput_self _ _).symm (dput_self _ _).symm (dput_self _ _).symm (dput_self _ _).symm (dput_self _ _).symm (dput_self _ _).symm, rfl, rfl⟩
    · obtain ⟨e1, e2, e3⟩ := v10n (s := s) q hf
      obtain ⟨f1, f2, f3⟩ := v10n (s := v) (ea.trans q) (by rw [hB, et]; exact hf)
      rw [pstp_on f1 f2, e1, e2, f2, e3, f3]
      exact ⟨h.turn (l := 11) (t1 := v.t p) (t2 := s.t p) (b1 := v.b p) (b2 := s.b p) (v1 := v.v p) (v2 := s.v p) rfl rfl (hT) (hB) (hpl) (dput_self _ _).symm (dput_self _ _).symm (dput_self _ _).symm (dput_self _ _).symm (dput_self _ _).symm (dput_self _ _).symm (fun z => et) (fun z => (by omega)) (fun z => hv), rfl, rfl⟩
  · have et : v.t p = s.t p := h.t p (by omega)
    obtain ⟨e1, e2, e3⟩ := v11 (s := s) q
    obtain ⟨f1, f2, f3⟩ := v11 (s := v) (ea.trans q)
    rw [pstp_on f1 f2, e1, e2, f2, e3, f3]
    exact ⟨h.turn (l := 12) (t1 := v.t p) (t2 := s.t p) (b1 := v.b p) (b2 := s.b p) (v1 := v.pl (v.t p % 8)) (v2 := s.pl (s.t p % 8)) rfl rfl (hT) (hB) (hpl) (dput_self _ _).symm (dput_self _ _).symm (dput_self _ _).symm (dput_self _ _).symm rfl rfl (fun z => et) (fun z => (by omega)) (fun z => (by rw [hpl, et])), rfl, rfl⟩
  · have et : v.t p = s.t p := h.t p (by omega)
    by_cases hf : s.T = s.t p
    · obtain ⟨e1, e2, e3⟩ := v12y (s := s) q hf
      obtain ⟨f1, f2, f3⟩ := v12y (s := v) (ea.trans q) (by rw [hT, et]; exact hf)
      rw [pstp_done f1 f2, e1, e2, f2, e3, f3]
      exact ⟨h.done (t1 := v.t p) (t2 := s.t p) (b1 := v.b p) (b2 := s.b p) (v1 := v.v p) (v2 := s.v p) (show v.t p + 1 = s.t p + 1 by rw [et]) (hB) (hpl) rfl rfl (dput_self _ _).symm (dput_self _ _).symm (dput_self _ _).symm (dput_self _ _).symm (dput_self _ _).symm (dput_self _ _).symm, rfl, hv⟩
    · obtain ⟨e1, e2, e3⟩ := v12n (s := s) q hf
      obtain ⟨f1, f2, f3⟩ := v12n (s := v) (ea.trans q) (by rw [hT, et]; exact hf)
      rw [pstp_done f1 f2, e1, e2, f2, e3, f3]
      exact ⟨h.done (t1 := v.t p) (t2 := s.t p) (b1 := v.b p) (b2 := s.b p) (v1 := v.v p) (v2 := s.v p) (hT) (hB) (hpl) rfl rfl (dput_self _ _).symm (dput_self _ _).symm (dput_self _ _).symm (dput_self _ _).symm (dput_self _ _).symm (dput_self _ _).symm, rfl, rfl⟩
end
/-- A beginning, a step: what they answer, and make of the document's machine. -/
def sBegE (s : DV) (p : Nat) : Int := if s.a p = 0 then 0 else 7
def sBegS (s : DV) (p l : Nat) (x : Int) : DV := if s.a p = 0 then dvbeg s p l x else s
def sStlE (n : Nat) (s : DV) (p : Int) : Int := if 1 ≤ p ∧ p < n then sBegE s p.toNat else 1
def sStlS (n : Nat) (s : DV) (p : Int) : DV := if 1 ≤ p ∧ p < n then sBegS s p.toNat 9 0 else s
def sStpE (n : Nat) (s : DV) (p : Int) : Int := if ¬ (0 ≤ p ∧ p < n) then 1 else if s.a p.toNat = 0 then 7 else 0
def sStpD (n : Nat) (s : DV) (p : Int) : Bool := if sStpE n s p = 0 then dvfin s p.toNat else false
def sStpG (n : Nat) (s : DV) (p : Int) : Int := if sStpE n s p = 0 then dvtold s p.toNat else 0
def sStpS (n : Nat) (s : DV) (p : Int) : DV := if sStpE n s p = 0 then dvstp s p.toNat else s
def sAt (n : Nat) (s : DV) (p : Int) : Nat := if 0 ≤ p ∧ p < n then s.a p.toNat else 0
section
variable {n : Nat} {v s : DV} {p : Int}
theorem sStp_some (h : sStpE n s p = 0) : ∃ q : Nat, p = (q : Int) ∧ q < n ∧ s.a q ≠ 0 := by
  unfold sStpE at h
  split at h
  · omega
  · rename_i h1
    split at h
    · omega
    · rename_i h2
      exact ⟨p.toNat, by omega, by omega, h2⟩
theorem sStp_err : sStpE n s p = 0 ∨ sStpE n s p = 1 ∨ sStpE n s p = 7 := by
  unfold sStpE; split
  · omega
  · split <;> omega
theorem sBeg_err {p : Nat} : sBegE s p = 0 ∨ sBegE s p = 7 := by unfold sBegE; split <;> omega
theorem ln12 (k : DVOk s) (q : Nat) : s.a q ≤ 12 := by
  rcases Nat.eq_zero_or_pos q with rfl | hq
  · have := k.ln; omega
  · obtain ⟨h | h, _⟩ := k.th q hq <;> omega
theorem sStp_ok (k : DVOk s) : DVOk (sStpS n s p) := by
  by_cases he : sStpE n s p = 0
  · obtain ⟨q, rfl, hq, ha⟩ := sStp_some he
    unfold sStpS; rw [if_pos he]
    exact k.step ha
  · unfold sStpS; rw [if_neg he]; exact k
theorem sPush_ok (k : DVOk s) (x : Int) : DVOk (sBegS s 0 1 x) := by
  unfold sBegS; split
  · exact k.push x (by assumption)
  · exact k
theorem sPop_ok (k : DVOk s) (x : Int) : DVOk (sBegS s 0 4 x) := by
  unfold sBegS; split
  · exact k.pop x (by assumption)
  · exact k
theorem sStl_ok (k : DVOk s) : DVOk (sStlS n s p) := by
  unfold sStlS; split
  · unfold sBegS; split
    · exact k.steal 0 (by omega)
    · exact k
  · exact k
theorem step_T (s : DV) (q : Nat) : (dvstp s q).T ≤ s.T + 1 := by
  have hto : ∀ (x : DV) (l : Nat), (dvto x q l).T = x.T := fun _ _ => rfl
  unfold dvstp
  by_cases h1 : s.a q = 1
  · rw [if_pos h1, hto]; exact Nat.le_succ _
  rw [if_neg h1]
  by_cases h2 : s.a q = 2
  · rw [if_pos h2, hto]; exact Nat.le_succ _
  rw [if_neg h2]
  by_cases h3 : s.a q = 3
  · rw [if_pos h3, hto]; exact Nat.le_succ _
  rw [if_neg h3]
  by_cases h4 : s.a q = 4
  · rw [if_pos h4, hto]; exact Nat.le_succ _
  rw [if_neg h4]
  by_cases h5 : s.a q = 5
  · rw [if_pos h5, hto]; exact Nat.le_succ _
  rw [if_neg h5]
  by_cases h6 : s.a q = 6
  · rw [if_pos h6, hto]; exact Nat.le_succ _
  rw [if_neg h6]
  by_cases h7 : s.a q = 7
  · rw [if_pos h7]
    by_cases hf : s.T = s.t q
    · rw [if_pos hf, hto]; show s.t q + 1 ≤ _; omega
    · rw [if_neg hf, hto]; exact Nat.le_succ _
  rw [if_neg h7]
  by_cases h8 : s.a q = 8
  · rw [if_pos h8, hto]; exact Nat.le_succ _
  rw [if_neg h8]
  by_cases h9 : s.a q = 9
  · rw [if_pos h9, hto]; exact Nat.le_succ _
  rw [if_neg h9]
  by_cases h10 : s.a q = 10
  · rw [if_pos h10, hto]; exact Nat.le_succ _
  rw [if_neg h10]
  by_cases h11 : s.a q = 11
  · rw [if_pos h11, hto]; exact Nat.le_succ _
  rw [if_neg h11]
  by_cases hf : s.T = s.t q
  · rw [if_pos hf, hto]; show s.t q + 1 ≤ _; omega
  · rw [if_neg hf, hto]; exact Nat.le_succ _
theorem sStp_T : (sStpS n s p).T ≤ s.T + 1 := by
  unfold sStpS; split
  · exact step_T s p.toNat
  · omega
theorem sBeg_T {q l : Nat} {x : Int} : (sBegS s q l x).T = s.T := by unfold sBegS; split <;> rfl
theorem sStl_T : (sStlS n s p).T = s.T := by
  unfold sStlS; split
  · exact sBeg_T
  · rfl
theorem PR.begE (h : PR v s) (q : Nat) : begE v q = sBegE s q := by unfold Dq.begE sBegE; rw [h.a]
theorem PR.begS (h : PR v s) (q l : Nat) (x : Int) (hl : l < 5 ∨ l = 9) : PR (begS v q l x) (sBegS s q l x) := by
  unfold Dq.begS sBegS; rw [h.a]; split
  · exact h.beg q l x hl
  · exact h
theorem PR.stlE (h : PR v s) : stlE n v p = sStlE n s p := by unfold Dq.stlE sStlE; rw [h.begE]
theorem PR.stlS (h : PR v s) : PR (stlS n v p) (sStlS n s p) := by
  unfold Dq.stlS sStlS; split
  · exact h.begS _ 9 0 (.inr rfl)
  · exact h
theorem PR.stpE (h : PR v s) : stpE n v p = sStpE n s p := by unfold Dq.stpE sStpE; rw [h.a]
theorem PR.stp (h : PR v s) (k : DVOk s) : stpD n v p = sStpD n s p ∧ stpG n v p = sStpG n s p ∧ PR (stpS n v p) (sStpS n s p) := by
  have e := h.stpE (n := n) (p := p)
  by_cases he : sStpE n s p = 0
  · obtain ⟨q, rfl, hq, ha⟩ := sStp_some he
    obtain ⟨f1, f2, f3⟩ := h.step ha (ln12 k q)
    unfold stpD stpG stpS sStpD sStpG sStpS
    rw [e, he]
    exact ⟨f2, f3, f1⟩
  · unfold stpD stpG stpS sStpD sStpG sStpS
    rw [e, if_neg he, if_neg he, if_neg he, if_neg he, if_neg he, if_neg he]
    exact ⟨rfl, rfl, h⟩
theorem PR.at_ (h : PR v s) : lkAt n v p = sAt n s p := by unfold lkAt sAt; rw [h.a]
theorem PR.loc (h : PR v s) (k : DVOk s) (hA : s.T ≤ 1000000) (q : Nat) : QLoc v q := by
  have te := k.te
  have e8 := k.e8
  have hE : dvE s = if 5 ≤ s.a 0 then s.B + 1 else s.B := rfl
  have zero : ∀ {a : Nat}, s.a q = a → 1 ≤ a → a ≤ 8 → q = 0 := fun {a} e h1 h8 => by
    rcases Nat.eq_zero_or_pos q with h0 | hq
    · exact h0
    · obtain ⟨h | h, _⟩ := k.th q hq <;> omega
  refine ⟨by rw [h.T]; exact hA, by rw [h.B]; split at hE <;> omega, by rw [h.a]; exact ln12 k q, fun ha => ?_, fun ha => ?_, fun ha => ?_, fun ha => ?_⟩
  · rw [h.a] at ha
    obtain rfl := zero ha (by decide) (by decide)
    rw [h.B]; rw [if_neg (by omega)] at hE; omega
  · rw [h.a] at ha
    obtain rfl := zero ha (by decide) (by decide)
    rw [h.b 0 (by omega), k.five (.inl ha)]; rw [if_pos (by omega)] at hE; omega
  · rw [h.a] at ha
    obtain rfl := zero ha (by decide) (by decide)
    have h7 := k.seven ha
    rw [h.b 0 (by omega), k.five (.inr ha)]; rw [if_pos (by omega)] at hE; omega
  · rw [h.a] at ha
    rw [h.t q (by omega)]
    rcases ha with ha | ha
    · obtain rfl := zero ha (by decide) (by decide)
      have h8 := k.eight ha
      omega
    · rcases Nat.eq_zero_or_pos q with rfl | hq
      · have := k.ln; omega
      · have := (k.th q hq).2.1 (by omega); omega
end
/-- Since w nothing has turned but new memory; in it a deque for n hands is as s says; Top is A at most. -/
structure LkAt (w wr : World) (g n : Nat) (s : DV) (A : Nat) : Prop where
  new : w.heap.size ≤ g
  lk : ∃ v, Lk wr g n v ∧ PR v s
  below : Below w.heap.size w wr
  ok : DVOk s
  age : s.T ≤ A
  pos : 1 ≤ n
  four : n ≤ 4
section
variable {w wr w' : World} {g n : Nat} {s s' : DV} {A A' : Nat}
theorem LkAt.lt (h : LkAt w wr g n s A) : g < wr.heap.size := by
  obtain ⟨v, hv, _⟩ := h.lk
  exact hv.lt
theorem LkAt.turn (h : LkAt w wr g n s A) {v : DV} (hk : Lk w' g n v) (hr : PR v s') (ht : Touch (fun k => k = g) wr w') (ha : DVOk s') (h4 : s'.T ≤ A') : LkAt w w' g n s' A' :=
  ⟨h.new, ⟨v, hk, hr⟩, h.below.trans (ht.below h.below.size fun _ hi => hi ▸ h.new), ha, h4, h.pos, h.four⟩
theorem LkAt.older (h : LkAt w wr g n s A) (ha : A ≤ A') : LkAt w wr g n s A' := ⟨h.new, h.lk, h.below, h.ok, Nat.le_trans h.age ha, h.pos, h.four⟩
theorem LkAt.made (h : LkAt w wr g n s A) (o : Obj) : LkAt w (wr.alloc o) g n s A := ⟨h.new, h.lk.imp fun _ q => ⟨q.1.alloc o, q.2⟩, h.below.alloc h.below.size o, h.ok, h.age, h.pos, h.four⟩
theorem LkAt.on (h : LkAt w wr g n s A) {B : Nat} (hb : Below B wr w') (hB : wr.heap.size ≤ B) : LkAt w w' g n s A :=
  ⟨h.new, h.lk.imp fun _ q => ⟨q.1.below (hb.mono hB) q.1.lt, q.2⟩, h.below.trans (hb.mono (Nat.le_trans h.below.size hB)), h.ok, h.age, h.pos, h.four⟩
theorem LkAt.drewN (h : LkAt w wr g n s A) (i : Nat) : LkAt w (wr.drewN i) g n s A := h.on (w' := wr.drewN i) (below_drewN (Below.refl wr.heap.size wr) i) (Nat.le_refl _)
theorem LkAt.drew (h : LkAt w wr g n s A) : LkAt w wr.drew g n s A := h.on (w' := wr.drew) (Below.refl wr.heap.size wr).drew (Nat.le_refl _)
theorem LkAt.touch {O : Nat → Prop} (h : LkAt w wr g n s A) (ht : Touch O wr w') (hO : ∀ k, O k → w.heap.size ≤ k ∧ k ≠ g) : LkAt w w' g n s A :=
  ⟨h.new, h.lk.imp fun _ q => ⟨q.1.touch ht fun e => (hO g e).2 rfl, q.2⟩, h.below.trans (ht.below h.below.size fun i hi => (hO i hi).1), h.ok, h.age, h.pos, h.four⟩
theorem pushL (h : LkAt w wr g n s A) (x : Nat) (hx : x ≤ 1000) :
    Calls Try.prog 11 #[.pointer (some ⟨g, 0, none⟩), .int .i64 (x : Int)] wr fun e w' => e = .returned (errV 43 (sBegE s 0)) ∧ LkAt w w' g n (sBegS s 0 1 x) A ∧ Touch (fun k => k = g) wr w' := by
  obtain ⟨v, hv, hr⟩ := h.lk
  exact (push_any wr hv x hx).mono fun _ _ ⟨he, hk, ht⟩ => ⟨by rw [he, hr.begE], h.turn hk (hr.begS 0 1 x (.inl (by decide))) ht (sPush_ok h.ok x) (by rw [sBeg_T]; exact h.age), ht⟩
theorem pushFar (h : LkAt w wr g n s A) (x : Int) (hx : ¬ (0 ≤ x ∧ x ≤ 1000)) :
    Calls Try.prog 11 #[.pointer (some ⟨g, 0, none⟩), .int .i64 x] wr fun e w' => e = .returned (errV 43 1) ∧ LkAt w w' g n s A ∧ Touch (fun k => k = g) wr w' := by
  obtain ⟨v, hv, hr⟩ := h.lk
  exact (push_far wr hv x hx).mono fun _ _ ⟨he, hk, ht⟩ => ⟨he, h.turn hk hr ht h.ok h.age, ht⟩
theorem popL (h : LkAt w wr g n s A) :
    Calls Try.prog 12 #[.pointer (some ⟨g, 0, none⟩)] wr fun e w' => e = .returned (errV 43 (sBegE s 0)) ∧ LkAt w w' g n (sBegS s 0 4 0) A ∧ Touch (fun k => k = g) wr w' := by
  obtain ⟨v, hv, hr⟩ := h.lk
  exact (pop_any wr hv).mono fun _ _ ⟨he, hk, ht⟩ => ⟨by rw [he, hr.begE], h.turn hk (hr.begS 0 4 0 (.inl (by decide))) ht (sPop_ok h.ok 0) (by rw [sBeg_T]; exact h.age), ht⟩
theorem stealL (h : LkAt w wr g n s A) (p : Int) :
    Calls Try.prog 16 #[.pointer (some ⟨g, 0, none⟩), .int .i64 p] wr fun e w' => e = .returned (errV 43 (sStlE n s p)) ∧ LkAt w w' g n (sStlS n s p) A ∧ Touch (fun k => k = g) wr w' := by
  obtain ⟨v, hv, hr⟩ := h.lk
  exact (steal_any wr hv h.four p).mono fun _ _ ⟨he, hk, ht⟩ => ⟨by rw [he, hr.stlE], h.turn hk hr.stlS ht (sStl_ok h.ok) (by rw [sStl_T]; exact h.age), ht⟩
theorem stepL (h : LkAt w wr g n s A) (hA : A ≤ 1000000) (p : Int) :
    Calls Try.prog 13 #[.pointer (some ⟨g, 0, none⟩), .int .i64 p] wr fun e w' =>
      e = .returned (.tuple #[.bool (sStpD n s p), .int .i64 (sStpG n s p), errV 43 (sStpE n s p)]) ∧ LkAt w w' g n (sStpS n s p) (A + 1) ∧ Touch (fun k => k = g) wr w' := by
  obtain ⟨v, hv, hr⟩ := h.lk
  obtain ⟨f1, f2, f3⟩ := hr.stp h.ok (n := n) (p := p)
  exact (step_any wr hv h.four p fun _ _ => hr.loc h.ok (Nat.le_trans h.age hA) p.toNat).mono fun _ _ ⟨he, hk, ht⟩ => ⟨by rw [he, hr.stpE, f1, f2], h.turn hk f3 ht (sStp_ok h.ok) (Nat.le_trans sStp_T (Nat.succ_le_succ h.age)), ht⟩
theorem atL (h : LkAt w wr g n s A) (p : Int) :
    Calls Try.prog 15 #[.pointer (some ⟨g, 0, none⟩), .int .i64 p] wr fun e w' => e = .returned (.int .i64 (sAt n s p)) ∧ wr = w' := by
  obtain ⟨v, hv, hr⟩ := h.lk
  have h1 := at_any wr hv h.four p
  rwa [hr.at_] at h1
theorem endsL (h : LkAt w wr g n s A) :
    Calls Try.prog 10 #[.pointer (some ⟨g, 0, none⟩)] wr fun e w' => e = .returned (.tuple #[.int .i64 (s.T : Nat), .int .i64 s.B]) ∧ ∃ i, w' = wr.drewN i := by
  obtain ⟨v, hv, hr⟩ := h.lk
  exact (ends_any wr hv).mono fun _ _ ⟨he, hk⟩ => ⟨by rw [he, hr.T, hr.B], hk⟩
theorem PR.new : PR dvnew dvnew := ⟨rfl, rfl, rfl, rfl, fun _ _ => rfl, fun _ _ => rfl, fun _ _ => rfl⟩
theorem newL {w1 : World} (h : Below w.heap.size w w1) (h1 : 1 ≤ n) (h4 : n ≤ 4) : Calls Try.prog 7 #[.int .i64 n] w1 fun e w' => ∃ g, e = .returned (.tuple #[.pointer (some ⟨g, 0, none⟩), .nilIface]) ∧ LkAt w w' g n dvnew 0 :=
  (new_any n h1 h4 w1).mono fun _ _ ⟨he, hk, hb⟩ => ⟨_, he, h.size, ⟨_, hk, PR.new⟩, h.trans (hb.mono h.size), dvnew_ok, Nat.le_refl _, h1, h4⟩
theorem newBad {w1 : World} (h : Below w.heap.size w w1) (z : Int) (hz : ¬ (1 ≤ z ∧ z ≤ 4)) : Calls Try.prog 7 #[.int .i64 z] w1 fun e w' => e = .returned (.tuple #[.pointer none, errV 43 1]) ∧ Below w.heap.size w w' :=
  (new_bad z hz w1).mono fun _ _ ⟨he, hb⟩ => ⟨he, h.trans (hb.mono h.size)⟩
end
end Go.Proofs.Ytbicckeoidijpaa.Dq
