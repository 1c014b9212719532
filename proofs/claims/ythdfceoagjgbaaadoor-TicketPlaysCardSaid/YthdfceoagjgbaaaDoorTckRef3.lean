/-
  The reference's step of the lock for which one draws a ticket: it is tstep.
-/
import Derived.Test.YthdfceoagjgbaaaDoorTckRef
import Derived.Test.YthdfceoagjgbaaaDoorRangeMap
namespace Go.Proofs.YthdfceoagjgbaaaDoor.Ticket
open Go.RowKit

/-- At which line each hand is; what each has of its own. -/
def lkLines (n : Nat) (s : LSt) : List Int := (List.range n).map fun p => ((s.a p : Nat) : Int)
def lkOwns (n : Nat) (s : LSt) : List (List Int) := (List.range n).map fun p => [((s.t p : Nat) : Int)]
theorem set_same {α : Type} {l : List α} {i : Nat} {z : α} (h : l[i]? = some z) : l.set i z = l := by
  apply List.ext_getElem?
  intro j
  by_cases e : i = j
  · subst e; rw [List.getElem?_set_self (List.getElem?_eq_some_iff.1 h).1, h]
  · rw [List.getElem?_set_ne e]
theorem lines_step (n : Nat) (s : LSt) (p : Nat) : lkLines n (tstep s p) = (lkLines n s).set p (((tstep s p).a p : Nat) : Int) :=
  (range_set _ _ n p _ rfl (fun q hq => by rw [(tstep_other hq).1])).symm
theorem owns_step (n : Nat) (s : LSt) (p : Nat) : lkOwns n (tstep s p) = (lkOwns n s).set p [(((tstep s p).t p : Nat) : Int)] :=
  (range_set _ _ n p _ rfl (fun q hq => by rw [(tstep_other hq).2])).symm

theorem ref_any {n A : Nat} {s : LSt} (hok : lkOk n s) (hn : n ≤ 4) (hf : lkFit n s A) (hA : A ≤ 100000) {p : Nat} (hp : p < n) (v : Value) (w : World) {P : Nat → Prop} (hP : ∀ b, P b → b < w.heap.size) (h : Mc w P n v (lkWords n s) (lkLines n s) (lkOwns n s)) :
    Calls Tryd.prog 9 #[v, .int .i64 p] w fun e w' => ∃ v', e = .returned v' ∧ Mc w' (New P w w') n v' (lkWords n (tstep s p)) (lkLines n (tstep s p)) (lkOwns n (tstep s p)) ∧ Below w.heap.size w w' := by
  have hll : (lkLines n s).length = n := by simp [lkLines]
  have hol : (lkOwns n s).length = n := by simp [lkOwns]
  have hl : (lkLines n s)[p]? = some ((s.a p : Nat) : Int) := range_get _ hp
  have ho : (lkOwns n s)[p]? = some [((s.t p : Nat) : Int)] := range_get _ hp
  have hh : RefAt n p (lkWords n s) (lkLines n s) (lkOwns n s) := ⟨hn, hp, by simp [lkWords], by simp [lkWords], by omega, by omega⟩
  have hnx : s.nx ≤ 1000000 := by unfold lkFit at hf; omega
  have key : ∀ (ws : List Int) (ls : List Int) (os : List (List Int)), ws = lkWords n (tstep s p) → ls = (lkLines n s).set p (((tstep s p).a p : Nat) : Int) → os = (lkOwns n s).set p [(((tstep s p).t p : Nat) : Int)] →
      Calls Tryd.prog 9 #[v, .int .i64 p] w (fun e w' => ∃ v', e = .returned v' ∧ Mc w' (New P w w') n v' ws ls os ∧ Below w.heap.size w w') →
      Calls Tryd.prog 9 #[v, .int .i64 p] w fun e w' => ∃ v', e = .returned v' ∧ Mc w' (New P w w') n v' (lkWords n (tstep s p)) (lkLines n (tstep s p)) (lkOwns n (tstep s p)) ∧ Below w.heap.size w w' := by
    intro ws ls os e1 e2 e3 hc
    rw [lines_step, owns_step, ← e1, ← e2, ← e3]
    exact hc
  have hline := hok.line hp
  obtain a1 | a2 | a3 | a4 : s.a p = 1 ∨ s.a p = 2 ∨ s.a p = 3 ∨ s.a p = 4 := by omega
  · have e : tstep s p = { a := tup s.a p 2, t := tup s.t p s.nx, nx := s.nx + 1, nw := s.nw } := by simp [tstep, a1]
    rw [a1] at hl
    refine key _ _ _ ?_ ?_ ?_ (ref1 n p (s.t p) s.nx (s.nx + 1) v _ _ _ w hP h hh hl ho rfl rfl hnx)
    · rw [e]; rfl
    · rw [e]; simp [tup]
    · rw [e]; simp [tup]
  · rw [a2] at hl
    by_cases hb : s.nw = s.t p
    · have e : tstep s p = { s with a := tup s.a p 3 } := by simp [tstep, a2, hb]
      refine key _ _ _ ?_ ?_ ?_ (ref2g n p (s.t p) s.nw v _ _ _ w hP h hh hl ho rfl (by simp [lkWords]) hb)
      · rw [e]; rfl
      · rw [e]; simp [tup]
      · rw [e]; exact (set_same ho).symm
    · have e : tstep s p = s := by simp [tstep, a2, hb]
      refine key _ _ _ ?_ ?_ ?_ (ref2s n p (s.t p) s.nw v _ _ _ w hP h hh hl ho rfl (by simp [lkWords]) hb)
      · rw [e]
      · rw [e, a2]; rfl
      · rw [e]; exact (set_same ho).symm
  · have e : tstep s p = { s with a := tup s.a p 4 } := by simp [tstep, a3]
    rw [a3] at hl
    refine key _ _ _ ?_ ?_ ?_ (ref3 n p (s.t p) v _ _ _ w hP h hh hl ho)
    · rw [e]; rfl
    · rw [e]; simp [tup]
    · rw [e]; exact (set_same ho).symm
  · have e : tstep s p = { s with a := tup s.a p 1, nw := s.t p + 1 } := by simp [tstep, a4]
    rw [a4] at hl
    have ht : s.t p ≤ 1000000 := by
      have h1 := hok.drawn hp
      have h2 : (traw s).t p = s.t p := by show (if s.a p = 1 then 0 else s.t p) = s.t p; rw [if_neg (by omega)]
      omega
    refine key _ _ _ ?_ ?_ ?_ (ref4 n p (s.t p) (s.t p + 1) v _ _ _ w hP h hh hl ho rfl ht (by simp [lkWords]))
    · rw [e]; rfl
    · rw [e]; simp [tup]
    · rw [e]; exact (set_same ho).symm
theorem lkRef_any {n A : Nat} {s : LSt} (hok : lkOk n s) (hn : n ≤ 4) (hf : lkFit n s A) (hA : A ≤ 100000) {p : Nat} (hp : p < n) (v : Value) (w : World) {P : Nat → Prop} (hP : ∀ b, P b → b < w.heap.size) (h : Mc w P n v (lkWords n s) (lkLines n s) (lkOwns n s)) :
    Calls Tryd.prog 9 #[v, .int .i64 p] w fun e w' => ∃ v', e = .returned v' ∧ Mc w' (New P w w') n v' (lkWords n (tstep s p)) (lkLines n (tstep s p)) (lkOwns n (tstep s p)) ∧ Below w.heap.size w w' := ref_any hok hn hf hA hp v w hP h
end Go.Proofs.YthdfceoagjgbaaaDoor.Ticket
