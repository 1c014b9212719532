/-
  The reference's step of the lock whose hands look at the one ahead: it is cstep.
-/
import Derived.Test.YtobfaohcadmopaaDoorClhRef2
import Derived.Test.YtobfaohcadmopaaDoorRangeMap
namespace Go.Proofs.YtobfaohcadmopaaDoor.Clh
open Go.RowKit

/-- At which line each hand is; what each has of its own. -/
def lkLines (n : Nat) (s : LSt) : List Int := (List.range n).map fun p => ((s.a p : Nat) : Int)
def lkOwns (n : Nat) (s : LSt) : List (List Int) := (List.range n).map fun p => [((s.m p : Nat) : Int), ((s.r p : Nat) : Int)]
theorem set_same {α : Type} {l : List α} {i : Nat} {z : α} (h : l[i]? = some z) : l.set i z = l := by
  apply List.ext_getElem?
  intro j
  by_cases e : i = j
  · subst e; rw [List.getElem?_set_self (List.getElem?_eq_some_iff.1 h).1, h]
  · rw [List.getElem?_set_ne e]
theorem lines_step (n : Nat) (s : LSt) (p : Nat) : lkLines n (cstep s p) = (lkLines n s).set p (((cstep s p).a p : Nat) : Int) :=
  (range_set _ _ n p _ rfl (fun q hq => by rw [(cstep_oth hq).1])).symm
theorem owns_step (n : Nat) (s : LSt) (p : Nat) : lkOwns n (cstep s p) = (lkOwns n s).set p [(((cstep s p).m p : Nat) : Int), (((cstep s p).r p : Nat) : Int)] :=
  (range_set _ _ n p _ rfl (fun q hq => by rw [(cstep_oth hq).2.1, (cstep_oth hq).2.2])).symm
/-- Another T; another B. -/
theorem words_T (n : Nat) (s : LSt) (a m r : Nat → Nat) (z : Nat) : (lkWords n s).set 0 (z : Int) = lkWords n ⟨a, m, r, s.B, z⟩ := rfl
theorem words_B {n : Nat} (s : LSt) (a m r : Nat → Nat) (q : Nat) (z : Nat) : (lkWords n s).set (1 + q) (z : Int) = lkWords n ⟨a, m, r, cup s.B q z, s.T⟩ := by
  unfold lkWords
  rw [Nat.add_comm 1 q, List.set_cons_succ, range_set _ (fun r => ((cup s.B q z r : Nat) : Int)) (n + 1) q _ (by rw [cup_same]) (fun r hr => by rw [cup_other hr])]

theorem ref_any {n A : Nat} {s : LSt} (hok : lkOk n s) (hn : n ≤ 4) (_hf : lkFit n s A) (_hA : A ≤ 100000) {p : Nat} (hp : p < n) (v : Value) (w : World) {P : Nat → Prop} (hP : ∀ b, P b → b < w.heap.size) (h : Mc w P n v (lkWords n s) (lkLines n s) (lkOwns n s)) :
    Calls Tryd.prog 8 #[v, .int .i64 p] w fun e w' => ∃ v', e = .returned v' ∧ Mc w' (New P w w') n v' (lkWords n (cstep s p)) (lkLines n (cstep s p)) (lkOwns n (cstep s p)) ∧ Below w.heap.size w w' := by
  have hwl := lkWords_len n s
  have hll : (lkLines n s).length = n := by simp [lkLines]
  have hol : (lkOwns n s).length = n := by simp [lkOwns]
  have hl : (lkLines n s)[p]? = some ((s.a p : Nat) : Int) := range_get _ hp
  have ho : (lkOwns n s)[p]? = some [((s.m p : Nat) : Int), ((s.r p : Nat) : Int)] := range_get _ hp
  have hh : RefAt n p (lkWords n s) (lkLines n s) (lkOwns n s) := ⟨hn, hp, by omega, by omega, by omega, by omega⟩
  have hT : (lkWords n s)[0]? = some ((s.T : Nat) : Int) := rfl
  have key : ∀ (ws : List Int) (ls : List Int) (os : List (List Int)), ws = lkWords n (cstep s p) → ls = (lkLines n s).set p (((cstep s p).a p : Nat) : Int) → os = (lkOwns n s).set p [(((cstep s p).m p : Nat) : Int), (((cstep s p).r p : Nat) : Int)] →
      Calls Tryd.prog 8 #[v, .int .i64 p] w (fun e w' => ∃ v', e = .returned v' ∧ Mc w' (New P w w') n v' ws ls os ∧ Below w.heap.size w w') →
      Calls Tryd.prog 8 #[v, .int .i64 p] w fun e w' => ∃ v', e = .returned v' ∧ Mc w' (New P w w') n v' (lkWords n (cstep s p)) (lkLines n (cstep s p)) (lkOwns n (cstep s p)) ∧ Below w.heap.size w w' := by
    intro ws ls os e1 e2 e3 hc
    rw [lines_step, owns_step, ← e1, ← e2, ← e3]
    exact hc
  have hline := hok.line hp
  have hml := hok.mine hp
  obtain a1 | a2 | a3 | a4 | a5 : s.a p = 1 ∨ s.a p = 2 ∨ s.a p = 3 ∨ s.a p = 4 ∨ s.a p = 5 := by omega
  · rw [a1] at hl
    have e : cstep s p = ⟨cup s.a p 2, s.m, s.r, cup s.B (s.m p) 1, s.T⟩ := by simp [cstep, a1]
    refine key _ _ _ ?_ ?_ ?_ (ref1 n p (s.m p) (s.r p) (1 + s.m p) v _ _ _ w hP h hh hl ho rfl (by omega))
    · rw [e]; exact words_B s _ _ _ (s.m p) 1
    · rw [e]; simp [cup]
    · rw [e]; exact (set_same ho).symm
  · rw [a2] at hl
    have e : cstep s p = ⟨cup s.a p 3, s.m, cup s.r p s.T, s.B, s.m p⟩ := by simp [cstep, a2]
    refine key _ _ _ ?_ ?_ ?_ (ref2 n p (s.m p) (s.r p) s.T v _ _ _ w hP h hh hl ho hT)
    · rw [e]; exact words_T n s _ _ _ (s.m p)
    · rw [e]; simp [cup]
    · rw [e]; simp [cup]
  · rw [a3] at hl
    have hrl := hok.far hp (show 3 ≤ s.a p by omega)
    have hw := lkWords_mark (n := n) s (show s.r p < n + 1 by omega)
    by_cases hb : s.B (s.r p) = 0
    · have e : cstep s p = ⟨cup s.a p 4, s.m, s.r, s.B, s.T⟩ := by simp [cstep, a3, hb]
      refine key _ _ _ ?_ ?_ ?_ (ref3g n p (s.m p) (s.r p) (1 + s.r p) (s.B (s.r p)) v _ _ _ w hP h hh hl ho rfl (by omega) hw hb)
      · rw [e]; rfl
      · rw [e]; simp [cup]
      · rw [e]; exact (set_same ho).symm
    · have e : cstep s p = s := by simp [cstep, a3, hb]
      refine key _ _ _ ?_ ?_ ?_ (ref3s n p (s.m p) (s.r p) (1 + s.r p) (s.B (s.r p)) v _ _ _ w hP h hh hl ho rfl (by omega) hw hb)
      · rw [e]
      · rw [e, a3]; rfl
      · rw [e]; exact (set_same ho).symm
  · rw [a4] at hl
    have e : cstep s p = ⟨cup s.a p 5, s.m, s.r, s.B, s.T⟩ := by simp [cstep, a4]
    refine key _ _ _ ?_ ?_ ?_ (ref4 n p (s.m p) (s.r p) v _ _ _ w hP h hh hl ho)
    · rw [e]; rfl
    · rw [e]; simp [cup]
    · rw [e]; exact (set_same ho).symm
  · rw [a5] at hl
    have e : cstep s p = ⟨cup s.a p 1, cup s.m p (s.r p), s.r, cup s.B (s.m p) 0, s.T⟩ := by simp [cstep, a5]
    refine key _ _ _ ?_ ?_ ?_ (ref5 n p (s.m p) (s.r p) (1 + s.m p) v _ _ _ w hP h hh hl ho rfl (by omega))
    · rw [e]; exact words_B s _ _ _ (s.m p) 0
    · rw [e]; simp [cup]
    · rw [e]; simp [cup]
theorem lkRef_any {n A : Nat} {s : LSt} (hok : lkOk n s) (hn : n ≤ 4) (hf : lkFit n s A) (hA : A ≤ 100000) {p : Nat} (hp : p < n) (v : Value) (w : World) {P : Nat → Prop} (hP : ∀ b, P b → b < w.heap.size) (h : Mc w P n v (lkWords n s) (lkLines n s) (lkOwns n s)) :
    Calls Tryd.prog 8 #[v, .int .i64 p] w fun e w' => ∃ v', e = .returned v' ∧ Mc w' (New P w w') n v' (lkWords n (cstep s p)) (lkLines n (cstep s p)) (lkOwns n (cstep s p)) ∧ Below w.heap.size w w' := ref_any hok hn hf hA hp v w hP h
end Go.Proofs.YtobfaohcadmopaaDoor.Clh
