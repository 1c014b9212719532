/-
  The reference's step of the lock whose hands stand in a row: it is qstep.
-/
import Derived.Test.YtbbnlaabppbaeaaDoorMcsRef2
import Derived.Test.YtbbnlaabppbaeaaDoorRangeMap
namespace Go.Proofs.YtbbnlaabppbaeaaDoor.Mcs
open Go.RowKit

/-- At which line each hand is; what each has of its own. -/
def lkLines (n : Nat) (s : LSt) : List Int := (List.range n).map fun p => ((s.a p : Nat) : Int)
def lkOwns (n : Nat) (s : LSt) : List (List Int) := (List.range n).map fun p => [((s.o p : Nat) : Int)]
theorem set_same {α : Type} {l : List α} {i : Nat} {z : α} (h : l[i]? = some z) : l.set i z = l := by
  apply List.ext_getElem?
  intro j
  by_cases e : i = j
  · subst e; rw [List.getElem?_set_self (List.getElem?_eq_some_iff.1 h).1, h]
  · rw [List.getElem?_set_ne e]
theorem lines_step (n : Nat) (s : LSt) (p : Nat) : lkLines n (qstep s p) = (lkLines n s).set p (((qstep s p).a p : Nat) : Int) :=
  (range_set _ _ n p _ rfl (fun q hq => by rw [(qstep_oth hq).1])).symm
theorem owns_step (n : Nat) (s : LSt) (p : Nat) : lkOwns n (qstep s p) = (lkOwns n s).set p [(((qstep s p).o p : Nat) : Int)] :=
  (range_set _ _ n p _ rfl (fun q hq => by rw [(qstep_oth hq).2])).symm
/-- Another T; another W; another S. -/
theorem words_T (n : Nat) (s : LSt) (a o : Nat → Nat) (z : Nat) : (lkWords n s).set 0 (z : Int) = lkWords n ⟨a, o, s.w, s.f, z⟩ := rfl
theorem words_w {n : Nat} (s : LSt) (a o : Nat → Nat) {q : Nat} (_hq : q < n) (z : Nat) : (lkWords n s).set (1 + q) (z : Int) = lkWords n ⟨a, o, qup s.w q z, s.f, s.T⟩ := by
  unfold lkWords
  rw [Nat.add_comm 1 q, List.set_cons_succ, List.set_append_left _ _ (by simpa using _hq), range_set _ (fun r => ((qup s.w q z r : Nat) : Int)) n q _ (by rw [qup_same]) (fun r hr => by rw [qup_other hr])]
theorem words_f {n : Nat} (s : LSt) (a o : Nat → Nat) (q : Nat) (z : Nat) : (lkWords n s).set (1 + n + q) (z : Int) = lkWords n ⟨a, o, s.w, qup s.f q z, s.T⟩ := by
  unfold lkWords
  rw [show 1 + n + q = n + q + 1 by omega, List.set_cons_succ, List.set_append_right _ _ (by simp), show n + q - ((List.range n).map fun r => ((s.w r : Nat) : Int)).length = q by simp,
    range_set _ (fun r => ((qup s.f q z r : Nat) : Int)) n q _ (by rw [qup_same]) (fun r hr => by rw [qup_other hr])]

theorem ref_any {n A : Nat} {s : LSt} (hok : lkOk n s) (hn : n ≤ 4) (_hf : lkFit n s A) (_hA : A ≤ 100000) {p : Nat} (hp : p < n) (v : Value) (w : World) {P : Nat → Prop} (hP : ∀ b, P b → b < w.heap.size) (h : Mc w P n v (lkWords n s) (lkLines n s) (lkOwns n s)) :
    Calls Tryd.prog 9 #[v, .int .i64 p] w fun e w' => ∃ v', e = .returned v' ∧ Mc w' (New P w w') n v' (lkWords n (qstep s p)) (lkLines n (qstep s p)) (lkOwns n (qstep s p)) ∧ Below w.heap.size w w' := by
  have hwl := lkWords_len n s
  have hll : (lkLines n s).length = n := by simp [lkLines]
  have hol : (lkOwns n s).length = n := by simp [lkOwns]
  have hl : (lkLines n s)[p]? = some ((s.a p : Nat) : Int) := range_get _ hp
  have ho : (lkOwns n s)[p]? = some [((s.o p : Nat) : Int)] := range_get _ hp
  have hh : RefAt n p (lkWords n s) (lkLines n s) (lkOwns n s) := ⟨hn, hp, by omega, by omega, by omega, by omega⟩
  have hT : (lkWords n s)[0]? = some ((s.T : Nat) : Int) := rfl
  have hw := lkWords_low s hp
  have hf := lkWords_high s hp
  have key : ∀ (ws : List Int) (ls : List Int) (os : List (List Int)), ws = lkWords n (qstep s p) → ls = (lkLines n s).set p (((qstep s p).a p : Nat) : Int) → os = (lkOwns n s).set p [(((qstep s p).o p : Nat) : Int)] →
      Calls Tryd.prog 9 #[v, .int .i64 p] w (fun e w' => ∃ v', e = .returned v' ∧ Mc w' (New P w w') n v' ws ls os ∧ Below w.heap.size w w') →
      Calls Tryd.prog 9 #[v, .int .i64 p] w fun e w' => ∃ v', e = .returned v' ∧ Mc w' (New P w w') n v' (lkWords n (qstep s p)) (lkLines n (qstep s p)) (lkOwns n (qstep s p)) ∧ Below w.heap.size w w' := by
    intro ws ls os e1 e2 e3 hc
    rw [lines_step, owns_step, ← e1, ← e2, ← e3]
    exact hc
  have hline := hok.line hp
  have hkn := hok.known hp
  obtain a1 | a2 | a3 | a4 | a5 | a6 | a7 | a8 | a9 | a10 : s.a p = 1 ∨ s.a p = 2 ∨ s.a p = 3 ∨ s.a p = 4 ∨ s.a p = 5 ∨ s.a p = 6 ∨ s.a p = 7 ∨ s.a p = 8 ∨ s.a p = 9 ∨ s.a p = 10 := by omega
  · rw [a1] at hl
    have e : qstep s p = ⟨qup s.a p 2, s.o, s.w, qup s.f p 0, s.T⟩ := by simp [qstep, a1]
    refine key _ _ _ ?_ ?_ ?_ (ref1 n p (s.o p) (1 + n) (1 + n + p) v _ _ _ w hP h hh hl ho rfl rfl (by omega))
    · rw [e]; exact words_f s _ _ p 0
    · rw [e]; simp [qup]
    · rw [e]; exact (set_same ho).symm
  · rw [a2] at hl
    by_cases hb : s.T = 0
    · have e : qstep s p = ⟨qup s.a p 6, qup s.o p s.T, s.w, s.f, p + 1⟩ := by simp [qstep, a2, hb]
      refine key _ _ _ ?_ ?_ ?_ (ref2s n p (s.o p) s.T (p + 1) v _ _ _ w hP h hh hl ho hT rfl hb)
      · rw [e]; exact words_T n s _ _ (p + 1)
      · rw [e]; simp [qup]
      · rw [e]; simp [qup]
    · have e : qstep s p = ⟨qup s.a p 3, qup s.o p s.T, s.w, s.f, p + 1⟩ := by simp [qstep, a2, hb]
      refine key _ _ _ ?_ ?_ ?_ (ref2g n p (s.o p) s.T (p + 1) v _ _ _ w hP h hh hl ho hT rfl hb)
      · rw [e]; exact words_T n s _ _ (p + 1)
      · rw [e]; simp [qup]
      · rw [e]; simp [qup]
  · rw [a3] at hl
    have e : qstep s p = ⟨qup s.a p 4, s.o, qup s.w p 1, s.f, s.T⟩ := by simp [qstep, a3]
    refine key _ _ _ ?_ ?_ ?_ (ref3 n p (s.o p) (1 + p) v _ _ _ w hP h hh hl ho rfl (by omega))
    · rw [e]; exact words_w s _ _ hp 1
    · rw [e]; simp [qup]
    · rw [e]; exact (set_same ho).symm
  · rw [a4] at hl
    have hk := hkn (Or.inl a4)
    rw [raw_big (show 2 < s.a p by omega)] at hk
    obtain ⟨r, hr⟩ : ∃ r, s.o p = r + 1 := ⟨s.o p - 1, by omega⟩
    have e : qstep s p = ⟨qup s.a p 5, s.o, s.w, qup s.f r (p + 1), s.T⟩ := by simp [qstep, a4, hr]
    refine key _ _ _ ?_ ?_ ?_ (ref4 n p (s.o p) (1 + n + r) (p + 1) v _ _ _ w hP h hh hl ho rfl (by omega) (by omega))
    · rw [e]; exact words_f s _ _ r (p + 1)
    · rw [e]; simp [qup]
    · rw [e]; exact (set_same ho).symm
  · rw [a5] at hl
    by_cases hb : s.w p = 0
    · have e : qstep s p = ⟨qup s.a p 6, s.o, s.w, s.f, s.T⟩ := by simp [qstep, a5, hb]
      refine key _ _ _ ?_ ?_ ?_ (ref5g n p (s.o p) (1 + p) (s.w p) v _ _ _ w hP h hh hl ho rfl (by omega) hw hb)
      · rw [e]; rfl
      · rw [e]; simp [qup]
      · rw [e]; exact (set_same ho).symm
    · have e : qstep s p = s := by simp [qstep, a5, hb]
      refine key _ _ _ ?_ ?_ ?_ (ref5s n p (s.o p) (1 + p) (s.w p) v _ _ _ w hP h hh hl ho rfl (by omega) hw hb)
      · rw [e]
      · rw [e, a5]; rfl
      · rw [e]; exact (set_same ho).symm
  · rw [a6] at hl
    have e : qstep s p = ⟨qup s.a p 7, s.o, s.w, s.f, s.T⟩ := by simp [qstep, a6]
    refine key _ _ _ ?_ ?_ ?_ (ref6 n p (s.o p) v _ _ _ w hP h hh hl ho)
    · rw [e]; rfl
    · rw [e]; simp [qup]
    · rw [e]; exact (set_same ho).symm
  · rw [a7] at hl
    by_cases hb : s.f p = 0
    · have e : qstep s p = ⟨qup s.a p 8, qup s.o p (s.f p), s.w, s.f, s.T⟩ := by simp [qstep, a7, hb]
      refine key _ _ _ ?_ ?_ ?_ (ref7g n p (s.o p) (1 + n) (1 + n + p) (s.f p) v _ _ _ w hP h hh hl ho rfl rfl (by omega) hf hb)
      · rw [e]; rfl
      · rw [e]; simp [qup]
      · rw [e]; simp [qup]
    · have e : qstep s p = ⟨qup s.a p 10, qup s.o p (s.f p), s.w, s.f, s.T⟩ := by simp [qstep, a7, hb]
      refine key _ _ _ ?_ ?_ ?_ (ref7s n p (s.o p) (1 + n) (1 + n + p) (s.f p) v _ _ _ w hP h hh hl ho rfl rfl (by omega) hf hb)
      · rw [e]; rfl
      · rw [e]; simp [qup]
      · rw [e]; simp [qup]
  · rw [a8] at hl
    by_cases hb : s.T = p + 1
    · have e : qstep s p = ⟨qup s.a p 1, s.o, s.w, s.f, 0⟩ := by simp [qstep, a8, hb]
      refine key _ _ _ ?_ ?_ ?_ (ref8g n p (s.o p) s.T (p + 1) v _ _ _ w hP h hh hl ho hT rfl hb)
      · rw [e]; exact words_T n s _ _ 0
      · rw [e]; simp [qup]
      · rw [e]; exact (set_same ho).symm
    · have e : qstep s p = ⟨qup s.a p 9, s.o, s.w, s.f, s.T⟩ := by simp [qstep, a8, hb]
      refine key _ _ _ ?_ ?_ ?_ (ref8s n p (s.o p) s.T (p + 1) v _ _ _ w hP h hh hl ho hT rfl hb)
      · rw [e]; rfl
      · rw [e]; simp [qup]
      · rw [e]; exact (set_same ho).symm
  · rw [a9] at hl
    by_cases hb : s.f p = 0
    · have e : qstep s p = ⟨qup s.a p 9, qup s.o p (s.f p), s.w, s.f, s.T⟩ := by simp [qstep, a9, hb]
      refine key _ _ _ ?_ ?_ ?_ (ref9s n p (s.o p) (1 + n) (1 + n + p) (s.f p) v _ _ _ w hP h hh hl ho rfl rfl (by omega) hf hb)
      · rw [e]; rfl
      · rw [e]; simp [qup]
      · rw [e]; simp [qup]
    · have e : qstep s p = ⟨qup s.a p 10, qup s.o p (s.f p), s.w, s.f, s.T⟩ := by simp [qstep, a9, hb]
      refine key _ _ _ ?_ ?_ ?_ (ref9g n p (s.o p) (1 + n) (1 + n + p) (s.f p) v _ _ _ w hP h hh hl ho rfl rfl (by omega) hf hb)
      · rw [e]; rfl
      · rw [e]; simp [qup]
      · rw [e]; simp [qup]
  · rw [a10] at hl
    have hk := hkn (Or.inr a10)
    rw [raw_big (show 2 < s.a p by omega)] at hk
    obtain ⟨r, hr⟩ : ∃ r, s.o p = r + 1 := ⟨s.o p - 1, by omega⟩
    have hor : s.o p = 1 + r := by omega
    have e : qstep s p = ⟨qup s.a p 1, s.o, qup s.w r 0, s.f, s.T⟩ := by simp [qstep, a10, hr]
    refine key _ _ _ ?_ ?_ ?_ (ref10 n p (s.o p) v _ _ _ w hP h hh hl ho (by omega))
    · rw [e]; rw [hor]; exact words_w s _ _ (by omega) 0
    · rw [e]; simp [qup]
    · rw [e]; exact (set_same ho).symm
theorem lkRef_any {n A : Nat} {s : LSt} (hok : lkOk n s) (hn : n ≤ 4) (hf : lkFit n s A) (hA : A ≤ 100000) {p : Nat} (hp : p < n) (v : Value) (w : World) {P : Nat → Prop} (hP : ∀ b, P b → b < w.heap.size) (h : Mc w P n v (lkWords n s) (lkLines n s) (lkOwns n s)) :
    Calls Tryd.prog 9 #[v, .int .i64 p] w fun e w' => ∃ v', e = .returned v' ∧ Mc w' (New P w w') n v' (lkWords n (qstep s p)) (lkLines n (qstep s p)) (lkOwns n (qstep s p)) ∧ Below w.heap.size w w' := ref_any hok hn hf hA hp v w hP h
end Go.Proofs.YtbbnlaabppbaeaaDoor.Mcs
