/-
  The reference's step of the grid: it is spstep.
-/
import Derived.Test.YthainkgpafbjcaaDoorSplitRef
import Derived.Test.YthainkgpafbjcaaDoorRangeMap
namespace Go.Proofs.YthainkgpafbjcaaDoor.Split
open Go.RowKit

/-- The row and the column of a place. -/
def psum (k : Nat) : Nat := if k < 1 then 0 else if k < 3 then 1 else if k < 6 then 2 else 3
def prow (k : Nat) : Nat := k - trn (psum k)
def pcol (k : Nat) : Nat := psum k - prow k
theorem pn_back : ∀ k, k < 10 → pn (prow k) (pcol k) = k := by decide +kernel
theorem prow_big {k : Nat} (h : 10 ≤ k) : 4 ≤ prow k := by
  unfold prow psum
  rw [if_neg (show ¬ k < 1 by omega), if_neg (show ¬ k < 3 by omega), if_neg (show ¬ k < 6 by omega)]
  show 4 ≤ k - 6
  omega
theorem plc_of {k i j : Nat} (hij : i + j < 4) (h : prow k = i ∧ pcol k = j) : k = pn i j := by
  rcases Nat.lt_or_ge k 10 with h1 | h1
  · rw [← h.1, ← h.2]; exact (pn_back k h1).symm
  · have := prow_big h1; omega
theorem plc_pn {i j : Nat} (hij : i + j < 4) : prow (pn i j) = i ∧ pcol (pn i j) = j := pn_inj (pn_back _ (pn_lt hij))
/-- The words, place by place. -/
def wordOf (s : SPS) (t : Nat) : Int := if t % 2 = 0 then ((s.X (prow (t / 2)) (pcol (t / 2)) : Nat) : Int) else ((s.Y (prow (t / 2)) (pcol (t / 2)) : Nat) : Int)
def lkWords (n : Nat) (s : LSt) : List Int := (List.range (n * (n + 1))).map (wordOf s.v)
theorem lkWords_len (n : Nat) (s : LSt) : (lkWords n s).length = n * (n + 1) := by simp [lkWords]
theorem two_lt {n i j : Nat} (h : i + j < n) : 2 * pn i j + 1 < n * (n + 1) := by
  have h1 := pn_lt' h
  unfold trn at h1
  have h2 : 2 * (n * (n + 1) / 2) ≤ n * (n + 1) := by omega
  omega
theorem lkWords_X {n : Nat} (s : LSt) {i j : Nat} (h4 : i + j < 4) (h : i + j < n) : (lkWords n s)[2 * pn i j]? = some ((s.v.X i j : Nat) : Int) := by
  rw [lkWords, range_get _ (by have := two_lt h; omega), wordOf, if_pos (by omega), show 2 * pn i j / 2 = pn i j by omega, (plc_pn h4).1, (plc_pn h4).2]
theorem lkWords_Y {n : Nat} (s : LSt) {i j : Nat} (h4 : i + j < 4) (h : i + j < n) : (lkWords n s)[2 * pn i j + 1]? = some ((s.v.Y i j : Nat) : Int) := by
  rw [lkWords, range_get _ (two_lt h), wordOf, if_neg (by omega), show (2 * pn i j + 1) / 2 = pn i j by omega, (plc_pn h4).1, (plc_pn h4).2]
/-- At which line each hand is; what each has of its own. -/
def lkLines (n : Nat) (s : LSt) : List Int := (List.range n).map fun p => (((s.v.s p).a : Nat) : Int)
def lkOwns (n : Nat) (s : LSt) : List (List Int) := (List.range n).map fun p => [(((s.v.s p).r : Nat) : Int), (((s.v.s p).c : Nat) : Int)]
theorem set_same {α : Type} {l : List α} {i : Nat} {z : α} (h : l[i]? = some z) : l.set i z = l := by
  apply List.ext_getElem?
  intro j
  by_cases e : i = j
  · subst e; rw [List.getElem?_set_self (List.getElem?_eq_some_iff.1 h).1, h]
  · rw [List.getElem?_set_ne e]
theorem step_oth {s : LSt} {p q : Nat} (h : q ≠ p) : (sgstep s p).v.s q = s.v.s q := sup_other h
theorem step_own (s : LSt) (p : Nat) : (sgstep s p).v.s p = spone s.v p := sup_same _ _ _
theorem lines_step (n : Nat) (s : LSt) (p : Nat) : lkLines n (sgstep s p) = (lkLines n s).set p (((spone s.v p).a : Nat) : Int) :=
  (range_set _ _ n p _ (by rw [step_own]) (fun q hq => by rw [step_oth hq])).symm
theorem owns_step (n : Nat) (s : LSt) (p : Nat) : lkOwns n (sgstep s p) = (lkOwns n s).set p [(((spone s.v p).r : Nat) : Int), (((spone s.v p).c : Nat) : Int)] :=
  (range_set _ _ n p _ (by rw [step_own]) (fun q hq => by rw [step_oth hq])).symm
/-- What the words are: nothing turned; X, Y of a place. -/
theorem words_S {n : Nat} {s : LSt} {p : Nat} (hX : spX s.v p = s.v.X) (hY : spY s.v p = s.v.Y) : lkWords n s = lkWords n (sgstep s p) := by
  unfold lkWords
  refine List.map_congr_left fun t _ => ?_
  unfold wordOf
  rw [show (sgstep s p).v.X = spX s.v p from rfl, show (sgstep s p).v.Y = spY s.v p from rfl, hX, hY]
theorem words_X {n : Nat} {s : LSt} {p z i j : Nat} (h4 : i + j < 4) (hX : spX s.v p = pup s.v.X i j z) (hY : spY s.v p = s.v.Y) : (lkWords n s).set (2 * pn i j) (z : Int) = lkWords n (sgstep s p) := by
  refine range_set _ _ _ _ _ ?_ fun t ht => ?_
  · rw [wordOf, if_pos (by omega), show 2 * pn i j / 2 = pn i j by omega, (plc_pn h4).1, (plc_pn h4).2, show (sgstep s p).v.X = spX s.v p from rfl, hX, pup_same]
  · unfold wordOf
    rw [show (sgstep s p).v.X = spX s.v p from rfl, show (sgstep s p).v.Y = spY s.v p from rfl, hX, hY]
    split
    · rw [pup_other fun e => ht (by have := plc_of h4 e; omega)]
    · rfl
theorem words_Y {n : Nat} {s : LSt} {p z i j : Nat} (h4 : i + j < 4) (hX : spX s.v p = s.v.X) (hY : spY s.v p = pup s.v.Y i j z) : (lkWords n s).set (2 * pn i j + 1) (z : Int) = lkWords n (sgstep s p) := by
  refine range_set _ _ _ _ _ ?_ fun t ht => ?_
  · rw [wordOf, if_neg (by omega), show (2 * pn i j + 1) / 2 = pn i j by omega, (plc_pn h4).1, (plc_pn h4).2, show (sgstep s p).v.Y = spY s.v p from rfl, hY, pup_same]
  · unfold wordOf
    rw [show (sgstep s p).v.X = spX s.v p from rfl, show (sgstep s p).v.Y = spY s.v p from rfl, hX, hY]
    split
    · rfl
    · rw [pup_other fun e => ht (by have := plc_of h4 e; omega)]

set_option maxHeartbeats 2000000 in
theorem ref_any {n A : Nat} {s : LSt} (hok : lkOk n s) (hn : n ≤ 4) (_hf : lkFit n s A) (_hA : A ≤ 100000) {p : Nat} (hp : p < n) (v : Value) (w : World) {P : Nat → Prop} (hP : ∀ b, P b → b < w.heap.size) (h : Mc w P n v (lkWords n s) (lkLines n s) (lkOwns n s)) :
    Calls Tryd.prog 9 #[v, .int .i64 p] w fun e w' => ∃ v', e = .returned v' ∧ Mc w' (New P w w') n v' (lkWords n (sgstep s p)) (lkLines n (sgstep s p)) (lkOwns n (sgstep s p)) ∧ Below w.heap.size w w' := by
  have hwl := lkWords_len n s
  have hnn : n * (n + 1) ≤ 4 * 5 := Nat.mul_le_mul (by omega) (by omega)
  have hll : (lkLines n s).length = n := by simp [lkLines]
  have hol : (lkOwns n s).length = n := by simp [lkOwns]
  have hl : (lkLines n s)[p]? = some (((s.v.s p).a : Nat) : Int) := range_get _ hp
  have ho : (lkOwns n s)[p]? = some [(((s.v.s p).r : Nat) : Int), (((s.v.s p).c : Nat) : Int)] := range_get _ hp
  have hdep : (s.v.s p).r + (s.v.s p).c < n := SOk.depth hok hp
  have h4 : (s.v.s p).r + (s.v.s p).c < 4 := by omega
  have hw2 : 2 * pn (s.v.s p).r (s.v.s p).c + 1 < (lkWords n s).length := by rw [hwl]; exact two_lt hdep
  have hh : RefAt n p (lkWords n s) (lkLines n s) (lkOwns n s) := ⟨hn, hp, by omega, by omega, by omega, by omega⟩
  have hX := lkWords_X s h4 hdep
  have hY := lkWords_Y s h4 hdep
  have key : ∀ (ws : List Int) (ls : List Int) (os : List (List Int)), ws = lkWords n (sgstep s p) → ls = (lkLines n s).set p (((spone s.v p).a : Nat) : Int) → os = (lkOwns n s).set p [(((spone s.v p).r : Nat) : Int), (((spone s.v p).c : Nat) : Int)] →
      Calls Tryd.prog 9 #[v, .int .i64 p] w (fun e w' => ∃ v', e = .returned v' ∧ Mc w' (New P w w') n v' ws ls os ∧ Below w.heap.size w w') →
      Calls Tryd.prog 9 #[v, .int .i64 p] w fun e w' => ∃ v', e = .returned v' ∧ Mc w' (New P w w') n v' (lkWords n (sgstep s p)) (lkLines n (sgstep s p)) (lkOwns n (sgstep s p)) ∧ Below w.heap.size w w' := by
    intro ws ls os e1 e2 e3 hc
    rw [lines_step, owns_step, ← e1, ← e2, ← e3]
    exact hc
  have hline := hok.rng p hp
  obtain a1 | a2 | a3 | a4 | a5 : (s.v.s p).a = 1 ∨ (s.v.s p).a = 2 ∨ (s.v.s p).a = 3 ∨ (s.v.s p).a = 4 ∨ (s.v.s p).a = 5 := by omega
  · rw [a1] at hl
    have e : spone s.v p = ⟨2, (s.v.s p).r, (s.v.s p).c⟩ := by simp [spone, a1]
    have eX : spX s.v p = pup s.v.X (s.v.s p).r (s.v.s p).c (p + 1) := by simp [spX, a1]
    have eY : spY s.v p = s.v.Y := by simp [spY, a1]
    refine key _ _ _ ?_ ?_ ?_ (ref1 n p (s.v.s p).r (s.v.s p).c (pn (s.v.s p).r (s.v.s p).c) (2 * pn (s.v.s p).r (s.v.s p).c) (2 * pn (s.v.s p).r (s.v.s p).c + 1) (p + 1) v _ _ _ w hP h hh hl ho h4 rfl rfl rfl hw2 rfl)
    · exact words_X h4 eX eY
    · rw [e]; rfl
    · rw [e]; exact (set_same ho).symm
  · rw [a2] at hl
    by_cases hb : s.v.Y (s.v.s p).r (s.v.s p).c = 1
    · have e : spone s.v p = ⟨1, (s.v.s p).r, (s.v.s p).c + 1⟩ := by simp [spone, a2, hb]
      have eX : spX s.v p = s.v.X := by simp [spX, a2]
      have eY : spY s.v p = s.v.Y := by simp [spY, a2]
      refine key _ _ _ ?_ ?_ ?_ (ref2g n p (s.v.s p).r (s.v.s p).c (pn (s.v.s p).r (s.v.s p).c) (2 * pn (s.v.s p).r (s.v.s p).c) (2 * pn (s.v.s p).r (s.v.s p).c + 1) (s.v.Y (s.v.s p).r (s.v.s p).c) ((s.v.s p).c + 1) v _ _ _ w hP h hh hl ho h4 rfl rfl rfl hw2 hY hb rfl)
      · exact words_S eX eY
      · rw [e]; rfl
      · rw [e]
    · have e : spone s.v p = ⟨3, (s.v.s p).r, (s.v.s p).c⟩ := by simp [spone, a2, hb]
      have eX : spX s.v p = s.v.X := by simp [spX, a2]
      have eY : spY s.v p = s.v.Y := by simp [spY, a2]
      refine key _ _ _ ?_ ?_ ?_ (ref2s n p (s.v.s p).r (s.v.s p).c (pn (s.v.s p).r (s.v.s p).c) (2 * pn (s.v.s p).r (s.v.s p).c) (2 * pn (s.v.s p).r (s.v.s p).c + 1) (s.v.Y (s.v.s p).r (s.v.s p).c) v _ _ _ w hP h hh hl ho h4 rfl rfl rfl hw2 hY hb)
      · exact words_S eX eY
      · rw [e]; rfl
      · rw [e]; exact (set_same ho).symm
  · rw [a3] at hl
    have e : spone s.v p = ⟨4, (s.v.s p).r, (s.v.s p).c⟩ := by simp [spone, a3]
    have eX : spX s.v p = s.v.X := by simp [spX, a3]
    have eY : spY s.v p = pup s.v.Y (s.v.s p).r (s.v.s p).c 1 := by simp [spY, a3]
    refine key _ _ _ ?_ ?_ ?_ (ref3 n p (s.v.s p).r (s.v.s p).c (pn (s.v.s p).r (s.v.s p).c) (2 * pn (s.v.s p).r (s.v.s p).c) (2 * pn (s.v.s p).r (s.v.s p).c + 1) v _ _ _ w hP h hh hl ho h4 rfl rfl rfl hw2)
    · exact words_Y h4 eX eY
    · rw [e]; rfl
    · rw [e]; exact (set_same ho).symm
  · rw [a4] at hl
    by_cases hb : s.v.X (s.v.s p).r (s.v.s p).c = p + 1
    · have e : spone s.v p = ⟨5, (s.v.s p).r, (s.v.s p).c⟩ := by simp [spone, a4, hb]
      have eX : spX s.v p = s.v.X := by simp [spX, a4]
      have eY : spY s.v p = s.v.Y := by simp [spY, a4]
      refine key _ _ _ ?_ ?_ ?_ (ref4s n p (s.v.s p).r (s.v.s p).c (pn (s.v.s p).r (s.v.s p).c) (2 * pn (s.v.s p).r (s.v.s p).c) (2 * pn (s.v.s p).r (s.v.s p).c + 1) (s.v.X (s.v.s p).r (s.v.s p).c) (p + 1) v _ _ _ w hP h hh hl ho h4 rfl rfl rfl hw2 hX rfl hb)
      · exact words_S eX eY
      · rw [e]; rfl
      · rw [e]; exact (set_same ho).symm
    · have e : spone s.v p = ⟨1, (s.v.s p).r + 1, (s.v.s p).c⟩ := by simp [spone, a4, hb]
      have eX : spX s.v p = s.v.X := by simp [spX, a4]
      have eY : spY s.v p = s.v.Y := by simp [spY, a4]
      refine key _ _ _ ?_ ?_ ?_ (ref4g n p (s.v.s p).r (s.v.s p).c (pn (s.v.s p).r (s.v.s p).c) (2 * pn (s.v.s p).r (s.v.s p).c) (2 * pn (s.v.s p).r (s.v.s p).c + 1) (s.v.X (s.v.s p).r (s.v.s p).c) (p + 1) ((s.v.s p).r + 1) v _ _ _ w hP h hh hl ho h4 rfl rfl rfl hw2 hX rfl hb rfl)
      · exact words_S eX eY
      · rw [e]; rfl
      · rw [e]
  · rw [a5] at hl
    have e : spone s.v p = ⟨5, (s.v.s p).r, (s.v.s p).c⟩ := (show spone s.v p = s.v.s p by simp [spone, a5]).trans (sh_ext a5 rfl rfl)
    have eX : spX s.v p = s.v.X := by simp [spX, a5]
    have eY : spY s.v p = s.v.Y := by simp [spY, a5]
    refine key _ _ _ ?_ ?_ ?_ (ref5 n p (s.v.s p).r (s.v.s p).c (pn (s.v.s p).r (s.v.s p).c) (2 * pn (s.v.s p).r (s.v.s p).c) (2 * pn (s.v.s p).r (s.v.s p).c + 1) v _ _ _ w hP h hh hl ho h4 rfl rfl rfl hw2)
    · exact words_S eX eY
    · rw [e]; exact (set_same hl).symm
    · rw [e]; exact (set_same ho).symm
theorem lkRef_any {n A : Nat} {s : LSt} (hok : lkOk n s) (hn : n ≤ 4) (hf : lkFit n s A) (hA : A ≤ 100000) {p : Nat} (hp : p < n) (v : Value) (w : World) {P : Nat → Prop} (hP : ∀ b, P b → b < w.heap.size) (h : Mc w P n v (lkWords n s) (lkLines n s) (lkOwns n s)) :
    Calls Tryd.prog 9 #[v, .int .i64 p] w fun e w' => ∃ v', e = .returned v' ∧ Mc w' (New P w w') n v' (lkWords n (sgstep s p)) (lkLines n (sgstep s p)) (lkOwns n (sgstep s p)) ∧ Below w.heap.size w w' := ref_any hok hn hf hA hp v w hP h
end Go.Proofs.YthainkgpafbjcaaDoor.Split
