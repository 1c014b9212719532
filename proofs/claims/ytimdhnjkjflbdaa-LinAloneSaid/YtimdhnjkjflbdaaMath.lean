/-
  Plain mathematics for little programs (chapter 1): what is wrong with a program, and what it does by a script. It imports nothing of the translation.
-/
namespace Go.Proofs.Ytimdhnjkjflbdaa

/-- A line of a little program. -/
structure Ln where
  k : Int
  r : Int
  d : Int
  v : Int

def inR (n lo hi : Int) : Bool := decide (lo ≤ n ∧ n ≤ hi)
theorem inR_true {n lo hi : Int} : inR n lo hi = true ↔ lo ≤ n ∧ n ≤ hi := by simp [inR]
theorem inR_false {n lo hi : Int} : inR n lo hi = false ↔ ¬ (lo ≤ n ∧ n ≤ hi) := by rw [← Bool.not_eq_true, inR_true]

/-- May a line stand in a program of so many words? -/
def okLn (words : Int) (l : Ln) : Bool :=
  if l.k = 0 then inR l.r 0 1 && inR l.v 0 1000
  else if l.k = 1 ∨ l.k = 2 ∨ l.k = 3 then inR l.r 0 1 && inR l.d 0 (words - 1)
  else if l.k = 4 then true
  else if l.k = 5 then inR l.r 0 1 && inR l.v 0 5
  else false

def handErr (words : Int) (ls : List Ln) : Int := if 5 < ls.length then 4 else if ls.all (okLn words) then 0 else 1
def handsErr (words : Int) : List (List Ln) → Int
  | [] => 0
  | l :: r => if handErr words l = 0 then handsErr words r else handErr words l
def check (words : Int) (hs : List (List Ln)) : Int :=
  if ¬ (1 ≤ words ∧ words ≤ 4) then 1 else if hs.length = 0 then 5 else if 3 < hs.length then 4 else handsErr words hs

theorem handsErr_append (words : Int) (a b : List (List Ln)) : handsErr words (a ++ b) = if handsErr words a = 0 then handsErr words b else handsErr words a := by
  induction a with
  | nil => simp [handsErr]
  | cons x r ih =>
    simp only [List.cons_append, handsErr, ih]
    by_cases h : handErr words x = 0 <;> simp [h]
theorem handErr_cases (words : Int) (ls : List Ln) : handErr words ls = 0 ∨ handErr words ls = 1 ∨ handErr words ls = 4 := by
  unfold handErr
  split
  · simp
  · split <;> simp
theorem handsErr_cases (words : Int) (hs : List (List Ln)) : handsErr words hs = 0 ∨ handsErr words hs = 1 ∨ handsErr words hs = 4 := by
  induction hs with
  | nil => simp [handsErr]
  | cons x r ih =>
    simp only [handsErr]
    split
    · exact ih
    · exact handErr_cases words x
/-- What is wrong when the first hands are well and the next one is not. -/
theorem handsErr_at (words : Int) (hs : List (List Ln)) (i : Nat) (l : List Ln) (hl : hs[i]? = some l) (h0 : handsErr words (hs.take i) = 0) (hne : handErr words l ≠ 0) :
    handsErr words hs = handErr words l := by
  have hi : i < hs.length := by
    rcases Nat.lt_or_ge i hs.length with h | h
    · exact h
    · rw [List.getElem?_eq_none h] at hl; cases hl
  have e : hs = hs.take i ++ l :: hs.drop (i + 1) := by
    have hg : hs[i] = l := by rw [List.getElem?_eq_getElem hi] at hl; exact Option.some.inj hl
    rw [← hg, List.getElem_cons_drop, List.take_append_drop]
  rw [e, handsErr_append, if_pos h0, handsErr, if_neg hne]
theorem handsErr_step (words : Int) (hs : List (List Ln)) (i : Nat) (l : List Ln) (hl : hs[i]? = some l) (h0 : handsErr words (hs.take i) = 0) (h : handErr words l = 0) :
    handsErr words (hs.take (i + 1)) = 0 := by
  have hi : i < hs.length := by
    rcases Nat.lt_or_ge i hs.length with h | h
    · exact h
    · rw [List.getElem?_eq_none h] at hl; cases hl
  have hg : hs[i] = l := by rw [List.getElem?_eq_getElem hi] at hl; exact Option.some.inj hl
  rw [List.take_succ_eq_append_getElem hi, handsErr_append, if_pos h0, hg, handsErr, if_pos h]; rfl
theorem all_take_succ {α : Type} (p : α → Bool) (l : List α) (i : Nat) (x : α) (hx : l[i]? = some x) (h : (l.take i).all p = true) (hp : p x = true) : (l.take (i + 1)).all p = true := by
  have hi : i < l.length := by
    rcases Nat.lt_or_ge i l.length with h | h
    · exact h
    · rw [List.getElem?_eq_none h] at hx; cases hx
  have hg : l[i] = x := by rw [List.getElem?_eq_getElem hi] at hx; exact Option.some.inj hx
  rw [List.take_succ_eq_append_getElem hi, List.all_append, h, hg]
  simp [hp]
theorem not_all_of {α : Type} (p : α → Bool) (l : List α) (i : Nat) (x : α) (hx : l[i]? = some x) (hp : p x = false) : l.all p = false := by
  have hm : x ∈ l := List.mem_of_getElem? hx
  rw [← Bool.not_eq_true, List.all_eq_true]
  intro h
  rw [h x hm] at hp
  cases hp
end Go.Proofs.Ytimdhnjkjflbdaa
