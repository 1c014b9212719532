/-
  What a program may come to where what is stored waits, hand by hand; how many states there are at most: plain mathematics.
-/
import Derived.Test.YthpnnmkpbkbanaaDoorMath
namespace Go.Proofs.YthpnnmkpbkbanaaDoor

def upd {α : Type} (f : Nat → α) (i : Nat) (x : α) : Nat → α := fun j => if j = i then x else f j
theorem upd_same {α : Type} (f : Nat → α) (i : Nat) (x : α) : upd f i x i = x := by simp [upd]
theorem upd_other {α : Type} {f : Nat → α} {i j : Nat} {x : α} (h : j ≠ i) : upd f i x j = f j := by simp [upd, h]
theorem upd_upd {α : Type} (f : Nat → α) (i : Nat) (x y : α) : upd (upd f i x) i y = upd f i y := by
  funext j; unfold upd; split <;> rfl
theorem upd_comm {α : Type} {f : Nat → α} {i j : Nat} {x y : α} (h : i ≠ j) : upd (upd f i x) j y = upd (upd f j y) i x := by
  funext k; unfold upd; split <;> split <;> simp_all
theorem upd_id {α : Type} (f : Nat → α) (i : Nat) : upd f i (f i) = f := by
  funext j; unfold upd; split <;> simp_all

/-- What a hand has of its own: two registers, its next line, and what it stored that waits: words and values. -/
structure Own where
  a : Int
  b : Int
  n : Nat
  q : List (Nat × Int)
def own0 : Own := ⟨0, 0, 0, []⟩
structure TS where
  o : Nat → Own
  w : Nat → Int
def ts0 : TS := ⟨fun _ => own0, fun _ => 0⟩
/-- What the words are for who has this waiting. -/
def over (q : List (Nat × Int)) (w : Nat → Int) : Nat → Int := q.foldl (fun u e => upd u e.1 e.2) w
def Own.reg (o : Own) (r : Int) : Int := if r = 0 then o.a else o.b
def Own.setReg (o : Own) (r v : Int) : Own := if r = 0 then ⟨v, o.b, o.n, o.q⟩ else ⟨o.a, v, o.n, o.q⟩
def Own.at_ (o : Own) (n : Nat) : Own := ⟨o.a, o.b, n, o.q⟩
/-- A line that asks no word. -/
def locLn (len : Nat) (l : Ln) (o : Own) : Own :=
  if l.k = 0 then (o.at_ (o.n + 1)).setReg l.r l.v
  else if l.k = 2 then ⟨o.a, o.b, o.n + 1, o.q ++ [(l.d.toNat, o.reg l.r)]⟩
  else if l.k = 4 then (if o.q = [] then o.at_ (o.n + 1) else o)
  else if l.k = 5 ∧ o.reg l.r = 0 then o.at_ (min (o.n + 1 + l.v.toNat) len)
  else o.at_ (o.n + 1)
/-- A hand does such a line, if it has one next. -/
def loc (ls : List Ln) (o : Own) : Own :=
  match ls[o.n]? with
  | none => o
  | some l => if l.k = 1 ∨ l.k = 3 then o else locLn ls.length l o
/-- A hand does its next line. -/
def tsoLn (ls : List Ln) (o : Own) (w : Nat → Int) : Own × (Nat → Int) :=
  match ls[o.n]? with
  | none => (o, w)
  | some l =>
    if l.k = 1 then ((o.at_ (o.n + 1)).setReg l.r (over o.q w l.d.toNat), w)
    else if l.k = 3 then (if o.q = [] then ((o.at_ (o.n + 1)).setReg l.r (w l.d.toNat), upd w l.d.toNat (o.reg l.r)) else (o, w))
    else (locLn ls.length l o, w)
def tstp (hs : List (List Ln)) (s : TS) (p : Nat) : TS := ⟨upd s.o p (tsoLn (hs.getD p []) (s.o p) s.w).1, (tsoLn (hs.getD p []) (s.o p) s.w).2⟩
def Own.pop (o : Own) : Own := ⟨o.a, o.b, o.n, o.q.tail⟩
def tcom (s : TS) (p : Nat) : TS :=
  match (s.o p).q with
  | [] => s
  | e :: _ => ⟨upd s.o p (s.o p).pop, upd s.w e.1 e.2⟩
inductive TReach (hs : List (List Ln)) : TS → Prop
  | start : TReach hs ts0
  | step {s : TS} {p : Nat} : TReach hs s → p < hs.length → TReach hs (tstp hs s p)
  | come {s : TS} {p : Nat} : TReach hs s → p < hs.length → TReach hs (tcom s p)

/-! ### How many there are at most -/
def left_ (ls : List Ln) (o : Own) : Nat := (ls.length - o.n) + o.q.length
theorem setReg_n (o : Own) (r v : Int) : (o.setReg r v).n = o.n := by unfold Own.setReg; split <;> rfl
theorem setReg_q (o : Own) (r v : Int) : (o.setReg r v).q = o.q := by unfold Own.setReg; split <;> rfl
theorem lt_of_line {ls : List Ln} {n : Nat} {l : Ln} (h : ls[n]? = some l) : n < ls.length := (List.getElem?_eq_some_iff.1 h).1
/-- A line that asks no word: the hand stays, or goes on. -/
theorem loc_cases (ls : List Ln) (o : Own) : loc ls o = o ∨ (o.n < ls.length ∧ o.n + 1 ≤ (loc ls o).n ∧ left_ ls (loc ls o) ≤ left_ ls o) := by
  unfold loc
  cases h : ls[o.n]? with
  | none => exact Or.inl rfl
  | some l =>
    have hlt := lt_of_line h
    dsimp only
    split
    · exact Or.inl rfl
    · unfold locLn
      split
      · exact Or.inr ⟨hlt, by rw [setReg_n]; exact Nat.le_refl _, by simp [left_, setReg_n, setReg_q, Own.at_]; omega⟩
      · split
        · exact Or.inr ⟨hlt, Nat.le_refl _, by simp [left_]; omega⟩
        · split
          · split
            · exact Or.inr ⟨hlt, Nat.le_refl _, by simp [left_, Own.at_]; omega⟩
            · exact Or.inl rfl
          · split
            · exact Or.inr ⟨hlt, by simp [Own.at_]; omega, by simp [left_, Own.at_]; omega⟩
            · exact Or.inr ⟨hlt, Nat.le_refl _, by simp [left_, Own.at_]; omega⟩
theorem loc_left (ls : List Ln) (o : Own) : left_ ls (loc ls o) ≤ left_ ls o := by
  rcases loc_cases ls o with h | h
  · rw [h]; exact Nat.le_refl _
  · exact h.2.2
/-- What waits stays, and at most one more comes behind it. -/
theorem loc_q (ls : List Ln) (o : Own) : ∃ r, (loc ls o).q = o.q ++ r := by
  unfold loc
  cases h : ls[o.n]? with
  | none => exact ⟨[], by simp⟩
  | some l =>
    dsimp only
    split
    · exact ⟨[], by simp⟩
    · unfold locLn
      split
      · exact ⟨[], by simp [setReg_q, Own.at_]⟩
      · split
        · exact ⟨_, rfl⟩
        · split
          · split <;> exact ⟨[], by simp [Own.at_]⟩
          · split <;> exact ⟨[], by simp [Own.at_]⟩
def it (ls : List Ln) : Nat → Own → Own
  | 0, o => o
  | k + 1, o => it ls k (loc ls o)
theorem it_add (ls : List Ln) (k m : Nat) (o : Own) : it ls (k + m) o = it ls m (it ls k o) := by
  induction k generalizing o with
  | zero => rw [Nat.zero_add]; rfl
  | succ k ih => rw [Nat.succ_add]; exact ih (loc ls o)
theorem it_succ (ls : List Ln) (k : Nat) (o : Own) : it ls (k + 1) o = loc ls (it ls k o) := it_add ls k 1 o
theorem it_fix {ls : List Ln} {o : Own} (h : loc ls o = o) (k : Nat) : it ls k o = o := by
  induction k with
  | zero => rfl
  | succ k ih => rw [it_succ, ih, h]
theorem it_left (ls : List Ln) (k : Nat) (o : Own) : left_ ls (it ls k o) ≤ left_ ls o := by
  induction k generalizing o with
  | zero => exact Nat.le_refl _
  | succ k ih => exact Nat.le_trans (ih _) (loc_left ls o)
theorem it_q (ls : List Ln) (k : Nat) (o : Own) : ∃ r, (it ls k o).q = o.q ++ r := by
  induction k generalizing o with
  | zero => exact ⟨[], by simp [it]⟩
  | succ k ih =>
    obtain ⟨r, hr⟩ := ih (loc ls o)
    obtain ⟨r', hr'⟩ := loc_q ls o
    exact ⟨r' ++ r, by rw [show it ls (k + 1) o = it ls k (loc ls o) from rfl, hr, hr', List.append_assoc]⟩
theorem it_stop (ls : List Ln) (k : Nat) (o : Own) : ∃ j, j ≤ ls.length - o.n ∧ it ls k o = it ls j o := by
  induction k generalizing o with
  | zero => exact ⟨0, Nat.zero_le _, rfl⟩
  | succ k ih =>
    rcases loc_cases ls o with h | ⟨h1, h2, _⟩
    · exact ⟨0, Nat.zero_le _, it_fix h (k + 1)⟩
    · obtain ⟨j, hj, e⟩ := ih (loc ls o)
      exact ⟨j + 1, by omega, e⟩
/-- All that a hand does by itself. -/
def sat (ls : List Ln) (o : Own) : Own := it ls ls.length o
theorem sat_of {ls : List Ln} {o : Own} {k : Nat} (h : loc ls (it ls k o) = it ls k o) : sat ls o = it ls k o := by
  obtain ⟨j, hj, e⟩ := it_stop ls k o
  have hx : ls.length = j + (ls.length - j) := by omega
  rw [sat, hx, it_add, ← e, it_fix h]
def seekQ (ls : List Ln) : Nat → Own → Own
  | 0, o => o
  | f + 1, o => if o.q = [] then seekQ ls f (loc ls o) else o
theorem seekQ_it (ls : List Ln) (f : Nat) (o : Own) : ∃ m, m ≤ f ∧ seekQ ls f o = it ls m o := by
  induction f generalizing o with
  | zero => exact ⟨0, Nat.le_refl _, rfl⟩
  | succ f ih =>
    unfold seekQ
    split
    · obtain ⟨m, hm, e⟩ := ih (loc ls o)
      exact ⟨m + 1, by omega, e⟩
    · exact ⟨0, Nat.zero_le _, rfl⟩
theorem seekQ_of {ls : List Ln} {o : Own} (f k : Nat) (hk : k ≤ f) (h : (it ls k o).q ≠ []) : (seekQ ls f o).q ≠ [] ∧ ∃ j, it ls k o = it ls j (seekQ ls f o) := by
  induction f generalizing o k with
  | zero =>
    obtain rfl : k = 0 := by omega
    exact ⟨h, 0, rfl⟩
  | succ f ih =>
    unfold seekQ
    split
    · rename_i hq
      cases k with
      | zero => exact absurd hq h
      | succ k => exact ih k (by omega) h
    · rename_i hq
      exact ⟨hq, k, rfl⟩
theorem pop_loc {ls : List Ln} {o : Own} (hq : o.q ≠ []) : loc ls o = o ∨ (loc ls o).pop = loc ls o.pop := by
  unfold loc
  rw [show o.pop.n = o.n from rfl]
  cases h : ls[o.n]? with
  | none => exact Or.inl rfl
  | some l =>
    dsimp only
    split
    · exact Or.inl rfl
    · unfold locLn
      split
      · right; unfold Own.setReg; split <;> rfl
      · split
        · right
          obtain ⟨e, r, hr⟩ := List.exists_cons_of_ne_nil hq
          simp [Own.pop, hr, Own.reg]
        · split
          · first | exact Or.inl rfl | (rw [if_neg hq]; exact Or.inl rfl)
          · right
            rw [show o.pop.reg l.r = o.reg l.r from rfl]
            split <;> rfl
theorem pop_it {ls : List Ln} (k : Nat) {o : Own} (hq : o.q ≠ []) : ∃ j, (it ls k o).pop = it ls j o.pop := by
  induction k generalizing o with
  | zero => exact ⟨0, rfl⟩
  | succ k ih =>
    rcases pop_loc (ls := ls) hq with h | h
    · exact ⟨0, by rw [it_fix h]; rfl⟩
    · obtain ⟨r, hr⟩ := loc_q ls o
      obtain ⟨j, hj⟩ := ih (o := loc ls o) (by rw [hr]; simp [hq])
      exact ⟨j + 1, by rw [show it ls (k + 1) o = it ls k (loc ls o) from rfl, hj, h]; rfl⟩

/-- A state that comes of another one by lines that ask no word. -/
structure Ext (hs : List (List Ln)) (c s : TS) : Prop where
  w : s.w = c.w
  o : ∀ p, p < 3 → ∃ k, s.o p = it (hs.getD p []) k (c.o p)
  r : ∀ p, 3 ≤ p → s.o p = c.o p
def exts (hs : List (List Ln)) (c : TS) : List TS :=
  (List.range (left_ (hs.getD 0 []) (c.o 0) + 1)).flatMap fun i => (List.range (left_ (hs.getD 1 []) (c.o 1) + 1)).flatMap fun j => (List.range (left_ (hs.getD 2 []) (c.o 2) + 1)).map fun k =>
    ⟨upd (upd (upd c.o 0 (it (hs.getD 0 []) i (c.o 0))) 1 (it (hs.getD 1 []) j (c.o 1))) 2 (it (hs.getD 2 []) k (c.o 2)), c.w⟩
theorem Ext.mem {hs : List (List Ln)} {c s : TS} (h : Ext hs c s) : s ∈ exts hs c := by
  obtain ⟨k0, e0⟩ := h.o 0 (by omega)
  obtain ⟨k1, e1⟩ := h.o 1 (by omega)
  obtain ⟨k2, e2⟩ := h.o 2 (by omega)
  obtain ⟨j0, g0, f0⟩ := it_stop (hs.getD 0 []) k0 (c.o 0)
  obtain ⟨j1, g1, f1⟩ := it_stop (hs.getD 1 []) k1 (c.o 1)
  obtain ⟨j2, g2, f2⟩ := it_stop (hs.getD 2 []) k2 (c.o 2)
  refine List.mem_flatMap.2 ⟨j0, List.mem_range.2 (by unfold left_; omega), List.mem_flatMap.2 ⟨j1, List.mem_range.2 (by unfold left_; omega), List.mem_map.2 ⟨j2, List.mem_range.2 (by unfold left_; omega), ?_⟩⟩⟩
  rw [← f0, ← f1, ← f2, ← e0, ← e1, ← e2, ← h.w]
  obtain ⟨so, sw⟩ := s
  simp only [TS.mk.injEq, and_true]
  funext p
  simp only [upd]
  split
  · rename_i e; rw [e]
  · split
    · rename_i e; rw [e]
    · split
      · rename_i e; rw [e]
      · exact (h.r p (by omega)).symm
theorem flatMap_length_le {α β : Type} (l : List α) (f : α → List β) (n : Nat) (h : ∀ x ∈ l, (f x).length ≤ n) : (l.flatMap f).length ≤ l.length * n := by
  induction l with
  | nil => simp
  | cons x r ih =>
    rw [List.flatMap_cons, List.length_append, List.length_cons, Nat.succ_mul]
    have h1 := h x (by simp)
    have h2 := ih fun y hy => h y (by simp [hy])
    omega
theorem exts_length (hs : List (List Ln)) (c : TS) : (exts hs c).length ≤ (left_ (hs.getD 0 []) (c.o 0) + 1) * ((left_ (hs.getD 1 []) (c.o 1) + 1) * (left_ (hs.getD 2 []) (c.o 2) + 1)) := by
  unfold exts
  refine Nat.le_trans (flatMap_length_le _ _ ((left_ (hs.getD 1 []) (c.o 1) + 1) * (left_ (hs.getD 2 []) (c.o 2) + 1)) fun x _ => ?_) (by rw [List.length_range]; exact Nat.le_refl _)
  refine Nat.le_trans (flatMap_length_le _ _ (left_ (hs.getD 2 []) (c.o 2) + 1) fun y _ => ?_) (by rw [List.length_range]; exact Nat.le_refl _)
  simp

/-- What comes of a state: a line that asks a word, or what waits comes; all lines ahead of it that ask none are done first. -/
def ok1 (ls : List Ln) (o : Own) : Bool :=
  match ls[o.n]? with
  | none => false
  | some l => decide (l.k = 1) || (decide (l.k = 3) && o.q.isEmpty)
def mv1 (hs : List (List Ln)) (c : TS) (p : Nat) : TS := tstp hs ⟨upd c.o p (sat (hs.getD p []) (c.o p)), c.w⟩ p
def mv2 (hs : List (List Ln)) (c : TS) (p : Nat) : TS := tcom ⟨upd c.o p (seekQ (hs.getD p []) (hs.getD p []).length (c.o p)), c.w⟩ p
def moves (hs : List (List Ln)) (c : TS) (p : Nat) : List TS :=
  (if ok1 (hs.getD p []) (sat (hs.getD p []) (c.o p)) = true then [mv1 hs c p] else []) ++ (if (seekQ (hs.getD p []) (hs.getD p []).length (c.o p)).q ≠ [] then [mv2 hs c p] else [])
theorem ok1_some {ls : List Ln} {o : Own} (h : ok1 ls o = true) : ∃ l, ls[o.n]? = some l ∧ (l.k = 1 ∨ (l.k = 3 ∧ o.q = [])) := by
  unfold ok1 at h
  split at h
  · cases h
  · rename_i l hl
    exact ⟨l, hl, by simpa using h⟩
theorem mv1_left {hs : List (List Ln)} {c : TS} {p : Nat} (h : ok1 (hs.getD p []) (sat (hs.getD p []) (c.o p)) = true) : left_ (hs.getD p []) ((mv1 hs c p).o p) + 1 ≤ left_ (hs.getD p []) (c.o p) ∧ ∀ q, q ≠ p → (mv1 hs c p).o q = c.o q := by
  obtain ⟨l, hl, hk⟩ := ok1_some h
  have hlt := lt_of_line hl
  have hs1 := it_left (hs.getD p []) (hs.getD p []).length (c.o p)
  refine ⟨?_, fun q hq => by simp [mv1, tstp, upd, hq]⟩
  refine Nat.le_trans ?_ hs1
  show left_ _ (upd _ p _ p) + 1 ≤ left_ _ (sat _ _)
  rw [upd_same]
  simp only [upd_same]
  unfold tsoLn
  rw [hl]
  dsimp only
  rcases hk with hk | ⟨hk, hq⟩
  · rw [if_pos hk]
    simp only [left_, setReg_n, setReg_q, Own.at_]
    omega
  · rw [if_neg (by omega), if_pos hk, if_pos hq]
    simp only [left_, setReg_n, setReg_q, Own.at_]
    omega
theorem mv2_left {hs : List (List Ln)} {c : TS} {p : Nat} (h : (seekQ (hs.getD p []) (hs.getD p []).length (c.o p)).q ≠ []) : left_ (hs.getD p []) ((mv2 hs c p).o p) + 1 ≤ left_ (hs.getD p []) (c.o p) ∧ ∀ q, q ≠ p → (mv2 hs c p).o q = c.o q := by
  obtain ⟨m, _, e⟩ := seekQ_it (hs.getD p []) (hs.getD p []).length (c.o p)
  have hs1 := it_left (hs.getD p []) m (c.o p)
  rw [← e] at hs1
  unfold mv2
  generalize seekQ (hs.getD p []) (hs.getD p []).length (c.o p) = x at h hs1
  obtain ⟨e, r, hr⟩ := List.exists_cons_of_ne_nil h
  have h1 : (tcom ⟨upd c.o p x, c.w⟩ p) = ⟨upd c.o p x.pop, upd c.w e.1 e.2⟩ := by
    unfold tcom
    simp only [upd_same, hr, upd_upd]
  rw [h1]
  refine ⟨?_, fun q hq => by simp [upd, hq]⟩
  simp only [upd_same]
  refine Nat.le_trans ?_ hs1
  simp [left_, Own.pop, hr]
  omega
theorem moves_length (hs : List (List Ln)) (c : TS) (p : Nat) : (moves hs c p).length ≤ min 2 (left_ (hs.getD p []) (c.o p)) := by
  unfold moves
  split
  · rename_i h1
    have hl1 := (mv1_left h1).1
    split
    · rename_i h2
      obtain ⟨l, hl, _⟩ := ok1_some h1
      have hlt := lt_of_line hl
      obtain ⟨m, hm, e⟩ := seekQ_it (hs.getD p []) (hs.getD p []).length (c.o p)
      have hs1 := it_left (hs.getD p []) (hs.getD p []).length (c.o p)
      obtain ⟨r, hr⟩ := it_q (hs.getD p []) ((hs.getD p []).length - m) (it (hs.getD p []) m (c.o p))
      rw [← it_add, Nat.add_sub_cancel' hm] at hr
      have h3 : 1 ≤ (sat (hs.getD p []) (c.o p)).q.length := by
        rw [sat, hr, List.length_append, ← e]
        have := List.length_pos_iff.2 h2
        omega
      have h4 : 2 ≤ left_ (hs.getD p []) (sat (hs.getD p []) (c.o p)) := by unfold left_; omega
      have h5 : left_ (hs.getD p []) (sat (hs.getD p []) (c.o p)) ≤ left_ (hs.getD p []) (c.o p) := hs1
      simp only [List.length_append, List.length_cons, List.length_nil]; omega
    · simp only [List.length_append, List.length_cons, List.length_nil]; omega
  · split
    · rename_i h2
      have := (mv2_left h2).1
      simp only [List.length_append, List.length_cons, List.length_nil]; omega
    · simp
def tree (hs : List (List Ln)) : Nat → TS → List TS
  | 0, c => exts hs c
  | f + 1, c => exts hs c ++ ((moves hs c 0).flatMap (tree hs f) ++ ((moves hs c 1).flatMap (tree hs f) ++ (moves hs c 2).flatMap (tree hs f)))
/-- As many at most, by what is left to do: a table. -/
def mostTab : List Nat := [
  1, 3, 9, 22, 49, 104, 3, 10, 35, 100, 259, 634, 9, 35, 149, 510, 1553, 4392, 22, 100, 510, 2056, 7238, 23284, 49, 259, 1553, 7238, 28977, 104552, 104, 634, 4392, 23284, 104552, 418244,
  3, 10, 35, 100, 259, 634, 10, 38, 158, 532, 1602, 4496, 35, 158, 799, 3196, 11179, 35778, 100, 532, 3196, 14872, 59380, 213648, 259, 1602, 11179, 59380, 266547, 1065002, 634, 4496, 35778, 213648, 1065002, 4678324,
  9, 35, 149, 510, 1553, 4392, 35, 158, 799, 3196, 11179, 35778, 149, 799, 4821, 22462, 89685, 322536, 510, 3196, 22462, 119640, 537470, 2147380, 1553, 11179, 89685, 537470, 2683049, 11790952, 4392, 35778, 322536, 2147380, 11790952, 56520564,
  22, 100, 510, 2056, 7238, 23284, 100, 532, 3196, 14872, 59380, 213648, 510, 3196, 22462, 119640, 537470, 2147380, 2056, 14872, 119640, 717904, 3585768, 15761152, 7238, 59380, 537470, 3585768, 19709270, 94522868, 23284, 213648, 2147380, 15761152, 94522868, 491132744,
  49, 259, 1553, 7238, 28977, 104552, 259, 1602, 11179, 59380, 266547, 1065002, 1553, 11179, 89685, 537470, 2683049, 11790952, 7238, 59380, 537470, 3585768, 19709270, 94522868, 28977, 266547, 2683049, 19709270, 118255745, 614603112, 104552, 1065002, 11790952, 94522868, 614603112, 3440678116,
  104, 634, 4392, 23284, 104552, 418244, 634, 4496, 35778, 213648, 1065002, 4678324, 4392, 35778, 322536, 2147380, 11790952, 56520564, 23284, 213648, 2147380, 15761152, 94522868, 491132744, 104552, 1065002, 11790952, 94522868, 614603112, 3440678116, 418244, 4678324, 56520564, 491132744, 3440678116, 20644068912]
def most (a b c : Nat) : Nat := mostTab.getD (a * 36 + b * 6 + c) 0
theorem most_ok : ∀ a, a < 6 → ∀ b, b < 6 → ∀ c, c < 6 → (a + 1) * ((b + 1) * (c + 1)) + (min 2 a * most (a - 1) b c + (min 2 b * most a (b - 1) c + min 2 c * most a b (c - 1))) ≤ most a b c := by decide +kernel
theorem tree_length (hs : List (List Ln)) : ∀ (f : Nat) (c : TS) (x y z : Nat), x ≤ 5 → y ≤ 5 → z ≤ 5 → left_ (hs.getD 0 []) (c.o 0) ≤ x → left_ (hs.getD 1 []) (c.o 1) ≤ y → left_ (hs.getD 2 []) (c.o 2) ≤ z → (tree hs f c).length ≤ most x y z := by
  intro f
  induction f with
  | zero =>
    intro c x y z hx hy hz h0 h1 h2
    have hm := most_ok x (by omega) y (by omega) z (by omega)
    have he := exts_length hs c
    have hp : (left_ (hs.getD 0 []) (c.o 0) + 1) * ((left_ (hs.getD 1 []) (c.o 1) + 1) * (left_ (hs.getD 2 []) (c.o 2) + 1)) ≤ (x + 1) * ((y + 1) * (z + 1)) := Nat.mul_le_mul (by omega) (Nat.mul_le_mul (by omega) (by omega))
    rw [tree]
    omega
  | succ f ih =>
    intro c x y z hx hy hz h0 h1 h2
    have hm := most_ok x (by omega) y (by omega) z (by omega)
    have he := exts_length hs c
    have hp : (left_ (hs.getD 0 []) (c.o 0) + 1) * ((left_ (hs.getD 1 []) (c.o 1) + 1) * (left_ (hs.getD 2 []) (c.o 2) + 1)) ≤ (x + 1) * ((y + 1) * (z + 1)) := Nat.mul_le_mul (by omega) (Nat.mul_le_mul (by omega) (by omega))
    have mem : ∀ p s, s ∈ moves hs c p → left_ (hs.getD p []) (s.o p) + 1 ≤ left_ (hs.getD p []) (c.o p) ∧ ∀ q, q ≠ p → s.o q = c.o q := by
      intro p s hsm
      unfold moves at hsm
      rcases List.mem_append.1 hsm with h | h
      · split at h
        · rename_i hk
          simp at h; rw [h]; exact mv1_left hk
        · simp at h
      · split at h
        · rename_i hk
          simp at h; rw [h]; exact mv2_left hk
        · simp at h
    have k0 : ((moves hs c 0).flatMap (tree hs f)).length ≤ min 2 x * most (x - 1) y z := by
      refine Nat.le_trans (flatMap_length_le _ _ (most (x - 1) y z) fun s hs' => ?_) (Nat.mul_le_mul_right _ (Nat.le_trans (moves_length hs c 0) (by omega)))
      obtain ⟨e1, e2⟩ := mem 0 s hs'
      exact ih s _ _ _ (by omega) hy hz (by omega) (by rw [e2 1 (by omega)]; exact h1) (by rw [e2 2 (by omega)]; exact h2)
    have k1 : ((moves hs c 1).flatMap (tree hs f)).length ≤ min 2 y * most x (y - 1) z := by
      refine Nat.le_trans (flatMap_length_le _ _ (most x (y - 1) z) fun s hs' => ?_) (Nat.mul_le_mul_right _ (Nat.le_trans (moves_length hs c 1) (by omega)))
      obtain ⟨e1, e2⟩ := mem 1 s hs'
      exact ih s _ _ _ hx (by omega) hz (by rw [e2 0 (by omega)]; exact h0) (by omega) (by rw [e2 2 (by omega)]; exact h2)
    have k2 : ((moves hs c 2).flatMap (tree hs f)).length ≤ min 2 z * most x y (z - 1) := by
      refine Nat.le_trans (flatMap_length_le _ _ (most x y (z - 1)) fun s hs' => ?_) (Nat.mul_le_mul_right _ (Nat.le_trans (moves_length hs c 2) (by omega)))
      obtain ⟨e1, e2⟩ := mem 2 s hs'
      exact ih s _ _ _ hx hy (by omega) (by rw [e2 0 (by omega)]; exact h0) (by rw [e2 1 (by omega)]; exact h1) (by omega)
    rw [tree]
    simp only [List.length_append]
    omega

/-- Whatever a program comes to comes of such moves. -/
inductive CR (hs : List (List Ln)) : Nat → TS → Prop
  | start : CR hs 0 ts0
  | move {n : Nat} {c c' : TS} {p : Nat} : CR hs n c → p < 3 → c' ∈ moves hs c p → CR hs (n + 1) c'
theorem moves_mem {hs : List (List Ln)} {c s : TS} {p : Nat} (hsm : s ∈ moves hs c p) : left_ (hs.getD p []) (s.o p) + 1 ≤ left_ (hs.getD p []) (c.o p) ∧ ∀ q, q ≠ p → s.o q = c.o q := by
  unfold moves at hsm
  rcases List.mem_append.1 hsm with h | h
  · split at h
    · rename_i hk
      simp at h; rw [h]; exact mv1_left hk
    · simp at h
  · split at h
    · rename_i hk
      simp at h; rw [h]; exact mv2_left hk
    · simp at h
theorem Ext.refl (hs : List (List Ln)) (c : TS) : Ext hs c c := ⟨rfl, fun _ _ => ⟨0, rfl⟩, fun _ _ => rfl⟩
theorem tsoLn_loc {ls : List Ln} {o : Own} {w : Nat → Int} : (∃ l, ls[o.n]? = some l ∧ (l.k = 1 ∨ (l.k = 3 ∧ o.q = []))) ∨ tsoLn ls o w = (loc ls o, w) := by
  unfold tsoLn loc
  cases h : ls[o.n]? with
  | none => exact Or.inr rfl
  | some l =>
    dsimp only
    by_cases h1 : l.k = 1
    · exact Or.inl ⟨l, rfl, Or.inl h1⟩
    · by_cases h3 : l.k = 3
      · by_cases hq : o.q = []
        · exact Or.inl ⟨l, rfl, Or.inr ⟨h3, hq⟩⟩
        · right; rw [if_neg h1, if_pos h3, if_neg hq, if_pos (Or.inr h3)]
      · right; rw [if_neg h1, if_neg h3, if_neg (by omega)]
theorem ext_step {hs : List (List Ln)} {n : Nat} {c s : TS} {p : Nat} (hc : CR hs n c) (h : Ext hs c s) (hp : p < 3) : ∃ m c', CR hs m c' ∧ Ext hs c' (tstp hs s p) := by
  obtain ⟨k, hk⟩ := h.o p hp
  rcases tsoLn_loc (ls := hs.getD p []) (o := s.o p) (w := s.w) with ⟨l, hl, hl2⟩ | e
  · have hfix : loc (hs.getD p []) (s.o p) = s.o p := by
      unfold loc
      rw [hl]
      dsimp only
      rw [if_pos (by omega)]
    have hsat : sat (hs.getD p []) (c.o p) = s.o p := by
      rw [hk] at hfix ⊢
      exact sat_of hfix
    have hok : ok1 (hs.getD p []) (sat (hs.getD p []) (c.o p)) = true := by
      unfold ok1
      rw [hsat, hl]
      simpa using hl2
    refine ⟨n + 1, mv1 hs c p, CR.move hc hp (by unfold moves; rw [if_pos hok]; simp), ?_⟩
    have e1 : mv1 hs c p = ⟨upd c.o p (tsoLn (hs.getD p []) (s.o p) s.w).1, (tsoLn (hs.getD p []) (s.o p) s.w).2⟩ := by
      simp only [mv1, tstp, upd_same, upd_upd, hsat, ← h.w]
    rw [e1]
    refine ⟨rfl, fun q hq => ?_, fun q hq => ?_⟩
    · by_cases e : q = p
      · subst e
        exact ⟨0, by simp [tstp, upd_same, it]⟩
      · obtain ⟨j, hj⟩ := h.o q hq
        exact ⟨j, by simp only [tstp, upd_other e]; exact hj⟩
    · simp only [tstp, upd_other (show q ≠ p by omega)]
      exact h.r q hq
  · refine ⟨n, c, hc, ?_⟩
    have e1 : tstp hs s p = ⟨upd s.o p (loc (hs.getD p []) (s.o p)), s.w⟩ := by simp only [tstp, e]
    rw [e1]
    refine ⟨h.w, fun q hq => ?_, fun q hq => ?_⟩
    · by_cases e : q = p
      · subst e
        exact ⟨k + 1, by rw [it_succ, ← hk]; simp [upd_same]⟩
      · obtain ⟨j, hj⟩ := h.o q hq
        exact ⟨j, by simp only [upd_other e]; exact hj⟩
    · simp only [upd_other (show q ≠ p by omega)]
      exact h.r q hq
theorem ext_come {hs : List (List Ln)} {n : Nat} {c s : TS} {p : Nat} (hc : CR hs n c) (h : Ext hs c s) (hp : p < 3) : ∃ m c', CR hs m c' ∧ Ext hs c' (tcom s p) := by
  obtain ⟨k, hk⟩ := h.o p hp
  cases hq : (s.o p).q with
  | nil =>
    refine ⟨n, c, hc, ?_⟩
    unfold tcom
    rw [hq]
    exact h
  | cons e r =>
    obtain ⟨k', hk', ek⟩ := it_stop (hs.getD p []) k (c.o p)
    have hq' : (it (hs.getD p []) k' (c.o p)).q ≠ [] := by rw [← ek, ← hk, hq]; simp
    obtain ⟨hs1, j, hj⟩ := seekQ_of (hs.getD p []).length k' (by omega) hq'
    refine ⟨n + 1, mv2 hs c p, CR.move hc hp (by unfold moves; rw [if_pos hs1]; simp), ?_⟩
    unfold mv2
    generalize seekQ (hs.getD p []) (hs.getD p []).length (c.o p) = x at hs1 hj
    have hx : s.o p = it (hs.getD p []) j x := by rw [hk, ek, hj]
    obtain ⟨e', r', hr'⟩ := List.exists_cons_of_ne_nil hs1
    obtain ⟨r2, hr2⟩ := it_q (hs.getD p []) j x
    have hee : e = e' := by
      rw [← hx, hq, hr'] at hr2
      injection hr2
    subst hee
    obtain ⟨i, hi⟩ := pop_it (ls := hs.getD p []) j hs1
    have e1 : tcom ⟨upd c.o p x, c.w⟩ p = ⟨upd c.o p x.pop, upd c.w e.1 e.2⟩ := by
      unfold tcom
      simp only [upd_same, hr', upd_upd]
    have e2 : tcom s p = ⟨upd s.o p (s.o p).pop, upd s.w e.1 e.2⟩ := by
      unfold tcom
      simp only [hq]
    rw [e1, e2]
    refine ⟨by simp only [h.w], fun q hq => ?_, fun q hq => ?_⟩
    · by_cases e : q = p
      · subst e
        exact ⟨i, by simp only [upd_same]; rw [hx]; exact hi⟩
      · obtain ⟨j, hj⟩ := h.o q hq
        exact ⟨j, by simp only [upd_other e]; exact hj⟩
    · simp only [upd_other (show q ≠ p by omega)]
      exact h.r q hq
theorem TReach.canon {hs : List (List Ln)} (h3 : hs.length ≤ 3) {s : TS} (h : TReach hs s) : ∃ n c, CR hs n c ∧ Ext hs c s := by
  induction h with
  | start => exact ⟨0, _, CR.start, Ext.refl _ _⟩
  | step _ hp ih =>
    obtain ⟨n, c, hc, he⟩ := ih
    exact ext_step hc he (by omega)
  | come _ hp ih =>
    obtain ⟨n, c, hc, he⟩ := ih
    exact ext_come hc he (by omega)
theorem getD_len {hs : List (List Ln)} (h5 : ∀ ls ∈ hs, ls.length ≤ 5) (p : Nat) : (hs.getD p []).length ≤ 5 := by
  rw [List.getD_eq_getElem?_getD]
  cases e : hs[p]? with
  | none => simp
  | some l => exact h5 l (List.mem_of_getElem? e)
def lefts (hs : List (List Ln)) (c : TS) : Nat := left_ (hs.getD 0 []) (c.o 0) + left_ (hs.getD 1 []) (c.o 1) + left_ (hs.getD 2 []) (c.o 2)
theorem CR.lefts {hs : List (List Ln)} (h5 : ∀ ls ∈ hs, ls.length ≤ 5) {n : Nat} {c : TS} (h : CR hs n c) : lefts hs c + n ≤ 15 := by
  induction h with
  | start =>
    have h0 := getD_len h5 0
    have h1 := getD_len h5 1
    have h2 := getD_len h5 2
    simp only [Go.Proofs.YthpnnmkpbkbanaaDoor.lefts, left_, ts0, own0, List.length_nil]
    omega
  | move _ hp hm ih =>
    rename_i n c c' p _
    obtain ⟨e1, e2⟩ := moves_mem hm
    have hp3 : p = 0 ∨ p = 1 ∨ p = 2 := by omega
    unfold Go.Proofs.YthpnnmkpbkbanaaDoor.lefts at ih ⊢
    rcases hp3 with rfl | rfl | rfl
    · rw [e2 1 (by omega), e2 2 (by omega)]; omega
    · rw [e2 0 (by omega), e2 2 (by omega)]; omega
    · rw [e2 0 (by omega), e2 1 (by omega)]; omega
theorem exts_tree (hs : List (List Ln)) (f : Nat) (c : TS) : ∀ s, s ∈ exts hs c → s ∈ tree hs f c := by
  intro s h
  cases f with
  | zero => exact h
  | succ f => exact List.mem_append_left _ h
theorem tree_move {hs : List (List Ln)} {f : Nat} {c c' s : TS} {p : Nat} (hp : p < 3) (hm : c' ∈ moves hs c p) (h : s ∈ tree hs f c') : s ∈ tree hs (f + 1) c := by
  have hp3 : p = 0 ∨ p = 1 ∨ p = 2 := by omega
  refine List.mem_append_right _ ?_
  have h1 : s ∈ (moves hs c p).flatMap (tree hs f) := List.mem_flatMap.2 ⟨c', hm, h⟩
  rcases hp3 with rfl | rfl | rfl
  · exact List.mem_append_left _ h1
  · exact List.mem_append_right _ (List.mem_append_left _ h1)
  · exact List.mem_append_right _ (List.mem_append_right _ h1)
theorem CR.tree {hs : List (List Ln)} {n : Nat} {c : TS} (h : CR hs n c) : ∀ f s, s ∈ tree hs f c → s ∈ tree hs (f + n) ts0 := by
  induction h with
  | start => intro f s h; exact h
  | move _ hp hm ih =>
    intro f s h
    rename_i m _ _ _ _
    have := ih (f + 1) s (tree_move hp hm h)
    rwa [show f + 1 + m = f + (m + 1) by omega] at this
theorem tree_fuel {hs : List (List Ln)} : ∀ (f g : Nat) (c s : TS), f ≤ g → s ∈ tree hs f c → s ∈ tree hs g c := by
  intro f
  induction f with
  | zero => intro g c s _ h; exact exts_tree hs g c s h
  | succ f ih =>
    intro g c s hg h
    obtain ⟨g', rfl⟩ : ∃ g', g = g' + 1 := ⟨g - 1, by omega⟩
    have mono : ∀ p, s ∈ (moves hs c p).flatMap (Go.Proofs.YthpnnmkpbkbanaaDoor.tree hs f) → s ∈ (moves hs c p).flatMap (Go.Proofs.YthpnnmkpbkbanaaDoor.tree hs g') := by
      intro p h
      obtain ⟨c', h1, h2⟩ := List.mem_flatMap.1 h
      exact List.mem_flatMap.2 ⟨c', h1, ih g' c' s (by omega) h2⟩
    rcases List.mem_append.1 h with h | h
    · exact List.mem_append_left _ h
    · refine List.mem_append_right _ ?_
      rcases List.mem_append.1 h with h | h
      · exact List.mem_append_left _ (mono 0 h)
      · refine List.mem_append_right _ ?_
        rcases List.mem_append.1 h with h | h
        · exact List.mem_append_left _ (mono 1 h)
        · exact List.mem_append_right _ (mono 2 h)
/-- All that a program may come to: no more than this. -/
theorem few_states {hs : List (List Ln)} (h3 : hs.length ≤ 3) (h5 : ∀ ls ∈ hs, ls.length ≤ 5) : ∃ L : List TS, L.length ≤ 20644068912 ∧ ∀ s, TReach hs s → s ∈ L := by
  refine ⟨tree hs 15 ts0, ?_, fun s h => ?_⟩
  · have h0 := getD_len h5 0
    have h1 := getD_len h5 1
    have h2 := getD_len h5 2
    exact tree_length hs 15 ts0 5 5 5 (by omega) (by omega) (by omega) (by simpa [left_, ts0, own0] using h0) (by simpa [left_, ts0, own0] using h1) (by simpa [left_, ts0, own0] using h2)
  · obtain ⟨n, c, hc, he⟩ := h.canon h3
    have hn := hc.lefts h5
    exact tree_fuel n 15 ts0 s (by omega) (by have := hc.tree 0 s (exts_tree hs 0 c s he.mem); rwa [Nat.zero_add] at this)
end Go.Proofs.YthpnnmkpbkbanaaDoor
