/-
  Chapter 5 as plain mathematics: the oldest lock for two as a row (F0, F1, T, and where hand 0 and hand 1 stand); all states that may be. It imports nothing of the translation.
-/
import Derived.Test.YtjldbgecfongfaaDoorClose
namespace Go.Proofs.YtjldbgecfongfaaDoor

/-- Hand p, the other one q, does its line. -/
def pdo (s : List Int) (p q : Nat) : List Int :=
  let a := s.getD (3 + p) 0
  if a = 1 then (s.set p 1).set (3 + p) 2
  else if a = 2 then s.set (3 + p) (if s.getD q 0 = 0 then 7 else 3)
  else if a = 3 then s.set (3 + p) (if s.getD 2 0 = p then 2 else 4)
  else if a = 4 then (s.set p 0).set (3 + p) 5
  else if a = 5 then s.set (3 + p) (if s.getD 2 0 = p then 6 else 5)
  else if a = 6 then (s.set p 1).set (3 + p) 2
  else if a = 7 then s.set (3 + p) 8
  else if a = 8 then (s.set 2 q).set (3 + p) 9
  else (s.set p 0).set (3 + p) 1
/-- What any number does: none, if it is no hand. -/
def pstp (s : List Int) (p : Int) : List Int := if p = 0 then pdo s 0 1 else if p = 1 then pdo s 1 0 else s
def pnew : List Int := [0, 0, 0, 1, 1]
def prun (s : List Int) (script : List Int) : List Int := script.foldl pstp s

def pall : List (List Int) := closeL (fun s => [pdo s 0 1, pdo s 1 0]) 400 [pnew] [pnew]

theorem pall_new : pnew ∈ pall := by decide +kernel
theorem pall_do : ∀ s ∈ pall, pdo s 0 1 ∈ pall ∧ pdo s 1 0 ∈ pall := by decide +kernel
theorem pall_stp {s : List Int} (h : s ∈ pall) (p : Int) : pstp s p ∈ pall := by
  unfold pstp
  split
  · exact (pall_do s h).1
  · split
    · exact (pall_do s h).2
    · exact h
theorem pall_run {s : List Int} (h : s ∈ pall) (l : List Int) : prun s l ∈ pall := by
  unfold prun
  induction l generalizing s with
  | nil => exact h
  | cons x r ih => exact ih (pall_stp h x)
theorem prun_snoc (s l : List Int) (x : Int) : prun s (l ++ [x]) = pstp (prun s l) x := by simp [prun]

def pform (s : List Int) : Bool := decide (s.length = 5) && decide (0 ≤ s.getD 0 0 ∧ s.getD 0 0 ≤ 1) && decide (0 ≤ s.getD 1 0 ∧ s.getD 1 0 ≤ 1) && decide (0 ≤ s.getD 2 0 ∧ s.getD 2 0 ≤ 1) && decide (1 ≤ s.getD 3 0 ∧ s.getD 3 0 ≤ 9) && decide (1 ≤ s.getD 4 0 ∧ s.getD 4 0 ≤ 9)
theorem pall_form : ∀ s ∈ pall, pform s = true := by decide +kernel
theorem pall_parts {s : List Int} (h : s ∈ pall) : ∃ f0 f1 t a0 a1, s = [f0, f1, t, a0, a1] ∧ 0 ≤ f0 ∧ f0 ≤ 1 ∧ 0 ≤ f1 ∧ f1 ≤ 1 ∧ 0 ≤ t ∧ t ≤ 1 ∧ 1 ≤ a0 ∧ a0 ≤ 9 ∧ 1 ≤ a1 ∧ a1 ≤ 9 := by
  have hf := pall_form s h
  match s with
  | [] => simp [pform] at hf
  | [_] => simp [pform] at hf
  | [_, _] => simp [pform] at hf
  | [_, _, _] => simp [pform] at hf
  | [_, _, _, _] => simp [pform] at hf
  | [f0, f1, t, a0, a1] =>
    simp [pform] at hf
    exact ⟨f0, f1, t, a0, a1, rfl, by omega, by omega, by omega, by omega, by omega, by omega, by omega, by omega, by omega, by omega⟩
  | _ :: _ :: _ :: _ :: _ :: _ :: _ => simp [pform] at hf

/-- One at most is in. -/
theorem pall_one : ∀ s ∈ pall, ¬ (s.getD 3 0 = 7 ∧ s.getD 4 0 = 7) := by decide +kernel

/-- A hand does so many lines. -/
def pown (s : List Int) (p : Int) : Nat → List Int
  | 0 => s
  | n + 1 => pstp (pown s p n) p
theorem pown_mem {s : List Int} (h : s ∈ pall) (p : Int) : ∀ n, pown s p n ∈ pall
  | 0 => h
  | n + 1 => pall_stp (pown_mem h p n) p
/-- Both do a line in turn; who was in. -/
def pround (x : List Int × Bool × Bool) : List Int × Bool × Bool :=
  let s1 := pdo x.1 0 1
  let s2 := pdo s1 1 0
  (s2, x.2.1 || decide (s1.getD 3 0 = 7), x.2.2 || decide (s2.getD 4 0 = 7))
def prounds (x : List Int × Bool × Bool) : Nat → List Int × Bool × Bool
  | 0 => x
  | n + 1 => pround (prounds x n)
theorem pall_goes : ∀ s ∈ pall, (prounds (s, false, false) 60).2 = (true, true) := by decide +kernel
theorem prounds_mem {s : List Int} (h : s ∈ pall) (b : Bool × Bool) : ∀ n, (prounds (s, b) n).1 ∈ pall
  | 0 => h
  | n + 1 => (pall_do _ (pall_do _ (prounds_mem h b n)).1).2

/-- From now on both do a line in turn, the other one first: the state, and how often hand p was passed; none: p is in, passed so often. -/
def dfair (p q : Nat) (x : List Int × Int) : List Int × Int :=
  let was := x.1.getD (3 + q) 0
  let s := pdo x.1 q p
  let c := if was ≠ 7 ∧ s.getD (3 + q) 0 = 7 then x.2 + 1 else x.2
  (pdo s p q, c)
def dfairs (p q : Nat) (x : List Int × Int) : Nat → List Int × Int
  | 0 => x
  | n + 1 => dfair p q (dfairs p q x n)
/-- Within so many turns it is in, passed no more than twice. -/
def dsoon (p q : Nat) : Nat → List Int × Int → Bool
  | 0, _ => false
  | n + 1, x => let y := dfair p q x; if y.1.getD (3 + p) 0 = 7 then decide (y.2 ≤ 2) else dsoon p q n y
theorem pall_fair : ∀ s ∈ pall, (2 ≤ s.getD 3 0 → s.getD 3 0 ≤ 6 → dsoon 0 1 60 (s, 0) = true) ∧ (2 ≤ s.getD 4 0 → s.getD 4 0 ≤ 6 → dsoon 1 0 60 (s, 0) = true) := by decide +kernel

/-- Alone, hand 1 comes in by two of its steps. -/
theorem dek_fact : pdo (pdo pnew 1 0) 1 0 = [0, 1, 0, 1, 7] ∧ (pdo pnew 1 0) = [0, 1, 0, 1, 2] := by decide +kernel
end Go.Proofs.YtjldbgecfongfaaDoor
