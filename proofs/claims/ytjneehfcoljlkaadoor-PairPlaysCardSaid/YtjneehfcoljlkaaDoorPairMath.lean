/-
  Chapter 4 as plain mathematics: a lock for two as a row (F0, F1, T, and where hand 0 and hand 1 stand); all states that may be. It imports nothing of the translation.
-/
import Derived.Test.YtjneehfcoljlkaaDoorClose
namespace Go.Proofs.YtjneehfcoljlkaaDoor

/-- Hand p, the other one q, does its line. -/
def pdo (s : List Int) (p q : Nat) : List Int :=
  let a := s.getD (3 + p) 0
  if a = 1 then (s.set p 1).set (3 + p) 2
  else if a = 2 then (s.set 2 q).set (3 + p) 3
  else if a = 3 then s.set (3 + p) (if s.getD q 0 = 0 then 5 else 4)
  else if a = 4 then s.set (3 + p) (if s.getD 2 0 = q then 3 else 5)
  else if a = 5 then s.set (3 + p) 6
  else (s.set p 0).set (3 + p) 1
/-- What any number does: none, if it is no hand. -/
def pstp (s : List Int) (p : Int) : List Int := if p = 0 then pdo s 0 1 else if p = 1 then pdo s 1 0 else s
def pnew : List Int := [0, 0, 0, 1, 1]
def prun (s : List Int) (script : List Int) : List Int := script.foldl pstp s

def pall : List (List Int) := closeL (fun s => [pdo s 0 1, pdo s 1 0]) 400 [pnew] [pnew]

theorem pall_new : pnew ∈ pall := by decide +kernel
theorem pall_do : ∀ s ∈ pall, pdo s 0 1 ∈ pall ∧ pdo s 1 0 ∈ pall := by decide +kernel
theorem pall_stp {s : List Int} (h : s ∈ pall) (p : Int) : pstp s p ∈ pall := by
  unfold pstp
  split
  · exact (pall_do s h).1
  · split
    · exact (pall_do s h).2
    · exact h
theorem pall_run {s : List Int} (h : s ∈ pall) (l : List Int) : prun s l ∈ pall := by
  unfold prun
  induction l generalizing s with
  | nil => exact h
  | cons x r ih => exact ih (pall_stp h x)
theorem prun_snoc (s l : List Int) (x : Int) : prun s (l ++ [x]) = pstp (prun s l) x := by simp [prun]

def pform (s : List Int) : Bool := decide (s.length = 5) && decide (0 ≤ s.getD 0 0 ∧ s.getD 0 0 ≤ 1) && decide (0 ≤ s.getD 1 0 ∧ s.getD 1 0 ≤ 1) && decide (0 ≤ s.getD 2 0 ∧ s.getD 2 0 ≤ 1) && decide (1 ≤ s.getD 3 0 ∧ s.getD 3 0 ≤ 6) && decide (1 ≤ s.getD 4 0 ∧ s.getD 4 0 ≤ 6)
theorem pall_form : ∀ s ∈ pall, pform s = true := by decide +kernel
theorem pall_parts {s : List Int} (h : s ∈ pall) : ∃ f0 f1 t a0 a1, s = [f0, f1, t, a0, a1] ∧ 0 ≤ f0 ∧ f0 ≤ 1 ∧ 0 ≤ f1 ∧ f1 ≤ 1 ∧ 0 ≤ t ∧ t ≤ 1 ∧ 1 ≤ a0 ∧ a0 ≤ 6 ∧ 1 ≤ a1 ∧ a1 ≤ 6 := by
  have hf := pall_form s h
  match s with
  | [] => simp [pform] at hf
  | [_] => simp [pform] at hf
  | [_, _] => simp [pform] at hf
  | [_, _, _] => simp [pform] at hf
  | [_, _, _, _] => simp [pform] at hf
  | [f0, f1, t, a0, a1] =>
    simp [pform] at hf
    exact ⟨f0, f1, t, a0, a1, rfl, by omega, by omega, by omega, by omega, by omega, by omega, by omega, by omega, by omega, by omega⟩
  | _ :: _ :: _ :: _ :: _ :: _ :: _ => simp [pform] at hf

/-- One at most is in. -/
theorem pall_one : ∀ s ∈ pall, ¬ (s.getD 3 0 = 5 ∧ s.getD 4 0 = 5) := by decide +kernel

/-- Who is alone is in at once. -/
theorem pall_alone : ∀ s ∈ pall, s.getD 3 0 = 1 → s.getD 4 0 = 1 → (pdo (pdo (pdo s 0 1) 0 1) 0 1).getD 3 0 = 5 ∧ (pdo (pdo (pdo s 1 0) 1 0) 1 0).getD 4 0 = 5 := by decide +kernel

/-- A hand does so many lines. -/
def pown (s : List Int) (p : Int) : Nat → List Int
  | 0 => s
  | n + 1 => pstp (pown s p n) p
theorem pown_mem {s : List Int} (h : s ∈ pall) (p : Int) : ∀ n, pown s p n ∈ pall
  | 0 => h
  | n + 1 => pall_stp (pown_mem h p n) p
/-- Both do a line in turn; who was in. -/
def pround (x : List Int × Bool × Bool) : List Int × Bool × Bool :=
  let s1 := pdo x.1 0 1
  let s2 := pdo s1 1 0
  (s2, x.2.1 || decide (s1.getD 3 0 = 5), x.2.2 || decide (s2.getD 4 0 = 5))
def prounds (x : List Int × Bool × Bool) : Nat → List Int × Bool × Bool
  | 0 => x
  | n + 1 => pround (prounds x n)
theorem pall_goes : ∀ s ∈ pall, (prounds (s, false, false) 60).2 = (true, true) := by decide +kernel
theorem prounds_mem {s : List Int} (h : s ∈ pall) (b : Bool × Bool) : ∀ n, (prounds (s, b) n).1 ∈ pall
  | 0 => h
  | n + 1 => (pall_do _ (pall_do _ (prounds_mem h b n)).1).2

/-- Who waits is passed once at most: the state, and how often each one was passed. -/
def pfair (x : List Int × Int × Int) (p : Int) : List Int × Int × Int :=
  if p = 0 then
    let was := x.1.getD 3 0
    let s := pdo x.1 0 1
    let now := s.getD 3 0
    let c0 := if was = 2 ∨ now = 5 then 0 else x.2.1
    let c1 := if was ≠ 5 ∧ now = 5 ∧ 3 ≤ s.getD 4 0 ∧ s.getD 4 0 ≤ 4 then x.2.2 + 1 else x.2.2
    (s, c0, c1)
  else if p = 1 then
    let was := x.1.getD 4 0
    let s := pdo x.1 1 0
    let now := s.getD 4 0
    let c1 := if was = 2 ∨ now = 5 then 0 else x.2.2
    let c0 := if was ≠ 5 ∧ now = 5 ∧ 3 ≤ s.getD 3 0 ∧ s.getD 3 0 ≤ 4 then x.2.1 + 1 else x.2.1
    (s, c0, c1)
  else x
def pfnew : List Int × Int × Int := (pnew, 0, 0)
def pfall : List (List Int × Int × Int) := closeL (fun s => [pfair s 0, pfair s 1]) 800 [pfnew] [pfnew]
theorem pfall_new : pfnew ∈ pfall := by decide +kernel
theorem pfall_do : ∀ s ∈ pfall, pfair s 0 ∈ pfall ∧ pfair s 1 ∈ pfall := by decide +kernel
theorem pfall_ok : ∀ s ∈ pfall, s.1 ∈ pall ∧ 0 ≤ s.2.1 ∧ s.2.1 ≤ 1 ∧ 0 ≤ s.2.2 ∧ s.2.2 ≤ 1 := by decide +kernel
theorem pfall_stp {s : List Int × Int × Int} (h : s ∈ pfall) (p : Int) : pfair s p ∈ pfall := by
  by_cases h0 : p = 0
  · subst h0; exact (pfall_do s h).1
  · by_cases h1 : p = 1
    · subst h1; exact (pfall_do s h).2
    · have : pfair s p = s := by simp [pfair, h0, h1]
      rw [this]; exact h

/-- Alone, hand 1 comes in by three of its steps. -/
theorem pair_fact : pdo (pdo (pdo pnew 1 0) 1 0) 1 0 = [0, 1, 0, 1, 5] ∧ (pdo pnew 1 0) = [0, 1, 0, 1, 2] ∧ (pdo (pdo pnew 1 0) 1 0) = [0, 1, 0, 1, 3] := by decide +kernel
end Go.Proofs.YtjneehfcoljlkaaDoor
