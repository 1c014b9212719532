/-
  Chapter 12 as plain mathematics: names, of which there are few. It imports nothing of the translation.
-/
namespace Go.Proofs.YthainkgpafbjcaaDoor

def sup' {α : Type} (f : Nat → α) (i : Nat) (x : α) : Nat → α := fun j => if j = i then x else f j
theorem sup_same {α : Type} (f : Nat → α) (i : Nat) (x : α) : sup' f i x i = x := by simp [sup']
theorem sup_other {α : Type} {f : Nat → α} {i j : Nat} {x : α} (h : j ≠ i) : sup' f i x j = f j := by simp [sup', h]
/-- One word of a place is another one. -/
def pup (f : Nat → Nat → Nat) (i j x : Nat) : Nat → Nat → Nat := fun a b => if a = i ∧ b = j then x else f a b
theorem pup_same (f : Nat → Nat → Nat) (i j x : Nat) : pup f i j x i j = x := by simp [pup]
theorem pup_other {f : Nat → Nat → Nat} {i j a b x : Nat} (h : ¬ (a = i ∧ b = j)) : pup f i j x a b = f a b := by unfold pup; rw [if_neg h]
/-- How many of the first so many are so. -/
def scnt (P : Nat → Prop) [DecidablePred P] : Nat → Nat
  | 0 => 0
  | k + 1 => scnt P k + if P k then 1 else 0
/-- So many different ones that are so. -/
theorem scnt_ge (P : Nat → Prop) [DecidablePred P] (n : Nat) : ∀ (m : Nat) (q : Nat → Nat), (∀ i, i < m → q i < n ∧ P (q i)) → (∀ i j, i < m → j < m → q i = q j → i = j) → m ≤ scnt P n := by
  induction n with
  | zero =>
    intro m q h1 _
    rcases Nat.eq_zero_or_pos m with h | h
    · omega
    · have := (h1 0 h).1; omega
  | succ n ih =>
    intro m q h1 h2
    unfold scnt
    by_cases hP : P n
    · rw [if_pos hP]
      cases m with
      | zero => omega
      | succ m =>
        have := ih m (fun j => if q j = n then q m else q j) (fun i hi => by
          split
          · rename_i e
            have h3 := h1 m (by omega)
            have h4 : q m ≠ n := fun e2 => by have := h2 i m (by omega) (by omega) (by omega); omega
            exact ⟨by omega, h3.2⟩
          · have := h1 i (by omega); exact ⟨by omega, this.2⟩) (fun i j hi hj e => by
          split at e
          · split at e
            · exact h2 i j (by omega) (by omega) (by omega)
            · have := h2 m j (by omega) (by omega) e; omega
          · split at e
            · have := h2 i m (by omega) (by omega) e; omega
            · exact h2 i j (by omega) (by omega) e)
        omega
    · rw [if_neg hP]
      refine ih m q (fun i hi => ?_) h2
      have h3 := h1 i hi
      have h4 : q i ≠ n := fun e => hP (e ▸ h3.2)
      exact ⟨by omega, h3.2⟩

/-- Of a hand: its line, row, column. -/
structure SH where
  a : Nat
  r : Nat
  c : Nat
/-- All hands; X and Y of each place. -/
structure SPS where
  s : Nat → SH
  X : Nat → Nat → Nat
  Y : Nat → Nat → Nat
def spnew : SPS := ⟨fun _ => ⟨1, 0, 0⟩, fun _ _ => 0, fun _ _ => 0⟩
def spone (v : SPS) (p : Nat) : SH :=
  if (v.s p).a = 1 then ⟨2, (v.s p).r, (v.s p).c⟩
  else if (v.s p).a = 2 then (if v.Y (v.s p).r (v.s p).c = 1 then ⟨1, (v.s p).r, (v.s p).c + 1⟩ else ⟨3, (v.s p).r, (v.s p).c⟩)
  else if (v.s p).a = 3 then ⟨4, (v.s p).r, (v.s p).c⟩
  else if (v.s p).a = 4 then (if v.X (v.s p).r (v.s p).c = p + 1 then ⟨5, (v.s p).r, (v.s p).c⟩ else ⟨1, (v.s p).r + 1, (v.s p).c⟩)
  else v.s p
def spX (v : SPS) (p : Nat) : Nat → Nat → Nat := if (v.s p).a = 1 then pup v.X (v.s p).r (v.s p).c (p + 1) else v.X
def spY (v : SPS) (p : Nat) : Nat → Nat → Nat := if (v.s p).a = 3 then pup v.Y (v.s p).r (v.s p).c 1 else v.Y
def spstep (v : SPS) (p : Nat) : SPS := ⟨sup' v.s p (spone v p), spX v p, spY v p⟩

/-- A state, at which row a hand was when it had gone so far, and how many lines it did. -/
structure SG where
  v : SPS
  ro : Nat → Nat → Nat
  d : Nat → Nat
def sgnew : SG := ⟨spnew, fun _ _ => 0, fun _ => 0⟩
/-- How far a hand has gone. -/
def dep (g : SG) (p : Nat) : Nat := (g.v.s p).r + (g.v.s p).c
/-- It stands at a place; it went down from it; it went on from it. -/
def spAt (g : SG) (p i j : Nat) : Prop := (g.v.s p).r = i ∧ (g.v.s p).c = j
def spDown (g : SG) (p i j : Nat) : Prop := i + j < dep g p ∧ g.ro p (i + j) = i ∧ g.ro p (i + j + 1) = i + 1
def spRight (g : SG) (p i j : Nat) : Prop := i + j < dep g p ∧ g.ro p (i + j) = i ∧ g.ro p (i + j + 1) = i
/-- It came to a place. -/
def spEnt (g : SG) (p i j : Nat) : Prop := i + j ≤ dep g p ∧ g.ro p (i + j) = i
def sgro (g : SG) (p : Nat) : Nat → Nat → Nat := fun q t => if q = p ∧ t = dep g p + 1 ∧ (spone g.v p).r + (spone g.v p).c = dep g p + 1 then (spone g.v p).r else g.ro q t
def sgstep (g : SG) (p : Nat) : SG := ⟨spstep g.v p, sgro g p, sup' g.d p (g.d p + 1)⟩
structure SOk (n : Nat) (g : SG) : Prop where
  rng : ∀ p, p < n → 1 ≤ (g.v.s p).a ∧ (g.v.s p).a ≤ 5
  ro0 : ∀ p, p < n → g.ro p 0 = 0
  rol : ∀ p, p < n → g.ro p (dep g p) = (g.v.s p).r
  rom : ∀ p t, p < n → t < dep g p → g.ro p (t + 1) = g.ro p t ∨ g.ro p (t + 1) = g.ro p t + 1
  x1 : ∀ i j q, g.v.X i j = q + 1 → q < n ∧ (spAt g q i j ∧ 2 ≤ (g.v.s q).a ∨ spRight g q i j)
  x2 : ∀ p i j, p < n → spDown g p i j ∨ spAt g p i j ∧ 2 ≤ (g.v.s p).a → g.v.X i j ≠ 0
  y0 : ∀ i j, g.v.Y i j ≤ 1
  y1 : ∀ p i j, p < n → spRight g p i j → g.v.Y i j = 1
  y2 : ∀ i j, g.v.Y i j = 1 → ∃ q, q < n ∧ (spAt g q i j ∧ 4 ≤ (g.v.s q).a ∨ spDown g q i j)
  five : ∀ p, p < n → (g.v.s p).a = 5 → g.v.Y (g.v.s p).r (g.v.s p).c = 1 ∧ ∀ q, q < n → q ≠ p → spAt g q (g.v.s p).r (g.v.s p).c → (g.v.s q).a ≠ 5 ∧ ((g.v.s q).a = 3 ∨ (g.v.s q).a = 4 → g.v.X (g.v.s p).r (g.v.s p).c ≠ q + 1)
  four : ∀ p, p < n → (g.v.s p).a = 4 → g.v.Y (g.v.s p).r (g.v.s p).c = 1
  did : ∀ p, p < n → (g.v.s p).a ≠ 5 → g.d p ≤ 4 * dep g p + ((g.v.s p).a - 1)
  act : ∀ p, p < n → 2 ≤ (g.v.s p).a ∨ 0 < dep g p → 0 < g.d p
theorem sgnew_ok (n : Nat) : SOk n sgnew := by
  refine ⟨fun p _ => ⟨Nat.le_refl _, by show 1 ≤ 5; omega⟩, fun p _ => rfl, fun p _ => rfl, fun p t _ h => ?_, fun i j q h => ?_, fun p i j _ h => ?_, fun i j => Nat.zero_le _, fun p i j _ h => ?_, fun i j h => ?_, fun p _ h => ?_, fun p _ h => ?_, fun p _ _ => Nat.zero_le _, fun p _ h => ?_⟩
  · have : t < 0 := h
    omega
  · have : (0 : Nat) = q + 1 := h
    omega
  · rcases h with h | h
    · have : i + j < 0 := h.1
      omega
    · have : 2 ≤ 1 := h.2
      omega
  · have : i + j < 0 := h.1
    omega
  · have : (0 : Nat) = 1 := h
    omega
  · have : (1 : Nat) = 5 := h
    omega
  · have : (1 : Nat) = 4 := h
    omega
  · rcases h with h | h
    · have : 2 ≤ 1 := h
      omega
    · have : 0 < 0 := h
      omega
end Go.Proofs.YthainkgpafbjcaaDoor
