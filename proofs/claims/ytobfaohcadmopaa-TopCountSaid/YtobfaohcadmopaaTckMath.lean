/-
  Chapter 8 as plain mathematics: one draws a ticket; the row of those who drew. It imports nothing of the translation.
-/
namespace Go.Proofs.Ytobfaohcadmopaa

def tup {α : Type} (f : Nat → α) (i : Nat) (x : α) : Nat → α := fun j => if j = i then x else f j
theorem tup_same {α : Type} (f : Nat → α) (i : Nat) (x : α) : tup f i x i = x := by simp [tup]
theorem tup_other {α : Type} {f : Nat → α} {i j : Nat} {x : α} (h : j ≠ i) : tup f i x j = f j := by simp [tup, h]
def tcnt (P : Nat → Bool) : Nat → Nat
  | 0 => 0
  | n + 1 => tcnt P n + (if P n then 1 else 0)
theorem tcnt_same {P Q : Nat → Bool} {n : Nat} (h : ∀ i, i < n → P i = Q i) : tcnt P n = tcnt Q n := by
  induction n with
  | zero => rfl
  | succ n ih => unfold tcnt; rw [ih fun i hi => h i (by omega), h n (by omega)]
theorem tcnt_more {P Q : Nat → Bool} {n x : Nat} (hx : x < n) (h : ∀ i, i < n → i ≠ x → P i = Q i) (hp : P x = false) (hq : Q x = true) : tcnt Q n = tcnt P n + 1 := by
  induction n with
  | zero => omega
  | succ n ih =>
    unfold tcnt
    by_cases e : x = n
    · subst e
      rw [tcnt_same (P := Q) (Q := P) (n := x) fun i hi => (h i (by omega) (by omega)).symm, hp, hq]
      simp
    · rw [ih (by omega) fun i hi hne => h i (by omega) hne, h n (by omega) (fun e2 => e e2.symm)]
      omega

/-- Of each hand its line and ticket; Next and Now. -/
structure TS where
  a : Nat → Nat
  t : Nat → Nat
  nx : Nat
  nw : Nat
def tnew : TS := ⟨fun _ => 1, fun _ => 0, 0, 0⟩
def tstep (s : TS) (p : Nat) : TS :=
  if s.a p = 1 then { a := tup s.a p 2, t := tup s.t p s.nx, nx := s.nx + 1, nw := s.nw }
  else if s.a p = 2 then (if s.nw = s.t p then { s with a := tup s.a p 3 } else s)
  else if s.a p = 3 then { s with a := tup s.a p 4 }
  else { s with a := tup s.a p 1, nw := s.t p + 1 }
/-- The row of those who have a ticket. -/
def trow (s : TS) (p : Nat) (Q : List Nat) : List Nat := if s.a p = 1 then Q ++ [p] else if s.a p = 4 then Q.tail else Q
structure TOk (n : Nat) (s : TS) (Q : List Nat) : Prop where
  mem : ∀ p, p < n → (p ∈ Q ↔ s.a p ≠ 1)
  low : ∀ p, p ∈ Q → p < n
  len : s.nx = s.nw + Q.length
  idx : ∀ i p, Q[i]? = some p → s.t p = s.nw + i ∧ (0 < i → s.a p = 2) ∧ 2 ≤ s.a p ∧ s.a p ≤ 4
  cnt : tcnt (fun q => decide (s.a q ≠ 1)) n = Q.length
theorem tnew_ok (n : Nat) : TOk n tnew [] := by
  refine ⟨fun p _ => ⟨fun h => by simp at h, fun h => absurd rfl h⟩, fun p h => by simp at h, rfl, fun i p h => by simp at h, ?_⟩
  induction n with
  | zero => rfl
  | succ n ih => unfold tcnt; rw [ih]; rfl
/-- A hand with a ticket has a place. -/
theorem TOk.place {n : Nat} {s : TS} {Q : List Nat} (h : TOk n s Q) {p : Nat} (hp : p < n) (ha : s.a p ≠ 1) : ∃ i, Q[i]? = some p ∧ i < Q.length ∧ s.t p = s.nw + i ∧ (0 < i → s.a p = 2) ∧ 2 ≤ s.a p ∧ s.a p ≤ 4 := by
  obtain ⟨i, hi, he⟩ := List.mem_iff_getElem.1 ((h.mem p hp).2 ha)
  have h1 : Q[i]? = some p := by rw [List.getElem?_eq_getElem hi, he]
  exact ⟨i, h1, hi, h.idx i p h1⟩
theorem TOk.step {n : Nat} {s : TS} {Q : List Nat} (h : TOk n s Q) {p : Nat} (hp : p < n) : TOk n (tstep s p) (trow s p Q) := by
  unfold tstep trow
  by_cases a1 : s.a p = 1
  · rw [if_pos a1, if_pos a1]
    have hno : p ∉ Q := fun e => (h.mem p hp).1 e a1
    refine ⟨fun q hq => ?_, fun q hq => ?_, ?_, fun i q hiq => ?_, ?_⟩
    · dsimp only
      by_cases e : q = p
      · subst e; rw [tup_same]; simp
      · rw [tup_other e, ← h.mem q hq]; simp [e]
    · rcases List.mem_append.1 hq with h1 | h1
      · exact h.low q h1
      · rw [List.mem_singleton.1 h1]; exact hp
    · dsimp only; rw [h.len, List.length_append, List.length_singleton]; omega
    · dsimp only
      rcases Nat.lt_or_ge i Q.length with hi | hi
      · rw [List.getElem?_append_left hi] at hiq
        have hq : q ∈ Q := List.mem_of_getElem? hiq
        have e : q ≠ p := fun e => hno (e ▸ hq)
        rw [tup_other e, tup_other e]
        exact h.idx i q hiq
      · rw [List.getElem?_append_right hi] at hiq
        have h2 : i - Q.length = 0 := by
          rcases Nat.eq_zero_or_pos (i - Q.length) with h3 | h3
          · exact h3
          · rw [List.getElem?_eq_none (by simp; omega)] at hiq; simp at hiq
        rw [h2] at hiq
        have e : q = p := by simpa using hiq.symm
        subst e
        rw [tup_same, tup_same, h.len]
        omega
    · rw [tcnt_more (P := fun q => decide (s.a q ≠ 1)) hp (fun i _ hne => by simp [tup_other hne]) (by simp [a1]) (by simp [tup_same]), h.cnt]
      simp
  rw [if_neg a1, if_neg a1]
  obtain ⟨i0, g1, g2, g3, g4, g5⟩ := h.place hp a1
  by_cases a4 : s.a p = 4
  · rw [if_neg (by omega), if_neg (by omega), if_pos a4]
    have hi0 : i0 = 0 := by
      rcases Nat.eq_zero_or_pos i0 with h1 | h1
      · exact h1
      · have := g4 h1; omega
    subst hi0
    obtain ⟨R, rfl⟩ : ∃ R, Q = p :: R := by
      cases Q with
      | nil => simp at g1
      | cons x R => exact ⟨R, by simp at g1; rw [g1]⟩
    have hno : p ∉ R := fun e => by
      obtain ⟨i, hi, he⟩ := List.mem_iff_getElem.1 e
      have h1 : (p :: R)[i + 1]? = some p := by rw [List.getElem?_cons_succ, List.getElem?_eq_getElem hi, he]
      have := h.idx (i + 1) p h1
      omega
    refine ⟨fun q hq => ?_, fun q hq => h.low q (List.mem_cons_of_mem _ hq), ?_, fun i q hiq => ?_, ?_⟩
    · dsimp only
      by_cases e : q = p
      · subst e; rw [tup_same]; exact ⟨fun h1 => absurd h1 hno, fun h1 => absurd rfl h1⟩
      · rw [tup_other e, ← h.mem q hq]; simp [e]
    · dsimp only; rw [h.len, g3]; simp; omega
    · have h1 : (p :: R)[i + 1]? = some q := by rw [List.getElem?_cons_succ]; exact hiq
      have e : q ≠ p := fun e => hno (e ▸ List.mem_of_getElem? hiq)
      have h2 := h.idx (i + 1) q h1
      dsimp only
      rw [tup_other e, g3]
      omega
    · have h1 := tcnt_more (P := fun q => decide (tup s.a p 1 q ≠ 1)) (Q := fun q => decide (s.a q ≠ 1)) hp (fun i _ hne => by simp [tup_other hne]) (by simp [tup_same]) (by simp [a1])
      rw [h.cnt] at h1
      simp at h1 ⊢
      omega
  rw [if_neg a4]
  have same : ∀ x, x ≠ 1 → (2 ≤ x ∧ x ≤ 4) → (0 < i0 → x = 2) → TOk n { s with a := tup s.a p x } Q := fun x hx1 hx hxi => by
    refine ⟨fun q hq => ?_, h.low, h.len, fun i q hiq => ?_, ?_⟩
    · dsimp only
      by_cases e : q = p
      · subst e; rw [tup_same, h.mem q hq]; exact ⟨fun _ => hx1, fun _ => a1⟩
      · rw [tup_other e]; exact h.mem q hq
    · have h1 := h.idx i q hiq
      dsimp only
      by_cases e : q = p
      · subst e
        rw [tup_same]
        exact ⟨h1.1, fun h2 => hxi (by omega), hx⟩
      · rw [tup_other e]; exact h1
    · rw [← h.cnt]
      exact tcnt_same fun q _ => by
        by_cases e : q = p
        · subst e; simp [tup_same, hx1, a1]
        · simp [tup_other e]
  by_cases a2 : s.a p = 2
  · rw [if_pos a2]
    split
    · exact same 3 (by omega) (by omega) (fun h1 => by omega)
    · exact h
  · rw [if_neg a2, if_pos (by omega)]
    exact same 4 (by omega) (by omega) (fun h1 => by have := g4 h1; omega)
/-- Who is in is the first of the row. -/
theorem TOk.head {n : Nat} {s : TS} {Q : List Nat} (h : TOk n s Q) {p : Nat} (hp : p < n) (ha : 3 ≤ s.a p) : Q[0]? = some p := by
  obtain ⟨i, g1, _, _, g4, _⟩ := h.place hp (by omega)
  rcases Nat.eq_zero_or_pos i with h1 | h1
  · subst h1; exact g1
  · have := g4 h1; omega
theorem TOk.alone {n : Nat} {s : TS} {Q : List Nat} (h : TOk n s Q) {p q : Nat} (hp : p < n) (hq : q < n) (ap : 3 ≤ s.a p) (aq : 3 ≤ s.a q) : p = q := by
  have h1 := h.head hp ap
  rw [h.head hq aq] at h1
  exact (Option.some.inj h1).symm
/-- Of those who wait, the first has come in: it was the first. -/
theorem TOk.came {n : Nat} {s : TS} {Q : List Nat} (h : TOk n s Q) {p : Nat} (hp : p < n) (ha : s.a p ≠ 3) (h3 : (tstep s p).a p = 3) : s.a p = 2 ∧ Q[0]? = some p := by
  unfold tstep at h3
  by_cases a1 : s.a p = 1
  · rw [if_pos a1] at h3; dsimp only at h3; rw [tup_same] at h3; omega
  rw [if_neg a1] at h3
  by_cases a2 : s.a p = 2
  · rw [if_pos a2] at h3
    split at h3
    · rename_i e
      obtain ⟨i, g1, _, g3, _⟩ := h.place hp a1
      have : i = 0 := by omega
      subst this
      exact ⟨a2, g1⟩
    · omega
  · rw [if_neg a2, if_neg ha] at h3
    dsimp only at h3; rw [tup_same] at h3; omega
end Go.Proofs.Ytobfaohcadmopaa
