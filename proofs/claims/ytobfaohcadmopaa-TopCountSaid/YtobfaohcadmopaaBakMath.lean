/-
  Chapter 7 as plain mathematics: one takes a number; what holds in all states. It imports nothing of the translation.
-/
namespace Go.Proofs.Ytobfaohcadmopaa

def bup {α : Type} (f : Nat → α) (i : Nat) (x : α) : Nat → α := fun j => if j = i then x else f j
theorem bup_same {α : Type} (f : Nat → α) (i : Nat) (x : α) : bup f i x i = x := by simp [bup]
theorem bup_other {α : Type} {f : Nat → α} {i j : Nat} {x : α} (h : j ≠ i) : bup f i x j = f j := by simp [bup, h]

/-- Of a hand: its line, its k and m, its C and its N. -/
structure BH where
  a : Nat
  k : Nat
  m : Nat
  c : Nat
  w : Nat
def bnew : Nat → BH := fun _ => ⟨1, 0, 0, 0, 0⟩
/-- Hand p need not wait for hand k. -/
def BBehind (p k : Nat) (hp hk : BH) : Prop := hk.w = 0 ∨ hp.w < hk.w ∨ hk.w = hp.w ∧ p ≤ k
instance (p k : Nat) (hp hk : BH) : Decidable (BBehind p k hp hk) := by unfold BBehind; infer_instance
/-- What hand p is when it has done its line. -/
def bone (n : Nat) (s : Nat → BH) (p : Nat) : BH :=
  if (s p).a = 1 then ⟨2, 0, 0, 1, (s p).w⟩
  else if (s p).a = 2 then ⟨if (s p).k + 1 = n then 3 else 2, (s p).k + 1, if (s p).m < (s (s p).k).w then (s (s p).k).w else (s p).m, (s p).c, (s p).w⟩
  else if (s p).a = 3 then ⟨4, (s p).k, (s p).m, (s p).c, (s p).m + 1⟩
  else if (s p).a = 4 then ⟨5, 0, (s p).m, 0, (s p).w⟩
  else if (s p).a = 5 then (if (s (s p).k).c = 0 then ⟨6, (s p).k, (s p).m, (s p).c, (s p).w⟩ else s p)
  else if (s p).a = 6 then
    (if BBehind p (s p).k (s p) (s (s p).k) then ⟨if (s p).k + 1 = n then 7 else 5, (s p).k + 1, (s p).m, (s p).c, (s p).w⟩ else s p)
  else if (s p).a = 7 then ⟨8, (s p).k, (s p).m, (s p).c, (s p).w⟩
  else ⟨1, 0, 0, (s p).c, 0⟩
def bstep (n : Nat) (s : Nat → BH) (p : Nat) : Nat → BH := bup s p (bone n s p)

def BLoc (n : Nat) (h : BH) : Prop :=
  (1 ≤ h.a ∧ h.a ≤ 8) ∧ (h.a = 1 → h.k = 0 ∧ h.m = 0) ∧ (h.a = 2 ∨ h.a = 5 ∨ h.a = 6 → h.k < n) ∧ (h.a = 3 ∨ h.a = 4 ∨ h.a = 7 ∨ h.a = 8 → h.k = n) ∧
  (2 ≤ h.a ∧ h.a ≤ 4 → h.c = 1) ∧ (h.a = 1 ∨ 5 ≤ h.a → h.c = 0) ∧ (h.a ≤ 3 → h.w = 0) ∧ (4 ≤ h.a → 1 ≤ h.w)
/-- Hand i, that chooses, will have a greater number than p. -/
def BLate (p : Nat) (hp hi : BH) : Prop := (hi.a = 2 → p < hi.k → hp.w ≤ hi.m) ∧ (hi.a = 3 → hp.w ≤ hi.m)
/-- Hand p has seen to hand i; it is about to. -/
def BRel (p i : Nat) (hp hi : BH) : Prop :=
  (5 ≤ hp.a → i < hp.k → BLate p hp hi ∧ (4 ≤ hi.a → hp.w < hi.w ∨ hp.w = hi.w ∧ p < i)) ∧
  (hp.a = 6 → i = hp.k → BLate p hp hi ∧ (hi.a = 4 → hp.w < hi.w))
structure BOk (n : Nat) (s : Nat → BH) : Prop where
  loc : ∀ p, p < n → BLoc n (s p)
  rel : ∀ p i, p < n → i < n → p ≠ i → BRel p i (s p) (s i)

theorem bnew_ok (n : Nat) (hn : 1 ≤ n) : BOk n bnew := by
  refine ⟨fun p _ => ?_, fun p i _ _ _ => ?_⟩
  · unfold BLoc bnew; dsimp only; omega
  · unfold BRel bnew; dsimp only; omega
/-- What a hand's line can do, with all that is known of another hand. -/
theorem bone_loc {n : Nat} {s : Nat → BH} (h : BOk n s) {p : Nat} (hp : p < n) : BLoc n (bone n s p) := by
  have hl := h.loc p hp
  unfold BLoc at hl
  unfold bone
  by_cases a1 : (s p).a = 1
  · rw [if_pos a1]; unfold BLoc; dsimp only; omega
  rw [if_neg a1]
  by_cases a2 : (s p).a = 2
  · rw [if_pos a2]; unfold BLoc; dsimp only
    by_cases e : (s p).k + 1 = n
    · rw [if_pos e]; omega
    · rw [if_neg e]; omega
  rw [if_neg a2]
  by_cases a3 : (s p).a = 3
  · rw [if_pos a3]; unfold BLoc; dsimp only; omega
  rw [if_neg a3]
  by_cases a4 : (s p).a = 4
  · rw [if_pos a4]; unfold BLoc; dsimp only; omega
  rw [if_neg a4]
  by_cases a5 : (s p).a = 5
  · rw [if_pos a5]; split
    · unfold BLoc; dsimp only; omega
    · exact h.loc p hp
  rw [if_neg a5]
  by_cases a6 : (s p).a = 6
  · rw [if_pos a6]; split
    · unfold BLoc; dsimp only
      by_cases e : (s p).k + 1 = n
      · rw [if_pos e]; omega
      · rw [if_neg e]; omega
    · exact h.loc p hp
  rw [if_neg a6]
  by_cases a7 : (s p).a = 7
  · rw [if_pos a7]; unfold BLoc; dsimp only; omega
  · rw [if_neg a7]; unfold BLoc; dsimp only; omega
theorem bone_rel {n : Nat} {s : Nat → BH} (h : BOk n s) {p i : Nat} (hp : p < n) (hi : i < n) (hne : p ≠ i) : BRel p i (bone n s p) (s i) := by
  have hl := h.loc p hp
  have hli := h.loc i hi
  have hr := h.rel p i hp hi hne
  unfold BLoc at hl hli
  unfold bone
  by_cases a1 : (s p).a = 1
  · rw [if_pos a1]; unfold BRel; dsimp only; omega
  rw [if_neg a1]
  by_cases a2 : (s p).a = 2
  · rw [if_pos a2]; unfold BRel; dsimp only
    by_cases e : (s p).k + 1 = n
    · rw [if_pos e]; omega
    · rw [if_neg e]; omega
  rw [if_neg a2]
  by_cases a3 : (s p).a = 3
  · rw [if_pos a3]; unfold BRel; dsimp only; omega
  rw [if_neg a3]
  by_cases a4 : (s p).a = 4
  · rw [if_pos a4]; unfold BRel; dsimp only; omega
  rw [if_neg a4]
  by_cases a5 : (s p).a = 5
  · rw [if_pos a5]; split
    · rename_i hc
      unfold BRel BLate at hr ⊢; dsimp only
      refine ⟨fun _ h2 => hr.1 (by omega) h2, fun _ h2 => ?_⟩
      rw [← h2] at hc
      omega
    · exact hr
  rw [if_neg a5]
  by_cases a6 : (s p).a = 6
  · rw [if_pos a6]; split
    · rename_i hb
      unfold BRel BLate at hr ⊢; dsimp only
      refine ⟨fun _ h2 => ?_, fun h1 => ?_⟩
      · rcases Nat.lt_or_ge i (s p).k with h3 | h3
        · exact hr.1 (by omega) h3
        · obtain h4 : i = (s p).k := by omega
          have h5 := hr.2 a6 h4
          unfold BBehind at hb
          rw [← h4] at hb
          exact ⟨h5.1, fun _ => by omega⟩
      · split at h1 <;> omega
    · exact hr
  rw [if_neg a6]
  by_cases a7 : (s p).a = 7
  · rw [if_pos a7]; unfold BRel BLate at hr ⊢; dsimp only
    exact ⟨fun _ h2 => hr.1 (by omega) h2, fun h1 => by omega⟩
  · rw [if_neg a7]; unfold BRel; dsimp only; omega
/-- Who begins to choose behind it gets a greater number. -/
theorem bone_late {n : Nat} {s : Nat → BH} {p i : Nat} (h : BLate i (s i) (s p)) (hi : i < n) : BLate i (s i) (bone n s p) ∧ ((bone n s p).a = 4 → (s p).a = 3 ∧ (bone n s p).w = (s p).m + 1) := by
  unfold BLate at h ⊢
  unfold bone
  by_cases a1 : (s p).a = 1
  · rw [if_pos a1]; dsimp only; omega
  rw [if_neg a1]
  by_cases a2 : (s p).a = 2
  · rw [if_pos a2]; dsimp only
    have hm : i = (s p).k → (s i).w ≤ (if (s p).m < (s (s p).k).w then (s (s p).k).w else (s p).m) := fun e => by
      subst e; split <;> omega
    have hm2 : (s p).m ≤ (if (s p).m < (s (s p).k).w then (s (s p).k).w else (s p).m) := by split <;> omega
    refine ⟨⟨fun _ h2 => ?_, fun h1 => ?_⟩, fun h1 => ?_⟩
    · by_cases e : i = (s p).k
      · exact hm e
      · exact Nat.le_trans (h.1 a2 (by omega)) hm2
    · by_cases e : i = (s p).k
      · exact hm e
      · split at h1
        · exact Nat.le_trans (h.1 a2 (by omega)) hm2
        · omega
    · split at h1 <;> omega
  rw [if_neg a2]
  by_cases a3 : (s p).a = 3
  · rw [if_pos a3]; dsimp only; exact ⟨⟨fun h => by omega, fun h => by omega⟩, fun _ => ⟨a3, rfl⟩⟩
  rw [if_neg a3]
  by_cases a4 : (s p).a = 4
  · rw [if_pos a4]; dsimp only; omega
  rw [if_neg a4]
  by_cases a5 : (s p).a = 5
  · rw [if_pos a5]; split
    · dsimp only; omega
    · omega
  rw [if_neg a5]
  by_cases a6 : (s p).a = 6
  · rw [if_pos a6]; split
    · dsimp only; refine ⟨⟨fun h1 => ?_, fun h1 => ?_⟩, fun h1 => ?_⟩ <;> split at h1 <;> omega
    · omega
  rw [if_neg a6]
  by_cases a7 : (s p).a = 7
  · rw [if_pos a7]; dsimp only; omega
  · rw [if_neg a7]; dsimp only; omega
/-- The number changes at lines 3 and 8 alone. -/
theorem bone_w {n : Nat} {s : Nat → BH} {p : Nat} : (4 ≤ (bone n s p).a → (s p).a = 3 ∧ (bone n s p).a = 4 ∧ (bone n s p).w = (s p).m + 1 ∨ 4 ≤ (s p).a ∧ (bone n s p).w = (s p).w ∧ 5 ≤ (bone n s p).a) := by
  unfold bone
  by_cases a1 : (s p).a = 1
  · rw [if_pos a1]; dsimp only; omega
  rw [if_neg a1]
  by_cases a2 : (s p).a = 2
  · rw [if_pos a2]; dsimp only; split <;> omega
  rw [if_neg a2]
  by_cases a3 : (s p).a = 3
  · rw [if_pos a3]; dsimp only; omega
  rw [if_neg a3]
  by_cases a4 : (s p).a = 4
  · rw [if_pos a4]; dsimp only; omega
  rw [if_neg a4]
  by_cases a5 : (s p).a = 5
  · rw [if_pos a5]; split
    · dsimp only; omega
    · omega
  rw [if_neg a5]
  by_cases a6 : (s p).a = 6
  · rw [if_pos a6]; split
    · dsimp only; split <;> omega
    · omega
  rw [if_neg a6]
  by_cases a7 : (s p).a = 7
  · rw [if_pos a7]; dsimp only; omega
  · rw [if_neg a7]; dsimp only; omega
theorem bone_rel2 {n : Nat} {s : Nat → BH} (h : BOk n s) {p i : Nat} (hp : p < n) (hi : i < n) (hne : i ≠ p) : BRel i p (s i) (bone n s p) := by
  have hr := h.rel i p hi hp hne
  have hw := bone_w (n := n) (s := s) (p := p)
  refine ⟨fun h1 h2 => ?_, fun h1 h2 => ?_⟩
  · have h3 := hr.1 h1 h2
    have h4 := bone_late (n := n) h3.1 hi
    refine ⟨h4.1, fun h5 => ?_⟩
    have h6 := h3.1.2
    rcases hw h5 with h7 | h7
    · have := h6 h7.1; omega
    · have := h3.2 h7.1; omega
  · have h3 := hr.2 h1 h2
    have h4 := bone_late (n := n) h3.1 hi
    refine ⟨h4.1, fun h5 => ?_⟩
    have h6 := h3.1.2
    rcases hw (by omega) with h7 | h7
    · have := h6 h7.1; omega
    · omega
theorem BOk.step {n : Nat} {s : Nat → BH} (h : BOk n s) {p : Nat} (hp : p < n) : BOk n (bstep n s p) := by
  refine ⟨fun q hq => ?_, fun q i hq hi hne => ?_⟩
  · unfold bstep bup
    split
    · exact bone_loc h hp
    · exact h.loc q hq
  · unfold bstep bup
    by_cases e : q = p
    · subst e
      rw [if_pos rfl, if_neg (fun e => hne e.symm)]
      exact bone_rel h hq hi hne
    · rw [if_neg e]
      by_cases e2 : i = p
      · subst e2; rw [if_pos rfl]; exact bone_rel2 h hi hq hne
      · rw [if_neg e2]; exact h.rel q i hq hi hne
/-- One hand is inside. -/
theorem BOk.alone {n : Nat} {s : Nat → BH} (h : BOk n s) {p q : Nat} (hp : p < n) (hq : q < n) (ap : 7 ≤ (s p).a) (aq : 7 ≤ (s q).a) : p = q := by
  by_cases e : p = q
  · exact e
  have h1 := h.loc p hp
  have h2 := h.loc q hq
  unfold BLoc at h1 h2
  have h3 := ((h.rel p q hp hq e).1 (by omega) (by omega)).2 (by omega)
  have h4 := ((h.rel q p hq hp (fun e2 => e e2.symm)).1 (by omega) (by omega)).2 (by omega)
  omega
/-- Who is in has the least number. -/
theorem BOk.least {n : Nat} {s : Nat → BH} (h : BOk n s) {p q : Nat} (hp : p < n) (hq : q < n) (hne : p ≠ q) (ap : 7 ≤ (s p).a) (hw : (s q).w ≠ 0) : (s p).w < (s q).w ∨ (s p).w = (s q).w ∧ p < q := by
  have h1 := h.loc p hp
  have h2 := h.loc q hq
  unfold BLoc at h1 h2
  exact ((h.rel p q hp hq hne).1 (by omega) (by omega)).2 (by omega)
end Go.Proofs.Ytobfaohcadmopaa
