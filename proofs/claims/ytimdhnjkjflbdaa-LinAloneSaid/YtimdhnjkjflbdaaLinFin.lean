import Derived.Test.YtimdhnjkjflbdaaLinRest
/-
  Chapter 19 as plain mathematics, on: the search as the program does it: a row is judged whole, then gone on with.
-/
namespace Go.Proofs.Ytimdhnjkjflbdaa

/-- Each, one by one, gets what it got, told as a truth. -/
def lgoB (ob : Nat) (h : LOps) (has : List Int) : List Nat → Bool
  | [] => true
  | i :: r => decide ((lgets ob (h.kd i) (h.ar i) has).2 = h.gt i) && lgoB ob h (lgets ob (h.kd i) (h.ar i) has).1 r
/-- An op may follow, whatever it gets. -/
def pmay (n : Nat) (h : LOps) (told : List Nat) (i : Nat) : Prop := i ∉ told ∧ ∀ j, j < n → h.to j ≤ h.fr i → j ∈ told
instance (n : Nat) (h : LOps) (told : List Nat) (i : Nat) : Decidable (pmay n h told i) := by unfold pmay; infer_instance
/-- What finish answers. -/
def pfin (ob n : Nat) (h : LOps) (k : Nat) (told : List Nat) : Option (List Nat) :=
  if lgoB ob h (linit ob) told = true then (lsr ob n h k told (lend ob h (linit ob) told)).map (told ++ ·) else none
section
variable {ob n k i : Nat} {h : LOps} {told L r : List Nat} {has : List Int}
theorem lgoB_iff : ∀ {r : List Nat} {has : List Int}, lgoB ob h has r = true ↔ lgo ob h has r
  | [], _ => ⟨fun _ => trivial, fun _ => rfl⟩
  | i :: r, has => by
    have ih := lgoB_iff (r := r) (has := (lgets ob (h.kd i) (h.ar i) has).1)
    show (decide _ && _) = true ↔ _ ∧ _
    rw [Bool.and_eq_true, decide_eq_true_iff, ih]
theorem lgoB_snoc : lgoB ob h has (r ++ [i]) = (lgoB ob h has r && decide ((lgets ob (h.kd i) (h.ar i) (lend ob h has r)).2 = h.gt i)) := by
  rw [Bool.eq_iff_iff, lgoB_iff, lgo_snoc, Bool.and_eq_true, lgoB_iff, decide_eq_true_iff]
/-- One that does not get what it got spoils all that goes on. -/
theorem lgoB_take {k : Nat} (e : lgoB ob h has (r.take k) = false) : lgoB ob h has r = false := by
  rw [← Bool.not_eq_true, lgoB_iff] at e ⊢
  intro c
  rw [← List.take_append_drop k r] at c
  exact e (lgo_front _ _ _ c)
theorem lnext_pmay : lnext ob n h told has i ↔ pmay n h told i ∧ (lgets ob (h.kd i) (h.ar i) has).2 = h.gt i :=
  ⟨fun c => ⟨⟨c.1, c.2.1⟩, c.2.2⟩, fun c => ⟨c.1.1, c.1.2, c.2⟩⟩
theorem pfin_bad (e : lgoB ob h (linit ob) told = false) : pfin ob n h k told = none := by
  unfold pfin; rw [e]; rfl
theorem pfin_go (e : lgoB ob h (linit ob) told = true) : pfin ob n h k told = (lsr ob n h k told (lend ob h (linit ob) told)).map (told ++ ·) := by
  unfold pfin; rw [if_pos e]
theorem pfin_full (e : lgoB ob h (linit ob) told = true) : pfin ob n h 0 told = some told := by
  rw [pfin_go e]
  show some (told ++ []) = _
  rw [List.append_nil]
/-- The way on by op i comes to nothing. -/
def pno (ob n : Nat) (h : LOps) (k : Nat) (told : List Nat) (i : Nat) : Prop := lway ob n h k told (lend ob h (linit ob) told) i = none
theorem pno_not (e : ¬ pmay n h told i) : pno ob n h k told i := lway_none fun c => e (lnext_pmay.1 c).1
theorem pno_bad (e : lgoB ob h (linit ob) told = true) (f : pfin ob n h k (told ++ [i]) = none) : pno ob n h k told i := by
  unfold pno
  by_cases c : lgoB ob h (linit ob) (told ++ [i]) = true
  · rw [pfin_go c, lend_snoc] at f
    refine lway_no ?_
    cases hh : lsr ob n h k (told ++ [i]) (lgets ob (h.kd i) (h.ar i) (lend ob h (linit ob) told)).1 with
    | none => rfl
    | some r => rw [hh] at f; cases f
  · refine lway_none fun d => c ?_
    rw [lgoB_snoc, e, Bool.true_and, decide_eq_true_iff]
    exact (lnext_pmay.1 d).2
theorem pfin_yes (e : lgoB ob h (linit ob) told = true) (hi : i < n) (hb : ∀ j, j < i → pno ob n h k told j) (hm : pmay n h told i) (f : pfin ob n h k (told ++ [i]) = some L) : pfin ob n h (k + 1) told = some L := by
  have c : lgoB ob h (linit ob) (told ++ [i]) = true := by
    apply Classical.byContradiction
    intro c
    rw [pfin_bad (by simpa using c)] at f
    cases f
  rw [pfin_go c, lend_snoc] at f
  have hg : (lgets ob (h.kd i) (h.ar i) (lend ob h (linit ob) told)).2 = h.gt i := by
    rw [lgoB_snoc, e, Bool.true_and, decide_eq_true_iff] at c
    exact c
  cases hh : lsr ob n h k (told ++ [i]) (lgets ob (h.kd i) (h.ar i) (lend ob h (linit ob) told)).1 with
  | none => rw [hh] at f; cases f
  | some r =>
    rw [hh] at f
    have f2 : told ++ [i] ++ r = L := Option.some.inj f
    rw [pfin_go e, lsr_find, find_at hi hb (lway_yes (lnext_pmay.2 ⟨hm, hg⟩) hh)]
    show some (told ++ i :: r) = _
    rw [← f2]
    simp
theorem pfin_none (e : lgoB ob h (linit ob) told = true) (hb : ∀ j, j < n → pno ob n h k told j) : pfin ob n h (k + 1) told = none := by
  rw [pfin_go e, lsr_find, find_none hb]
  rfl
theorem pfin_start : pfin ob n h n [] = lrow ob n h := by
  rw [pfin_go rfl]
  unfold lrow
  show (lsr ob n h n [] (linit ob)).map _ = _
  cases lsr ob n h n [] (linit ob) <;> rfl
theorem pfin_some (f : pfin ob n h k told = some L) : ∃ r, L = told ++ r ∧ r.length = k ∧ ∀ x, x ∈ r → x < n := by
  have e : lgoB ob h (linit ob) told = true := by
    apply Classical.byContradiction
    intro c
    rw [pfin_bad (by simpa using c)] at f
    cases f
  rw [pfin_go e] at f
  cases hh : lsr ob n h k told (lend ob h (linit ob) told) with
  | none => rw [hh] at f; cases f
  | some r =>
    rw [hh] at f
    obtain ⟨h1, h2⟩ := lsr_good k told _ r hh
    refine ⟨r, (Option.some.inj f).symm, h1, ?_⟩
    clear hh h1 f
    have : ∀ (r told : List Nat) (has : List Int), lcont ob n h told has r → ∀ x, x ∈ r → x < n := by
      intro r
      induction r with
      | nil => intro _ _ _ x hx; cases hx
      | cons a r ih =>
        intro told has hc x hx
        rcases List.mem_cons.1 hx with e | e
        · rw [e]; exact hc.1
        · exact ih _ _ hc.2.2 x e
    exact this r told _ h2
end
end Go.Proofs.Ytimdhnjkjflbdaa
