/-
  Chapter 26 as plain mathematics: rows along which all tasks can end; the first of them. It imports nothing of the translation.
-/
namespace Go.Proofs.Ytimdhnjkjflbdaa
section
variable {nk : Nat} {N H : Nat → Nat → Nat} {f g : Nat → Nat}
/-- A task can end: of no kind may it ask for more than is free. -/
def bcan (nk : Nat) (N : Nat → Nat → Nat) (f : Nat → Nat) (t : Nat) : Prop := ∀ i, i < nk → N t i ≤ f i
instance (nk : Nat) (N : Nat → Nat → Nat) (f : Nat → Nat) (t : Nat) : Decidable (bcan nk N f t) := by unfold bcan; infer_instance
def bend (H : Nat → Nat → Nat) (f : Nat → Nat) (t : Nat) : Nat → Nat := fun i => f i + H t i
def bends (nk : Nat) (N H : Nat → Nat → Nat) (f : Nat → Nat) : List Nat → Prop
  | [] => True
  | t :: r => bcan nk N f t ∧ bends nk N H (bend H f t) r
theorem bcan_more {t : Nat} (h : bcan nk N f t) (hg : ∀ i, i < nk → f i ≤ g i) : bcan nk N g t := fun i hi => Nat.le_trans (h i hi) (hg i hi)
/-- With more free the same row is good. -/
theorem bends_more : ∀ {r : List Nat} {f g : Nat → Nat}, bends nk N H f r → (∀ i, i < nk → f i ≤ g i) → bends nk N H g r
  | [], _, _, _, _ => trivial
  | _ :: _, _, _, h, hg => ⟨bcan_more h.1 hg, bends_more h.2 fun i hi => Nat.add_le_add_right (hg i hi) _⟩
theorem bend_comm (t x : Nat) : bend H (bend H f t) x = bend H (bend H f x) t := by funext i; unfold bend; omega
/-- Who can end may end first. -/
theorem bends_front {t : Nat} {b : List Nat} : ∀ {a : List Nat} {f : Nat → Nat}, bcan nk N f t → bends nk N H f (a ++ t :: b) → bends nk N H f (t :: (a ++ b))
  | [], _, _, h => h
  | x :: a, f, hc, h => by
    have hm : ∀ y i, i < nk → f i ≤ bend H f y i := fun y i _ => Nat.le_add_right _ _
    have h1 := bends_front (bcan_more hc (hm x)) h.2
    refine ⟨hc, bcan_more h.1 (hm t), ?_⟩
    rw [bend_comm]
    exact h1.2
/-- Row by row: the number at the first place where they differ is less, or they are the same. -/
def lexle : List Nat → List Nat → Prop
  | [], _ => True
  | _ :: _, [] => False
  | a :: r, b :: r' => a < b ∨ a = b ∧ lexle r r'
theorem lexle_refl : ∀ l : List Nat, lexle l l
  | [] => trivial
  | _ :: r => Or.inr ⟨rfl, lexle_refl r⟩
theorem lexle_at : ∀ {a b : List Nat} {k : Nat}, lexle a b → (∀ j, j < k → a[j]? = b[j]?) → ∀ x y, a[k]? = some x → b[k]? = some y → x ≤ y
  | [], _, _, _, _, _, _, hx, _ => by simp at hx
  | _ :: _, [], _, h, _, _, _, _, _ => h.elim
  | u :: r, v :: r', 0, h, _, x, y, hx, hy => by
    have hx' : u = x := by simpa using hx
    have hy' : v = y := by simpa using hy
    subst hx' hy'
    rcases h with h | h
    · exact Nat.le_of_lt h
    · exact Nat.le_of_eq h.1
  | u :: r, v :: r', k + 1, h, he, x, y, hx, hy => by
    have h0 : u = v := by simpa using he 0 (by omega)
    rcases h with h | h
    · omega
    · exact lexle_at (k := k) h.2 (fun j hj => by have := he (j + 1) (by omega); simpa using this) x y (by simpa using hx) (by simpa using hy)
/-- The least of the tasks that can end, again and again. -/
def bgr (nk : Nat) (N H : Nat → Nat → Nat) : Nat → (Nat → Nat) → List Nat → Option (List Nat)
  | 0, _, R => if R = [] then some [] else none
  | k + 1, f, R => match R.find? (fun t => decide (bcan nk N f t)) with
    | none => if R = [] then some [] else none
    | some t => (bgr nk N H k (bend H f t) (R.erase t)).map (t :: ·)
theorem bgr_good : ∀ (k : Nat) (f : Nat → Nat) (R r : List Nat), bgr nk N H k f R = some r → r.Perm R ∧ bends nk N H f r := by
  intro k
  induction k with
  | zero =>
    intro f R r h
    unfold bgr at h
    split at h
    · rename_i e; subst e; cases h; exact ⟨List.Perm.refl _, trivial⟩
    · cases h
  | succ k ih =>
    intro f R r h
    unfold bgr at h
    split at h
    · split at h
      · rename_i e; subst e; cases h; exact ⟨List.Perm.refl _, trivial⟩
      · cases h
    · rename_i t ht
      cases hb : bgr nk N H k (bend H f t) (R.erase t) with
      | none => rw [hb] at h; cases h
      | some r' =>
        rw [hb] at h
        have er : t :: r' = r := Option.some.inj h
        subst er
        obtain ⟨h1, h2⟩ := ih _ _ _ hb
        have hm : t ∈ R := List.mem_of_find?_eq_some ht
        exact ⟨(h1.cons t).trans (List.perm_cons_erase hm).symm, (by have h9 := List.find?_some ht; simpa using h9), h2⟩
theorem find_least {R : List Nat} {P : Nat → Bool} (hs : R.Pairwise (· < ·)) {t : Nat} (h : R.find? P = some t) {x : Nat} (hx : x ∈ R) (hP : P x = true) : t ≤ x := by
  induction R with
  | nil => cases hx
  | cons a R ih =>
    rw [List.pairwise_cons] at hs
    rw [List.find?_cons] at h
    cases ha : P a with
    | true =>
      rw [ha] at h
      have e : a = t := Option.some.inj h
      subst e
      rcases List.mem_cons.1 hx with h1 | h1
      · rw [h1]; exact Nat.le_refl _
      · exact Nat.le_of_lt (hs.1 x h1)
    | false =>
      rw [ha] at h
      rcases List.mem_cons.1 hx with h1 | h1
      · rw [h1, ha] at hP; cases hP
      · exact ih hs.2 h h1
theorem bgr_least : ∀ (k : Nat) (f : Nat → Nat) (R r' : List Nat), R.length ≤ k → R.Pairwise (· < ·) → r'.Perm R → bends nk N H f r' → ∃ r, bgr nk N H k f R = some r ∧ lexle r r' := by
  intro k
  induction k with
  | zero =>
    intro f R r' hk _ hp _
    have : R = [] := List.eq_nil_of_length_eq_zero (by omega)
    subst this
    exact ⟨[], by simp [bgr], trivial⟩
  | succ k ih =>
    intro f R r' hk hs hp hb
    cases hr : r' with
    | nil =>
      rw [hr] at hp
      have : R = [] := List.Perm.nil_eq hp |>.symm
      subst this
      exact ⟨[], by simp [bgr], trivial⟩
    | cons t' q =>
      rw [hr] at hp hb
      have ht' : t' ∈ R := hp.subset (by simp)
      have hfind : ∃ t, R.find? (fun t => decide (bcan nk N f t)) = some t := by
        cases e : R.find? (fun t => decide (bcan nk N f t)) with
        | some t => exact ⟨t, rfl⟩
        | none =>
          have := List.find?_eq_none.1 e t' ht'
          exact absurd (decide_eq_true hb.1) this
      obtain ⟨t, ht⟩ := hfind
      have hle := find_least hs ht ht' (decide_eq_true hb.1)
      have htR : t ∈ R := List.mem_of_find?_eq_some ht
      have hcan : bcan nk N f t := by have h9 := List.find?_some ht; simpa using h9
      have hlen : (R.erase t).length ≤ k := by rw [List.length_erase_of_mem htR]; omega
      have hs2 : (R.erase t).Pairwise (· < ·) := List.Pairwise.sublist List.erase_sublist hs
      -- a row that begins with t
      have ⟨q', hq1, hq2, hq3⟩ : ∃ q', q'.Perm (R.erase t) ∧ bends nk N H (bend H f t) q' ∧ (t = t' → q' = q) := by
        by_cases e : t = t'
        · subst e
          exact ⟨q, (List.perm_cons t).1 (hp.trans (List.perm_cons_erase htR)), hb.2, fun _ => rfl⟩
        · have hm : t ∈ t' :: q := hp.symm.subset htR
          have hmq : t ∈ q := (List.mem_cons.1 hm).resolve_left e
          obtain ⟨a, b, hab⟩ := List.append_of_mem hmq
          have hb' : bends nk N H f ((t' :: a) ++ t :: b) := by rw [List.cons_append, ← hab]; exact hb
          have h2 := bends_front hcan hb'
          refine ⟨t' :: a ++ b, ?_, h2.2, fun e2 => absurd e2 e⟩
          have h3 : (t :: (t' :: a ++ b)).Perm (t' :: q) := by
            rw [hab]
            exact (List.perm_middle (a := t) (l₁ := t' :: a) (l₂ := b)).symm
          exact (List.perm_cons t).1 ((h3.trans hp).trans (List.perm_cons_erase htR))
      obtain ⟨r, hr1, hr2⟩ := ih (bend H f t) (R.erase t) q' hlen hs2 hq1 hq2
      refine ⟨t :: r, ?_, ?_⟩
      · unfold bgr
        rw [ht]
        show (bgr nk N H k (bend H f t) (R.erase t)).map (t :: ·) = _
        rw [hr1]; rfl
      · by_cases e : t = t'
        · exact Or.inr ⟨e, by rw [← hq3 e]; exact hr2⟩
        · exact Or.inl (by omega)
/-- What comes back does no harm: the same row is good. -/
theorem bends_back {t : Nat} {w : Nat → Nat} {N' H' : Nat → Nat → Nat} (hN : ∀ x i, N' x i = if x = t then N t i + w i else N x i) (hH : ∀ x i, x ≠ t → H' x i = H x i) (hHt : ∀ i, H' t i + w i = H t i) :
    ∀ (r : List Nat) (f g : Nat → Nat), r.Nodup → bends nk N H f r → (t ∈ r → ∀ i, i < nk → f i + w i ≤ g i) → (t ∉ r → ∀ i, i < nk → f i ≤ g i) → bends nk N' H' g r
  | [], _, _, _, _, _, _ => trivial
  | x :: r, f, g, hn, h, h1, h2 => by
    rw [List.nodup_cons] at hn
    by_cases e : x = t
    · subst e
      have h1' := h1 (by simp)
      refine ⟨fun i hi => ?_, bends_back hN hH hHt r (bend H f x) (bend H' g x) hn.2 h.2 (fun e2 => absurd e2 hn.1) (fun _ i hi => ?_)⟩
      · rw [hN, if_pos rfl]
        have := h.1 i hi
        have := h1' i hi
        omega
      · have := hHt i
        have := h1' i hi
        unfold bend; omega
    · refine ⟨fun i hi => ?_, bends_back hN hH hHt r (bend H f x) (bend H' g x) hn.2 h.2 (fun e2 i hi => ?_) (fun e2 i hi => ?_)⟩
      · rw [hN, if_neg e]
        have h3 := h.1 i hi
        by_cases et : t ∈ r
        · have := h1 (List.mem_cons_of_mem _ et) i hi; omega
        · have := h2 (fun e2 => (List.mem_cons.1 e2).elim (fun e3 => e e3.symm) et) i hi; omega
      · have := h1 (List.mem_cons_of_mem _ e2) i hi
        unfold bend
        rw [hH x i e]; omega
      · have := h2 (fun e3 => (List.mem_cons.1 e3).elim (fun e4 => e e4.symm) e2) i hi
        unfold bend
        rw [hH x i e]; omega
end
end Go.Proofs.Ytimdhnjkjflbdaa
