import Derived.Test.YtimdhnjkjflbdaaLinSpec
/-
  Chapter 19 as plain mathematics, on: the search (rest) step by step; a good row of numbers, place by place; the row that is told, as numbers.
-/
namespace Go.Proofs.Ytimdhnjkjflbdaa
theorem find_at {α : Type} {f : Nat → Option α} {v : α} : ∀ {n i : Nat}, i < n → (∀ j, j < i → f j = none) → f i = some v → (List.range n).findSome? f = some v
  | 0, _, h, _, _ => absurd h (Nat.not_lt_zero _)
  | n + 1, i, hi, hb, hv => by
    rw [List.range_succ, List.findSome?_append]
    by_cases e : i = n
    · subst e
      have : (List.range i).findSome? f = none := by
        rw [List.findSome?_eq_none_iff]
        exact fun x hx => hb x (List.mem_range.1 hx)
      rw [this]
      simp [hv]
    · rw [find_at (by omega) hb hv]; rfl
theorem find_none {α : Type} {f : Nat → Option α} {n : Nat} (hb : ∀ j, j < n → f j = none) : (List.range n).findSome? f = none := by
  rw [List.findSome?_eq_none_iff]
  exact fun x hx => hb x (List.mem_range.1 hx)
/-- What one way on gives. -/
def lway (ob n : Nat) (h : LOps) (k : Nat) (told : List Nat) (has : List Int) (i : Nat) : Option (List Nat) :=
  if lnext ob n h told has i then (lsr ob n h k (told ++ [i]) (lgets ob (h.kd i) (h.ar i) has).1).map (i :: ·) else none
/-- What rest answers. -/
def lrst (ob n : Nat) (h : LOps) (k : Nat) (told : List Nat) (has : List Int) : List Nat := match lsr ob n h k told has with | some r => told ++ r | none => told
section
variable {ob n k i : Nat} {h : LOps} {told r : List Nat} {has : List Int}
theorem lsr_find : lsr ob n h (k + 1) told has = (List.range n).findSome? (lway ob n h k told has) := rfl
theorem lway_none (hn : ¬ lnext ob n h told has i) : lway ob n h k told has i = none := if_neg hn
theorem lway_no (hr : lsr ob n h k (told ++ [i]) (lgets ob (h.kd i) (h.ar i) has).1 = none) : lway ob n h k told has i = none := by
  unfold lway
  split
  · rw [hr]; rfl
  · rfl
theorem lway_yes (hn : lnext ob n h told has i) (hr : lsr ob n h k (told ++ [i]) (lgets ob (h.kd i) (h.ar i) has).1 = some r) : lway ob n h k told has i = some (i :: r) := by
  unfold lway
  rw [if_pos hn, hr]; rfl
/-- The first way that goes on to the end is told. -/
theorem lrst_yes (hi : i < n) (hb : ∀ j, j < i → lway ob n h k told has j = none) (hn : lnext ob n h told has i) (hr : lsr ob n h k (told ++ [i]) (lgets ob (h.kd i) (h.ar i) has).1 = some r) :
    lrst ob n h (k + 1) told has = lrst ob n h k (told ++ [i]) (lgets ob (h.kd i) (h.ar i) has).1 := by
  unfold lrst
  rw [lsr_find, find_at hi hb (lway_yes hn hr), hr]
  simp
theorem lrst_none (hb : ∀ j, j < n → lway ob n h k told has j = none) : lrst ob n h (k + 1) told has = told := by
  unfold lrst
  rw [lsr_find, find_none hb]
theorem lrst_zero : lrst ob n h 0 told has = told := by unfold lrst lsr; simp
theorem lrst_len (hl : told.length + k = n) : (lrst ob n h k told has).length = n ↔ lsr ob n h k told has ≠ none := by
  unfold lrst
  cases e : lsr ob n h k told has with
  | some r =>
    have h1 := (lsr_good k told has r e).1
    simp only [List.length_append]
    exact ⟨fun _ => by simp, fun _ => by omega⟩
  | none =>
    dsimp only
    constructor
    · intro h1
      have : k = 0 := by omega
      subst this
      unfold lsr at e; cases e
    · intro h1; exact absurd rfl h1
theorem lrst_le (hl : told.length + k = n) : (lrst ob n h k told has).length ≤ n := by
  unfold lrst
  cases e : lsr ob n h k told has with
  | some r =>
    have h1 := (lsr_good k told has r e).1
    simp only [List.length_append]; omega
  | none => dsimp only; omega
/-- What is told stands ahead of what comes. -/
theorem lrst_lt (ht : ∀ j, j ∈ told → j < n) : ∀ j, j ∈ lrst ob n h k told has → j < n := by
  unfold lrst
  cases e : lsr ob n h k told has with
  | none => exact ht
  | some r =>
    have hc := (lsr_good k told has r e).2
    have hall : ∀ (r told : List Nat) (has : List Int), lcont ob n h told has r → ∀ j, j ∈ r → j < n := by
      intro r
      induction r with
      | nil => intro _ _ _ j hj; cases hj
      | cons a r ih =>
        intro told has hc j hj
        rcases List.mem_cons.1 hj with e | e
        · rw [e]; exact hc.1
        · exact ih _ _ hc.2.2 j e
    intro j hj
    rcases List.mem_append.1 hj with h1 | h1
    · exact ht j h1
    · exact hall r told has hc j h1
/-- Nothing may come next of what was told. -/
theorem lnext_not (hi : i ∈ told) : ¬ lnext ob n h told has i := fun c => c.1 hi
end
/-! ## Good rows of numbers -/
/-- Place k of a row of numbers is good, as the law asks. -/
structure GAt (ob : Nat) (h : List LO) (R : List Int) (k : Nat) : Prop where
  lo : 0 ≤ R.getD k 0
  hi : R.getD k 0 ≤ (h.length : Int) - 1
  two : ∀ j, j < R.length → ¬ (j ≠ k ∧ R.getD j 0 = R.getD k 0 ∨ k < j ∧ (0 ≤ R.getD j 0 ∧ R.getD j 0 ≤ (h.length : Int) - 1) ∧ (lat h (R.getD j 0).toNat).to ≤ (lat h (R.getD k 0).toNat).fr)
  go : (lgets ob (lat h (R.getD k 0).toNat).kd.toNat (lat h (R.getD k 0).toNat).ar (lhas ob h (R.map Int.toNat) k)).2 = (lat h (R.getD k 0).toNat).gt
def goodI (ob : Nat) (h : List LO) (R : List Int) : Prop := R.length = h.length ∧ ∀ k, k < R.length → GAt ob h R k
section
variable {ob : Nat} {h : List LO} {R : List Int}
theorem getD_at {l : List Int} {k : Nat} (hk : k < l.length) : l.getD k 0 = l[k] := by rw [List.getD_eq_getElem?_getD, List.getElem?_eq_getElem hk]; rfl
theorem goodI_iff : goodI ob h R ↔ LGood ob h.length (hops h) (R.map Int.toNat) ∧ ∀ x, x ∈ R → 0 ≤ x := by
  have em : ∀ k (hk : k < R.length), (R.map Int.toNat)[k]'(by simpa using hk) = (R.getD k 0).toNat := fun k hk => by rw [List.getElem_map, getD_at hk]
  constructor
  · rintro ⟨hl, ha⟩
    refine ⟨lgood_iff.2 ⟨by simpa using hl, fun k hk => ?_⟩, fun x hx => ?_⟩
    · have hk' : k < R.length := by simpa using hk
      have g := ha k hk'
      refine ⟨?_, fun j hj hjk e => ?_, fun j hj hkj c => ?_, ?_⟩
      · rw [em k hk']; have := g.lo; have := g.hi; omega
      · have hj' : j < R.length := by simpa using hj
        rw [em j hj', em k hk'] at e
        have g2 := ha j hj'
        exact g.two j hj' (Or.inl ⟨hjk, by have := g.lo; have := g2.lo; omega⟩)
      · have hj' : j < R.length := by simpa using hj
        rw [em j hj', em k hk'] at c
        have g2 := ha j hj'
        exact g.two j hj' (Or.inr ⟨hkj, ⟨g2.lo, g2.hi⟩, c⟩)
      · rw [em k hk']; exact g.go
    · obtain ⟨k, hk, e⟩ := List.getElem_of_mem hx
      rw [← e, ← getD_at hk]; exact (ha k hk).lo
  · rintro ⟨g, hp⟩
    obtain ⟨hl, ha⟩ := lgood_iff.1 g
    refine ⟨by simpa using hl, fun k hk => ?_⟩
    have hk' : k < (R.map Int.toNat).length := by simpa using hk
    have a := ha k hk'
    have p : ∀ j, j < R.length → 0 ≤ R.getD j 0 := fun j hj => by rw [getD_at hj]; exact hp _ (List.getElem_mem hj)
    have alt := a.lt
    have ago := a.go
    rw [em k hk] at alt ago
    refine ⟨p k hk, by have := p k hk; omega, fun j hj c => ?_, ago⟩
    have hj' : j < (R.map Int.toNat).length := by simpa using hj
    rcases c with ⟨c1, c2⟩ | ⟨c1, _, c3⟩
    · exact a.nod j hj' c1 (by rw [em j hj, em k hk, c2])
    · have := a.ord j hj' c1
      rw [em j hj, em k hk] at this
      exact this c3
/-- The row that is told, as numbers. -/
def lrowI (ob : Int) (h : List LO) : List Int := ((lans ob h).getD []).map Int.ofNat
theorem lrowI_none {ob : Int} (e : lans ob h = none) : lrowI ob h = [] := by unfold lrowI; rw [e]; rfl
theorem lrowI_some {ob : Int} {L : List Nat} (e : lans ob h = some L) : lrowI ob h = L.map Int.ofNat := by unfold lrowI; rw [e]; rfl
theorem lans_bad {ob : Int} (e : lchk ob h ≠ 0) : lans ob h = none := by unfold lans; rw [if_neg e]
theorem toNat_ofNat (L : List Nat) : (L.map Int.ofNat).map Int.toNat = L := by
  rw [List.map_map]
  conv => rhs; rw [← List.map_id L]
  exact List.map_congr_left fun x _ => rfl
/-- What is told is good. -/
theorem lrowI_good {L : List Nat} (f : LFine (ob : Int) h) (e : lans (ob : Int) h = some L) : goodI ob h (lrowI (ob : Int) h) := by
  rw [lans_fine f] at e
  have g := lrow_good e
  have e2 : lans (ob : Int) h = some L := by rw [lans_fine f]; exact e
  rw [goodI_iff, lrowI_some e2, toNat_ofNat]
  exact ⟨g, fun x hx => by obtain ⟨y, _, e3⟩ := List.mem_map.1 hx; rw [← e3]; exact Int.natCast_nonneg y⟩
/-- If any row is good one is told, and none ahead of it is. -/
theorem lrowI_least (f : LFine (ob : Int) h) (g : goodI ob h R) : lans (ob : Int) h ≠ none ∧ (lrowI (ob : Int) h).length = R.length ∧
    ∀ k, k < R.length → (∀ j, j < k → (lrowI (ob : Int) h).getD j 0 = R.getD j 0) → (lrowI (ob : Int) h).getD k 0 ≠ R.getD k 0 → (lrowI (ob : Int) h).getD k 0 < R.getD k 0 := by
  obtain ⟨g1, g2⟩ := goodI_iff.1 g
  obtain ⟨L, e, hle⟩ := lrow_some f g1
  have e' := e
  rw [lans_fine f] at e'
  have gl := lrow_good e'
  have hlen : L.length = R.length := by rw [len_all gl.nod gl.all, g.1]
  have e0 : lans (ob : Int) h ≠ none := by rw [e]; exact (fun c => by cases c)
  refine ⟨e0, by rw [lrowI_some e, List.length_map]; exact hlen, fun k hk hb hne => ?_⟩
  rw [lrowI_some e] at hb hne ⊢
  have eL : ∀ j, j < R.length → (L.map Int.ofNat).getD j 0 = ((L.getD j 0 : Nat) : Int) := fun j hj => by
    rw [getD_at (by simpa [hlen] using hj), List.getElem_map, List.getD_eq_getElem?_getD, List.getElem?_eq_getElem (by omega)]; rfl
  have pR : ∀ j, j < R.length → 0 ≤ R.getD j 0 := fun j hj => by rw [getD_at hj]; exact g2 _ (List.getElem_mem hj)
  have eR : ∀ j (hj : j < R.length), (R.map Int.toNat)[j]? = some (R.getD j 0).toNat := fun j hj => by rw [List.getElem?_map, List.getElem?_eq_getElem hj, getD_at hj]; rfl
  have eLg : ∀ j (hj : j < R.length), L[j]? = some (L.getD j 0) := fun j hj => by rw [List.getD_eq_getElem?_getD, List.getElem?_eq_getElem (by omega)]; rfl
  rw [eL k hk] at hne ⊢
  have h1 := lexle_at (k := k) hle (fun j hj => by
    have h2 := hb j hj
    rw [eL j (by omega)] at h2
    rw [eLg j (by omega), eR j (by omega)]
    congr 1
    omega) _ _ (eLg k hk) (eR k hk)
  have := pR k hk
  omega
end
end Go.Proofs.Ytimdhnjkjflbdaa
