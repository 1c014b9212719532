import Derived.Test.YtimdhnjkjflbdaaBnkMath
import Derived.Test.YtimdhnjkjflbdaaRounds
/-
  Chapter 19 as plain mathematics: rows in which each gets what it got; the first of them.
-/
namespace Go.Proofs.Ytimdhnjkjflbdaa

/-- The ops: kind (0 In), what is put in, what was got, from when to when. -/
structure LOps where
  kd : Nat → Nat
  ar : Nat → Int
  gt : Nat → Int
  fr : Nat → Int
  to : Nat → Int
/-- What an op gets of an object (0 a count, 1 a stack, else a queue) that has some values in, and what it has then. -/
def lgets (ob k : Nat) (a : Int) (has : List Int) : List Int × Int :=
  if ob = 0 then (if k = 0 then ([has.headD 0 + a], has.headD 0) else (has, has.headD 0))
  else if k = 0 then (has ++ [a], -1)
  else if has = [] then (has, -1)
  else if ob = 1 then (has.dropLast, has.getLastD 0)
  else (has.tail, has.headD 0)
def linit (ob : Nat) : List Int := if ob = 0 then [0] else []
/-- Each, one by one, gets what it got. -/
def lgo (ob : Nat) (h : LOps) (has : List Int) : List Nat → Prop
  | [] => True
  | i :: r => (lgets ob (h.kd i) (h.ar i) has).2 = h.gt i ∧ lgo ob h (lgets ob (h.kd i) (h.ar i) has).1 r
/-- A good row of all. -/
structure LGood (ob n : Nat) (h : LOps) (L : List Nat) : Prop where
  nod : L.Nodup
  all : ∀ i, i ∈ L ↔ i < n
  ord : L.Pairwise fun a b => ¬ h.to b ≤ h.fr a
  go : lgo ob h (linit ob) L
/-- An op may come next. -/
def lnext (ob n : Nat) (h : LOps) (told : List Nat) (has : List Int) (i : Nat) : Prop :=
  i ∉ told ∧ (∀ j, j < n → h.to j ≤ h.fr i → j ∈ told) ∧ (lgets ob (h.kd i) (h.ar i) has).2 = h.gt i
instance (ob n : Nat) (h : LOps) (told : List Nat) (has : List Int) (i : Nat) : Decidable (lnext ob n h told has i) := by unfold lnext; infer_instance
/-- A row goes on. -/
def lcont (ob n : Nat) (h : LOps) : List Nat → List Int → List Nat → Prop
  | _, _, [] => True
  | told, has, i :: r => i < n ∧ lnext ob n h told has i ∧ lcont ob n h (told ++ [i]) (lgets ob (h.kd i) (h.ar i) has).1 r
/-- The first way on that has k ops more. -/
def lsr (ob n : Nat) (h : LOps) : Nat → List Nat → List Int → Option (List Nat)
  | 0, _, _ => some []
  | k + 1, told, has => (List.range n).findSome? fun i => if lnext ob n h told has i then (lsr ob n h k (told ++ [i]) (lgets ob (h.kd i) (h.ar i) has).1).map (i :: ·) else none
section
variable {ob n : Nat} {h : LOps}
theorem findSome_first {α : Type} {f : Nat → Option α} : ∀ {n x : Nat}, x < n → f x ≠ none → ∃ i v, i ≤ x ∧ f i = some v ∧ (List.range n).findSome? f = some v := by
  intro n
  induction n with
  | zero => intro x hx; omega
  | succ n ih =>
    intro x hx hf
    rw [List.range_succ, List.findSome?_append]
    by_cases e : ∃ y, y < n ∧ y ≤ x ∧ f y ≠ none
    · obtain ⟨y, hy, hyx, hfy⟩ := e
      obtain ⟨i, v, h1, h2, h3⟩ := ih hy hfy
      exact ⟨i, v, by omega, h2, by rw [h3]; rfl⟩
    · have hxn : x = n := by
        rcases Nat.lt_or_ge x n with h1 | h1
        · exact absurd ⟨x, h1, Nat.le_refl _, hf⟩ e
        · omega
      subst hxn
      have hnone : (List.range x).findSome? f = none := by
        rw [List.findSome?_eq_none_iff]
        intro y hy
        exact Classical.byContradiction fun h1 => e ⟨y, List.mem_range.1 hy, Nat.le_of_lt (List.mem_range.1 hy), h1⟩
      rw [hnone]
      cases hv : f x with
      | none => exact absurd hv hf
      | some v => exact ⟨x, v, Nat.le_refl _, hv, by simp [List.findSome?, hv]⟩
theorem lsr_good : ∀ (k : Nat) (told : List Nat) (has : List Int) (r : List Nat), lsr ob n h k told has = some r → r.length = k ∧ lcont ob n h told has r := by
  intro k
  induction k with
  | zero => intro told has r h1; unfold lsr at h1; cases h1; exact ⟨rfl, trivial⟩
  | succ k ih =>
    intro told has r h1
    unfold lsr at h1
    obtain ⟨i, hi, h2⟩ := List.exists_of_findSome?_eq_some h1
    split at h2
    · rename_i e
      cases hb : lsr ob n h k (told ++ [i]) (lgets ob (h.kd i) (h.ar i) has).1 with
      | none => rw [hb] at h2; cases h2
      | some r' =>
        rw [hb] at h2
        have er : i :: r' = r := Option.some.inj h2
        subst er
        obtain ⟨h3, h4⟩ := ih _ _ _ hb
        exact ⟨by rw [List.length_cons, h3], List.mem_range.1 hi, e, h4⟩
    · cases h2
theorem lsr_least : ∀ (k : Nat) (told : List Nat) (has : List Int) (r' : List Nat), r'.length = k → lcont ob n h told has r' → ∃ r, lsr ob n h k told has = some r ∧ lexle r r' := by
  intro k
  induction k with
  | zero => intro told has r' _ _; exact ⟨[], rfl, trivial⟩
  | succ k ih =>
    intro told has r' hk hc
    cases r' with
    | nil => cases hk
    | cons x q =>
      obtain ⟨h1, h2, h3⟩ := hc
      obtain ⟨r, hr, hr2⟩ := ih _ _ q (by simpa using hk) h3
      obtain ⟨i, v, h4, h5, h6⟩ := findSome_first (f := fun i => if lnext ob n h told has i then (lsr ob n h k (told ++ [i]) (lgets ob (h.kd i) (h.ar i) has).1).map (i :: ·) else none) h1 (by
        rw [if_pos h2, hr]; exact fun e => by cases e)
      refine ⟨v, h6, ?_⟩
      split at h5
      · cases hb : lsr ob n h k (told ++ [i]) (lgets ob (h.kd i) (h.ar i) has).1 with
        | none => rw [hb] at h5; cases h5
        | some r2 =>
          rw [hb] at h5
          have ev : i :: r2 = v := Option.some.inj h5
          rw [← ev]
          by_cases e : i = x
          · subst e
            rw [hr] at hb
            rw [← Option.some.inj hb]
            exact Or.inr ⟨rfl, hr2⟩
          · exact Or.inl (by omega)
      · cases h5
/-- Good rows are those that go on from the beginning. -/
theorem lcont_of : ∀ (r told : List Nat) (has : List Int), (told ++ r).Nodup → (∀ i, i ∈ told ++ r ↔ i < n) → (told ++ r).Pairwise (fun a b => ¬ h.to b ≤ h.fr a) → (∀ i, i < n → ¬ h.to i ≤ h.fr i) → lgo ob h has r → lcont ob n h told has r
  | [], _, _, _, _, _, _, _ => trivial
  | i :: r, told, has, hn, ha, ho, hf, hg => by
    have e : told ++ i :: r = told ++ [i] ++ r := by simp
    refine ⟨(ha i).1 (by simp), ⟨fun hi => ?_, fun j hj hji => ?_, hg.1⟩, lcont_of r (told ++ [i]) _ (by rw [← e]; exact hn) (by rw [← e]; exact ha) (by rw [← e]; exact ho) hf hg.2⟩
    · rw [List.nodup_append] at hn
      exact hn.2.2 i hi i (by simp) rfl
    · rcases List.mem_append.1 ((ha j).2 hj) with h1 | h1
      · exact h1
      · exfalso
        rcases List.mem_cons.1 h1 with h2 | h2
        · rw [h2] at hji; exact hf i ((ha i).1 (by simp)) hji
        · rw [List.pairwise_append] at ho
          have h3 := ho.2.1
          rw [List.pairwise_cons] at h3
          exact h3.1 j h2 hji
theorem lgo_of : ∀ (r told : List Nat) (has : List Int), lcont ob n h told has r → lgo ob h has r
  | [], _, _, _ => trivial
  | _ :: r, _, _, hc => ⟨hc.2.1.2.2, lgo_of r _ _ hc.2.2⟩
theorem lcont_nod : ∀ (r told : List Nat) (has : List Int), told.Nodup → (∀ i, i ∈ told → i < n) → (∀ a, a ∈ told → ∀ j, j < n → h.to j ≤ h.fr a → j ∈ told) → told.Pairwise (fun a b => ¬ h.to b ≤ h.fr a) → lcont ob n h told has r → (told ++ r).Nodup ∧ (∀ i, i ∈ told ++ r → i < n) ∧ (told ++ r).Pairwise (fun a b => ¬ h.to b ≤ h.fr a)
  | [], _, _, h1, h2, _, h3, _ => by simp only [List.append_nil]; exact ⟨h1, h2, h3⟩
  | i :: r, told, has, h1, h2, hcl, h3, hc => by
    have e : told ++ i :: r = told ++ [i] ++ r := by simp
    rw [e]
    refine lcont_nod r (told ++ [i]) _ ?_ (fun j hj => ?_) (fun a ha j hj hja => ?_) ?_ hc.2.2
    · rw [List.nodup_append]
      exact ⟨h1, by simp, fun a ha b hb e2 => by
        have : b = i := by simpa using hb
        rw [e2, this] at ha
        exact hc.2.1.1 ha⟩
    · rcases List.mem_append.1 hj with h4 | h4
      · exact h2 j h4
      · have : j = i := by simpa using h4
        rw [this]; exact hc.1
    · refine List.mem_append_left _ ?_
      rcases List.mem_append.1 ha with h4 | h4
      · exact hcl a h4 j hj hja
      · have : a = i := by simpa using h4
        rw [this] at hja
        exact hc.2.1.2.1 j hj hja
    · rw [List.pairwise_append]
      refine ⟨h3, by simp, fun a ha b hb hba => ?_⟩
      have : b = i := by simpa using hb
      rw [this] at hba
      exact hc.2.1.1 (hcl a ha i hc.1 hba)
theorem len_all {l : List Nat} (hn : l.Nodup) (hl : ∀ i, i ∈ l ↔ i < n) : l.length = n := by
  have h1 : l.Perm (List.range n) := (List.perm_ext_iff_of_nodup hn List.nodup_range).2 fun i => by rw [hl, List.mem_range]
  rw [h1.length_eq, List.length_range]
theorem LGood.cont {L : List Nat} (g : LGood ob n h L) (hf : ∀ i, i < n → ¬ h.to i ≤ h.fr i) : L.length = n ∧ lcont ob n h [] (linit ob) L :=
  ⟨len_all g.nod g.all, lcont_of L [] _ g.nod g.all g.ord hf g.go⟩
theorem LGood.of {L : List Nat} (hl : L.length = n) (hc : lcont ob n h [] (linit ob) L) : LGood ob n h L := by
  obtain ⟨h1, h2, h3⟩ := lcont_nod L [] _ List.nodup_nil (fun _ hi => by cases hi) (fun _ ha => by cases ha) List.Pairwise.nil hc
  rw [List.nil_append] at h1 h2 h3
  refine ⟨h1, fun i => ⟨h2 i, fun hi => ?_⟩, h3, lgo_of L [] _ hc⟩
  apply Classical.byContradiction
  intro hno
  have h4 : (i :: L).Nodup := List.nodup_cons.2 ⟨hno, h1⟩
  have h5 := pigeon n (i :: L).length (fun j => (i :: L).getD j 0) (fun j hj => by
    rw [List.getD_eq_getElem?_getD, List.getElem?_eq_getElem hj]
    rcases List.mem_cons.1 (List.getElem_mem hj) with e | e
    · rw [Option.getD_some, e]; exact hi
    · exact h2 _ e) (fun a b ha hb e => by
    rw [List.getD_eq_getElem?_getD, List.getD_eq_getElem?_getD, List.getElem?_eq_getElem ha, List.getElem?_eq_getElem hb] at e
    exact (List.getElem_inj h4).1 e)
  rw [List.length_cons, hl] at h5
  omega
/-- What is told: a good row, none ahead of it; none, if no row is good. -/
def lrow (ob n : Nat) (h : LOps) : Option (List Nat) := lsr ob n h n [] (linit ob)
theorem lrow_good {L : List Nat} (e : lrow ob n h = some L) : LGood ob n h L := by
  obtain ⟨h1, h2⟩ := lsr_good n [] (linit ob) L e
  exact LGood.of h1 h2
theorem lrow_least {L : List Nat} (g : LGood ob n h L) (hf : ∀ i, i < n → ¬ h.to i ≤ h.fr i) : ∃ L', lrow ob n h = some L' ∧ lexle L' L := by
  obtain ⟨h1, h2⟩ := g.cont hf
  exact lsr_least n [] (linit ob) L h1 h2
/-- What took longer may have happened as well. -/
theorem LGood.wide {L : List Nat} (g : LGood ob n h L) {h' : LOps} (hk : h'.kd = h.kd) (ha : h'.ar = h.ar) (hg : h'.gt = h.gt) (hfr : ∀ i, i < n → h'.fr i ≤ h.fr i) (hto : ∀ i, i < n → h.to i ≤ h'.to i) : LGood ob n h' L := by
  have hgo : ∀ (r : List Nat) (has : List Int), lgo ob h has r → lgo ob h' has r := fun r => by
    induction r with
    | nil => intro _ _; trivial
    | cons i r ih =>
      intro has h1
      unfold lgo at h1 ⊢
      rw [hk, ha, hg]
      exact ⟨h1.1, ih _ h1.2⟩
  refine ⟨g.nod, g.all, ?_, hgo _ _ g.go⟩
  refine List.Pairwise.imp_of_mem ?_ g.ord
  intro a b ha2 hb2 h1 h2
  have := hfr a ((g.all a).1 ha2)
  have := hto b ((g.all b).1 hb2)
  exact h1 (by omega)
theorem lgo_map {h' : LOps} {f : Nat → Nat} : ∀ (r : List Nat) (has : List Int), (∀ i, i ∈ r → h'.kd i = h.kd (f i) ∧ h'.ar i = h.ar (f i) ∧ h'.gt i = h.gt (f i)) → (lgo ob h' has r ↔ lgo ob h has (r.map f))
  | [], _, _ => Iff.rfl
  | i :: r, has, he => by
    obtain ⟨h1, h2, h3⟩ := he i (by simp)
    show _ ∧ _ ↔ _ ∧ _
    rw [h1, h2, h3, lgo_map r _ fun j hj => he j (List.mem_cons_of_mem _ hj)]
theorem lgo_front : ∀ (a b : List Nat) (has : List Int), lgo ob h has (a ++ b) → lgo ob h has a
  | [], _, _, _ => trivial
  | _ :: a, b, _, h1 => ⟨h1.1, lgo_front a b _ h1.2⟩
/-- The first ones of a good row, numbered anew, are a good row of those. -/
theorem LGood.part {A B : List Nat} (g : LGood ob n h (A ++ B)) {m : Nat} {h' : LOps} {f k : Nat → Nat} (hA : ∀ x, x ∈ A ↔ ∃ i, i < m ∧ f i = x) (hk : ∀ i, i < m → k (f i) = i) (he : ∀ i, i < m → h'.kd i = h.kd (f i) ∧ h'.ar i = h.ar (f i) ∧ h'.gt i = h.gt (f i) ∧ h'.fr i = h.fr (f i) ∧ h'.to i = h.to (f i)) : LGood ob m h' (A.map k) := by
  have hfk : ∀ x, x ∈ A → f (k x) = x ∧ k x < m := fun x hx => by
    obtain ⟨i, hi, e⟩ := (hA x).1 hx
    rw [← e, hk i hi]; exact ⟨rfl, hi⟩
  have hnd := g.nod
  rw [List.nodup_append] at hnd
  have hord := g.ord
  rw [List.pairwise_append] at hord
  have hback : (A.map k).map f = A := by
    rw [List.map_map]
    conv => rhs; rw [← List.map_id A]
    exact List.map_congr_left fun x hx => (hfk x hx).1
  refine ⟨?_, fun i => ⟨fun hi => ?_, fun hi => ?_⟩, ?_, ?_⟩
  · show (A.map k).Pairwise (· ≠ ·)
    rw [List.pairwise_map]
    refine List.Pairwise.imp_of_mem ?_ hnd.1
    intro a b ha hb h1 h2
    exact h1 (by rw [← (hfk a ha).1, ← (hfk b hb).1, h2])
  · obtain ⟨x, hx, e⟩ := List.mem_map.1 hi
    rw [← e]; exact (hfk x hx).2
  · exact List.mem_map.2 ⟨f i, (hA _).2 ⟨i, hi, rfl⟩, hk i hi⟩
  · rw [List.pairwise_map]
    refine List.Pairwise.imp_of_mem ?_ hord.1
    intro a b ha hb h1 h2
    have ea := hfk a ha
    have eb := hfk b hb
    rw [(he _ eb.2).2.2.2.2, (he _ ea.2).2.2.2.1, ea.1, eb.1] at h2
    exact h1 h2
  · rw [lgo_map (f := f) (h := h) (A.map k) (linit ob) fun i hi => by
      obtain ⟨x, hx, e⟩ := List.mem_map.1 hi
      have := he i (by rw [← e]; exact (hfk x hx).2)
      exact ⟨this.1, this.2.1, this.2.2.1⟩, hback]
    exact lgo_front A B _ g.go
end
end Go.Proofs.Ytimdhnjkjflbdaa
