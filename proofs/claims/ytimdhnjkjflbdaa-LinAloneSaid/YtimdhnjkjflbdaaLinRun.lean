import Derived.Test.YtimdhnjkjflbdaaLinMath
import Derived.Test.YtimdhnjkjflbdaaElcMath
/-
  Chapter 19 as plain mathematics: while ops run each happens at one time; when all are over that is a good row.
-/
namespace Go.Proofs.Ytimdhnjkjflbdaa

/-- m ops began; dn: over; L: those that happened, in order; st: what is in the object. -/
structure LRn where
  m : Nat
  h : LOps
  dn : Nat → Bool
  L : List Nat
  st : List Int
def lrnew (ob : Nat) : LRn := ⟨0, ⟨fun _ => 0, fun _ => 0, fun _ => 0, fun _ => 0, fun _ => 0⟩, fun _ => false, [], linit ob⟩
/-- An op begins; happens; is over. -/
def lrbegin (s : LRn) (k : Nat) (a T : Int) : LRn := { s with m := s.m + 1, h := { s.h with kd := eup s.h.kd s.m k, ar := eup s.h.ar s.m a, fr := eup s.h.fr s.m T }, dn := eup s.dn s.m false }
def lrlin (ob : Nat) (s : LRn) (i : Nat) : LRn := { s with h := { s.h with gt := eup s.h.gt i (lgets ob (s.h.kd i) (s.h.ar i) s.st).2 }, L := s.L ++ [i], st := (lgets ob (s.h.kd i) (s.h.ar i) s.st).1 }
def lrdone (s : LRn) (i : Nat) (T : Int) : LRn := { s with h := { s.h with to := eup s.h.to i T }, dn := eup s.dn i true }
/-- What is in, behind a row. -/
def lend (ob : Nat) (h : LOps) (has : List Int) : List Nat → List Int
  | [] => has
  | i :: r => lend ob h (lgets ob (h.kd i) (h.ar i) has).1 r
structure LROk (ob : Nat) (s : LRn) : Prop where
  low : ∀ i, i ∈ s.L → i < s.m
  nod : s.L.Nodup
  dnL : ∀ i, i < s.m → s.dn i = true → i ∈ s.L
  go : lgo ob s.h (linit ob) s.L
  end_ : lend ob s.h (linit ob) s.L = s.st
  ord : s.L.Pairwise fun a b => s.dn b = true → ¬ s.h.to b ≤ s.h.fr a
section
variable {ob i : Nat} {s : LRn}
theorem lrnew_ok (ob : Nat) : LROk ob (lrnew ob) := ⟨fun _ h => (by cases h), List.nodup_nil, fun _ h => absurd h (Nat.not_lt_zero _), trivial, rfl, List.Pairwise.nil⟩
theorem lgo_same {h h' : LOps} : ∀ (r : List Nat) (has : List Int), (∀ i, i ∈ r → h'.kd i = h.kd i ∧ h'.ar i = h.ar i ∧ h'.gt i = h.gt i) → (lgo ob h' has r ↔ lgo ob h has r) ∧ lend ob h' has r = lend ob h has r
  | [], _, _ => ⟨Iff.rfl, rfl⟩
  | i :: r, has, he => by
    obtain ⟨h1, h2, h3⟩ := he i (by simp)
    have h4 := lgo_same r (lgets ob (h.kd i) (h.ar i) has).1 fun j hj => he j (List.mem_cons_of_mem _ hj)
    unfold lgo lend
    rw [h1, h2, h3]
    exact ⟨and_congr Iff.rfl h4.1, h4.2⟩
theorem lgo_snoc {h : LOps} : ∀ (r : List Nat) (has : List Int), lgo ob h has (r ++ [i]) ↔ lgo ob h has r ∧ (lgets ob (h.kd i) (h.ar i) (lend ob h has r)).2 = h.gt i
  | [], has => ⟨fun h1 => ⟨trivial, h1.1⟩, fun h1 => ⟨h1.2, trivial⟩⟩
  | j :: r, has => by
    have h1 := lgo_snoc (h := h) r (lgets ob (h.kd j) (h.ar j) has).1
    exact (and_congr Iff.rfl h1).trans and_assoc.symm
theorem lend_snoc {h : LOps} : ∀ (r : List Nat) (has : List Int), lend ob h has (r ++ [i]) = (lgets ob (h.kd i) (h.ar i) (lend ob h has r)).1
  | [], _ => rfl
  | _ :: r, _ => lend_snoc r _
theorem LROk.begin (h : LROk ob s) (k : Nat) (a T : Int) : LROk ob (lrbegin s k a T) := by
  have hne : ∀ j, j ∈ s.L → j ≠ s.m := fun j hj e => by have := h.low j hj; omega
  have hs := lgo_same (ob := ob) (h := s.h) (h' := (lrbegin s k a T).h) s.L (linit ob) fun j hj => ⟨eup_other (hne j hj), eup_other (hne j hj), rfl⟩
  refine ⟨fun j hj => Nat.lt_succ_of_lt (h.low j hj), h.nod, fun j hj hd => ?_, hs.1.2 h.go, hs.2.trans h.end_, ?_⟩
  · have hd' : eup s.dn s.m false j = true := hd
    have hj' : j < s.m + 1 := hj
    by_cases e : j = s.m
    · rw [e, eup_same] at hd'; cases hd'
    · rw [eup_other e] at hd'; exact h.dnL j (by omega) hd'
  · refine List.Pairwise.imp_of_mem ?_ h.ord
    intro x y hx hy h1 h2
    have h2' : eup s.dn s.m false y = true := h2
    rw [eup_other (hne y hy)] at h2'
    show ¬ s.h.to y ≤ eup s.h.fr s.m T x
    rw [eup_other (hne x hx)]
    exact h1 h2'
theorem LROk.lin (h : LROk ob s) (hi : i < s.m) (hno : i ∉ s.L) : LROk ob (lrlin ob s i) := by
  have hne : ∀ j, j ∈ s.L → j ≠ i := fun j hj e => hno (e ▸ hj)
  have hnd : s.dn i ≠ true := fun e => hno (h.dnL i hi e)
  have hs := lgo_same (ob := ob) (h := s.h) (h' := (lrlin ob s i).h) s.L (linit ob) fun j hj => ⟨rfl, rfl, eup_other (hne j hj)⟩
  refine ⟨fun j hj => ?_, ?_, fun j hj hd => List.mem_append_left _ (h.dnL j hj hd), ?_, ?_, ?_⟩
  · rcases List.mem_append.1 hj with h1 | h1
    · exact h.low j h1
    · have : j = i := by simpa using h1
      rw [this]; exact hi
  · show (s.L ++ [i]).Nodup
    rw [List.nodup_append]
    exact ⟨h.nod, by simp, fun x hx y hy e => by
      have : y = i := by simpa using hy
      exact hne x hx (e.trans this)⟩
  · show lgo ob (lrlin ob s i).h (linit ob) (s.L ++ [i])
    rw [lgo_snoc]
    refine ⟨hs.1.2 h.go, ?_⟩
    rw [hs.2, h.end_]
    exact (eup_same _ _ _).symm
  · show lend ob (lrlin ob s i).h (linit ob) (s.L ++ [i]) = _
    rw [lend_snoc, hs.2, h.end_]; rfl
  · show (s.L ++ [i]).Pairwise _
    rw [List.pairwise_append]
    refine ⟨h.ord, by simp, fun x _ y hy h2 => ?_⟩
    have : y = i := by simpa using hy
    rw [this] at h2
    exact absurd h2 hnd
theorem LROk.done (h : LROk ob s) (hi : i ∈ s.L) (hnd : s.dn i = false) {T : Int} (hT : ∀ a, a < s.m → s.h.fr a < T) : LROk ob (lrdone s i T) := by
  have hs := lgo_same (ob := ob) (h := s.h) (h' := (lrdone s i T).h) s.L (linit ob) fun j _ => ⟨rfl, rfl, rfl⟩
  have _ := hnd
  refine ⟨h.low, h.nod, fun j hj hd => ?_, hs.1.2 h.go, hs.2.trans h.end_, ?_⟩
  · have hd' : eup s.dn i true j = true := hd
    by_cases e : j = i
    · rw [e]; exact hi
    · rw [eup_other e] at hd'; exact h.dnL j hj hd'
  · refine List.Pairwise.imp_of_mem ?_ h.ord
    intro x y hx hy h1 h2
    have h2' : eup s.dn i true y = true := h2
    show ¬ eup s.h.to i T y ≤ s.h.fr x
    by_cases e : y = i
    · rw [e, eup_same]
      have := hT x (h.low x hx)
      omega
    · rw [eup_other e]
      rw [eup_other e] at h2'
      exact h1 h2'
/-- All are over: a good row. -/
theorem LROk.all (h : LROk ob s) (hd : ∀ i, i < s.m → s.dn i = true) : LGood ob s.m s.h s.L :=
  ⟨h.nod, fun i => ⟨h.low i, fun hi => h.dnL i hi (hd i hi)⟩, List.Pairwise.imp_of_mem (fun {_ b} _ hb h1 => h1 (hd b (h.low b hb))) h.ord, h.go⟩
end
end Go.Proofs.Ytimdhnjkjflbdaa
