import Derived.Test.YtimdhnjkjflbdaaLinSpec
/-
  Chapter 19 as plain mathematics, on: what is done one by one (hs: by which hand).
-/
namespace Go.Proofs.Ytimdhnjkjflbdaa

/-- What is in behind i ops of one hand. -/
def las (ob : Nat) (ks as : Nat → Int) : Nat → List Int
  | 0 => linit ob
  | i + 1 => (lgets ob (ks i).toNat (as i) (las ob ks as i)).1
/-- The op at place i. -/
def lao (ob : Nat) (hs ks as : Nat → Int) (i : Nat) : LO := ⟨hs i, ks i, as i, (lgets ob (ks i).toNat (as i) (las ob ks as i)).2, 2 * i, 2 * i + 1⟩
def lah (ob : Nat) (hs ks as : Nat → Int) (m : Nat) : List LO := (List.range m).map (lao ob hs ks as)
section
variable {ob : Nat} {hs ks as : Nat → Int} {m i : Nat}
theorem lah_len : (lah ob hs ks as m).length = m := by unfold lah; simp
theorem lah_succ : lah ob hs ks as (m + 1) = lah ob hs ks as m ++ [lao ob hs ks as m] := by unfold lah; rw [List.range_succ, List.map_append]; rfl
theorem lah_at (hi : i < m) : lat (lah ob hs ks as m) i = lao ob hs ks as i := by
  rw [lat_lt (by rw [lah_len]; exact hi)]; unfold lah; simp
theorem headD_le {l : List Int} {B : Int} (h : ∀ x, x ∈ l → 0 ≤ x ∧ x ≤ B) (hB : 0 ≤ B) : 0 ≤ l.headD 0 ∧ l.headD 0 ≤ B := by
  cases l with
  | nil => exact ⟨Int.le_refl _, hB⟩
  | cons a l => exact h a (by simp)
theorem lastD_le {l : List Int} {B : Int} (h : ∀ x, x ∈ l → 0 ≤ x ∧ x ≤ B) (hB : 0 ≤ B) : 0 ≤ l.getLastD 0 ∧ l.getLastD 0 ≤ B := by
  rw [List.getLastD_eq_getLast?]
  cases e : l.getLast? with
  | none => exact ⟨Int.le_refl _, hB⟩
  | some a => exact h a (List.mem_of_getLast? e)
/-- What is got, and what is in then, is bounded. -/
theorem lgets_le {k : Nat} {a B : Int} {has : List Int} (h : ∀ x, x ∈ has → 0 ≤ x ∧ x ≤ B) (hB : 0 ≤ B) (ha : 0 ≤ a ∧ a ≤ 1000) :
    (∀ x, x ∈ (lgets ob k a has).1 → 0 ≤ x ∧ x ≤ B + 1000) ∧ -1 ≤ (lgets ob k a has).2 ∧ (lgets ob k a has).2 ≤ B := by
  have h1 := headD_le h hB
  have h2 := lastD_le h hB
  unfold lgets
  split
  · split
    · refine ⟨fun x hx => ?_, by dsimp only; omega, by dsimp only; omega⟩
      have : x = has.headD 0 + a := by simpa using hx
      omega
    · exact ⟨fun x hx => by have := h x hx; omega, by dsimp only; omega, by dsimp only; omega⟩
  · split
    · refine ⟨fun x hx => ?_, by dsimp only; omega, by dsimp only; omega⟩
      rcases List.mem_append.1 hx with h3 | h3
      · have := h x h3; omega
      · have : x = a := by simpa using h3
        omega
    · split
      · exact ⟨fun x hx => by have := h x hx; omega, by dsimp only; omega, by dsimp only; omega⟩
      · split
        · exact ⟨fun x hx => by have := h x ((List.dropLast_sublist has).subset hx); omega, by dsimp only; omega, by dsimp only; omega⟩
        · exact ⟨fun x hx => by have := h x ((List.tail_sublist has).subset hx); omega, by dsimp only; omega, by dsimp only; omega⟩
theorem las_le (h : ∀ j, j < i → 0 ≤ as j ∧ as j ≤ 1000) : ∀ x, x ∈ las ob ks as i → 0 ≤ x ∧ x ≤ 1000 * i := by
  induction i with
  | zero =>
    intro x hx
    unfold las linit at hx
    split at hx
    · have : x = 0 := by simpa using hx
      omega
    · cases hx
  | succ i ih =>
    intro x hx
    have h1 := (lgets_le (ob := ob) (k := (ks i).toNat) (ih fun j hj => h j (by omega)) (by omega) (h i (by omega))).1 x hx
    omega
theorem lah_fine (ho : ob ≤ 2) (hm : m ≤ 8) (hh : ∀ j, j < m → 0 ≤ hs j ∧ hs j ≤ 3) (hk : ∀ j, j < m → 0 ≤ ks j ∧ ks j ≤ 1) (ha : ∀ j, j < m → 0 ≤ as j ∧ as j ≤ 1000) : LFine (ob : Int) (lah ob hs ks as m) := by
  refine ⟨by omega, by omega, by rw [lah_len]; exact hm, fun i hi => ?_, fun i hi => ?_, fun i j hi hj c => ?_⟩
  · rw [lah_len] at hi
    rw [lah_at hi]
    have h1 := lgets_le (ob := ob) (k := (ks i).toNat) (las_le (ob := ob) (ks := ks) (i := i) fun j hj => ha j (by omega)) (by omega) (ha i hi)
    have h2 := hk i hi
    have h3 := ha i hi
    have h4 := hh i hi
    unfold LO.inb lao
    dsimp only
    omega
  · rw [lah_len] at hi
    rw [lah_at hi]
    unfold lao
    dsimp only
    omega
  · rw [lah_len] at hi
    rw [lah_at hi, lah_at (by omega)] at c
    have h1 := c.2.2
    unfold lao at h1
    dsimp only at h1
    omega
theorem lah_has : ∀ {k : Nat}, k ≤ m → lhas ob (lah ob hs ks as m) (List.range m) k = las ob ks as k
  | 0, _ => rfl
  | k + 1, hk => by
    rw [lhas_succ (by simp; omega), lah_has (by omega), List.getElem_range]
    show (lgets ob (lat (lah ob hs ks as m) k).kd.toNat (lat (lah ob hs ks as m) k).ar _).1 = _
    rw [lah_at (by omega)]
    rfl
theorem lah_good (h : True := trivial) : LGood ob (lah ob hs ks as m).length (hops (lah ob hs ks as m)) (List.range m) := by
  have _ := h
  rw [lgood_iff]
  refine ⟨by rw [lah_len, List.length_range], fun k hk => ⟨?_, fun j hj hne => ?_, fun j hj hkj => ?_, ?_⟩⟩
  · rw [List.getElem_range, lah_len]; simpa using hk
  · rw [List.getElem_range, List.getElem_range]; exact hne
  · rw [List.length_range] at hj hk
    rw [List.getElem_range, List.getElem_range, lah_at hj, lah_at hk]
    unfold lao
    dsimp only
    omega
  · rw [List.length_range] at hk
    rw [lah_has (by omega), List.getElem_range]
    show (lgets ob (lat (lah ob hs ks as m) k).kd.toNat (lat (lah ob hs ks as m) k).ar _).2 = (lat (lah ob hs ks as m) k).gt
    rw [lah_at hk]
    rfl
/-- What one does alone happens as it does. -/
theorem lah_row (ho : ob ≤ 2) (hm : m ≤ 8) (hh : ∀ j, j < m → 0 ≤ hs j ∧ hs j ≤ 3) (hk : ∀ j, j < m → 0 ≤ ks j ∧ ks j ≤ 1) (ha : ∀ j, j < m → 0 ≤ as j ∧ as j ≤ 1000) : lans (ob : Int) (lah ob hs ks as m) = some (List.range m) := by
  have f := lah_fine ho hm hh hk ha
  obtain ⟨L, h1, _⟩ := lrow_some f (lah_good (m := m) (hs := hs) (ks := ks) (as := as))
  rw [h1]
  rw [lans_fine f] at h1
  have g := lrow_good h1
  rw [show ((ob : Int).toNat) = ob from rfl] at g
  have hall : ∀ i, i ∈ L ↔ i < m := fun i => by have := g.all i; rwa [lah_len] at this
  congr 1
  refine List.Perm.eq_of_pairwise (le := (· < ·)) (fun a b _ _ h2 h3 => absurd h2 (by omega)) ?_ List.pairwise_lt_range ((List.perm_ext_iff_of_nodup g.nod List.nodup_range).2 fun i => by rw [hall, List.mem_range])
  have hne := g.nod
  rw [List.Nodup, List.pairwise_iff_getElem] at hne
  have ho := g.ord
  rw [List.pairwise_iff_getElem] at ho ⊢
  intro a b ha hb hab
  have h2 := ho a b ha hb hab
  have h3 := hne a b ha hb hab
  have h4 := (hall _).1 (List.getElem_mem ha)
  have h5 := (hall _).1 (List.getElem_mem hb)
  have h6 : ¬ (lat (lah ob hs ks as m) L[b]).to ≤ (lat (lah ob hs ks as m) L[a]).fr := h2
  rw [lah_at h4, lah_at h5] at h6
  unfold lao at h6
  dsimp only at h6
  omega
end
end Go.Proofs.Ytimdhnjkjflbdaa
