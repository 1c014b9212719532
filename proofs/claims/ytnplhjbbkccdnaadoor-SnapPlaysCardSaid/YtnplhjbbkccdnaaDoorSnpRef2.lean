/-
  The reference of package snap: what BeginBoard answers.
-/
import Derived.Test.YtnplhjbbkccdnaaDoorSnpRS
import Derived.Test.YtnplhjbbkccdnaaDoorSnpRef
namespace Go.Proofs.YtnplhjbbkccdnaaDoor.Snap
open Go.RowKit

/-- A row of n things, each as G says; of numbers; of truths. -/
def sl (n : Nat) (G : Nat → Pd) : Pd := SL n ((List.range n).map G)
def nm (n : Nat) (f : Nat → Int) : Pd := sl n fun i => isInt (f i)
def bl (n : Nat) (f : Nat → Bool) : Pd := sl n fun i => isBool (f i)
theorem sl_stb {n : Nat} {G : Nat → Pd} (h : ∀ i, i < n → Stb (G i)) : Stb (sl n G) := SL_stb fun P hP => by
  obtain ⟨i, hi, rfl⟩ := List.mem_map.1 hP
  exact h i (List.mem_range.1 hi)
theorem nm_stb (n : Nat) (f : Nat → Int) : Stb (nm n f) := sl_stb fun _ _ => isInt_stb _
theorem bl_stb (n : Nat) (f : Nat → Bool) : Stb (bl n f) := sl_stb fun _ _ => isBool_stb _
theorem sl_len (n : Nat) (G : Nat → Pd) : ((List.range n).map G).length = n := by simp
theorem sl_get {n i : Nat} (G : Nat → Pd) (h : i < n) : ((List.range n).map G)[i]? = some (G i) := by simp [h]
theorem sl_set {n i : Nat} (G : Nat → Pd) (P : Pd) : ((List.range n).map G).set i P = (List.range n).map (rput G i P) := by
  apply List.ext_getElem?
  intro j
  by_cases hj : j < n
  · rw [sl_get _ hj]
    by_cases e : i = j
    · subst e; rw [List.getElem?_set_self (by simpa using hj), rput_same]
    · rw [List.getElem?_set_ne e, sl_get _ hj, rput_other (fun h => e h.symm)]
  · rw [List.getElem?_eq_none (by simp; omega), List.getElem?_eq_none (by simp; omega)]
theorem mem_stb {n : Nat} {G : Nat → Pd} (h : ∀ i, i < n → Stb (G i)) : ∀ Q ∈ (List.range n).map G, Stb Q := fun Q hQ => by
  obtain ⟨i, hi, rfl⟩ := List.mem_map.1 hQ
  exact h i (List.mem_range.1 hi)
section
variable {F : Nat → Prop} {v : Value} {n i : Nat} {w : World}
theorem set_nm {f : Nat → Int} (z : Int) (hF : ∀ b, F b → b < w.heap.size) (h : nm n f F w v) (hi : i < n) (h8 : n ≤ 1000) :
    Calls Tryd.prog 27 #[v, .int .i64 i, .int .i64 z] w fun e w' => ∃ A c, e = .returned (.slice A n c) ∧ nm n (rput f i z) F w' (.slice A n c) ∧ Below w.heap.size w w' :=
  (set_sl (P := isInt z) w hF (mem_stb fun _ _ => isInt_stb _) (isInt_stb z) h (sl_len _ _) hi h8 rfl).mono fun _ _ ⟨A, c, he, hn, hb⟩ => ⟨A, c, he, by
    rw [sl_set] at hn
    have e : rput (fun i => isInt (f i)) i (isInt z) = fun j => isInt (rput f i z j) := funext fun j => by
      by_cases e : j = i
      · rw [e, rput_same, rput_same]
      · rw [rput_other e, rput_other e]
    rw [e] at hn
    exact hn, hb⟩
theorem reads_sl' {G : Nat → Pd} {P : Pd} {Ax : Option Addr} {mx cx : Nat} (hF : ∀ b, F b → b < w.heap.size) (hG : ∀ i, i < n → Stb (G i)) (hP : Stb P) (h : sl n G F w v) (hi : i < n) (h8 : n ≤ 1000) (hx : P F w (.slice Ax mx cx)) :
    Calls Tryd.prog 28 #[v, .int .i64 i, .slice Ax mx cx] w fun e w' => ∃ A c, e = .returned (.slice A n c) ∧ sl n (rput G i P) F w' (.slice A n c) ∧ Below w.heap.size w w' :=
  (reads_sl (P := P) w hF (mem_stb hG) hP h (sl_len _ _) hi h8 hx).mono fun _ _ ⟨A, c, he, hn, hb⟩ => ⟨A, c, he, by rw [sl_set] at hn; exact hn, hb⟩
theorem rows_sl' {G : Nat → Pd} {P : Pd} {Ax : Option Addr} {mx cx : Nat} (hF : ∀ b, F b → b < w.heap.size) (hG : ∀ i, i < n → Stb (G i)) (hP : Stb P) (h : sl n G F w v) (hi : i < n) (h8 : n ≤ 1000) (hx : P F w (.slice Ax mx cx)) :
    Calls Tryd.prog 29 #[v, .int .i64 i, .slice Ax mx cx] w fun e w' => ∃ A c, e = .returned (.slice A n c) ∧ sl n (rput G i P) F w' (.slice A n c) ∧ Below w.heap.size w w' :=
  (rows_sl (P := P) w hF (mem_stb hG) hP h (sl_len _ _) hi h8 hx).mono fun _ _ ⟨A, c, he, hn, hb⟩ => ⟨A, c, he, by rw [sl_set] at hn; exact hn, hb⟩
theorem rput_stb {G : Nat → Pd} {P : Pd} (hG : ∀ i, i < n → Stb (G i)) (hP : Stb P) : ∀ j, j < n → Stb (rput G i P j) := fun j hj => by
  by_cases e : j = i
  · rw [e, rput_same]; exact hP
  · rw [rput_other e]; exact hG j hj
theorem sl_at {G : Nat → Pd} {A : Option Addr} {m c : Nat} (h : sl n G F w (.slice A m c)) (hi : i < n) : ∃ b o, A = some ⟨b, o, none⟩ ∧ b < w.heap.size ∧ ¬ F b ∧ ∃ u, w.cell? ⟨b, o + i, none⟩ = some u ∧ G i F w u := SL.at_ h (sl_get G hi)
end
end Go.Proofs.YtnplhjbbkccdnaaDoor.Snap
