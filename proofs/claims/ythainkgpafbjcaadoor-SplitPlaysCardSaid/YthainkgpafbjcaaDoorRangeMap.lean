/-
  Lists out of a function of the places below n. Plain mathematics: it imports nothing of the translation.
-/
namespace Go.Proofs.YthainkgpafbjcaaDoor

theorem range_get {α : Type} (f : Nat → α) {n p : Nat} (h : p < n) : ((List.range n).map f)[p]? = some (f p) := by simp [h]
theorem range_set {α : Type} (f g : Nat → α) (n p : Nat) (x : α) (hp : g p = x) (ho : ∀ q, q ≠ p → g q = f q) : ((List.range n).map f).set p x = (List.range n).map g := by
  apply List.ext_getElem?
  intro i
  by_cases hi : i < n
  · by_cases e : p = i
    · subst e
      rw [List.getElem?_set_self (by simpa using hi), range_get g hi, hp]
    · rw [List.getElem?_set_ne e, range_get f hi, range_get g hi, ho i (fun h => e h.symm)]
  · rw [List.getElem?_eq_none (by simp; omega), List.getElem?_eq_none (by simp; omega)]
end Go.Proofs.YthainkgpafbjcaaDoor
