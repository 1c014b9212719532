/-
  All states that steps lead to, found one by one; what is asked of them is asked of each. Plain mathematics: it imports nothing of the translation.
-/
namespace Go.Proofs.YtjldbgecfongfaaDoor

/-- All that comes of what is to do, by so many looks. -/
def closeL {α : Type} [BEq α] (next : α → List α) : Nat → List α → List α → List α
  | 0, _, known => known
  | _ + 1, [], known => known
  | n + 1, x :: r, known =>
    let new := (next x).foldl (fun a y => if known.contains y || a.contains y then a else a ++ [y]) []
    closeL next n (r ++ new) (known ++ new)

theorem foldl_mem {α : Type} {P : α → Prop} {σ : Type} (f : α → σ → α) (h : ∀ a s, P a → P (f a s)) : ∀ (l : List σ) (a : α), P a → P (l.foldl f a)
  | [], _, ha => ha
  | s :: r, a, ha => foldl_mem f h r (f a s) (h a s ha)
end Go.Proofs.YtjldbgecfongfaaDoor
