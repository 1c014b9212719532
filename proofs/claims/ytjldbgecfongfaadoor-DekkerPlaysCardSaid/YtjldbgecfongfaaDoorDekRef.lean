/-
  The reference's step of a lock for two.
-/
import Derived.Test.YtjldbgecfongfaaDoorMach
import Derived.Test.YtjldbgecfongfaaDoorDekMath
import Derived.Deep.DeepCutAuto
namespace Go.Proofs.YtjldbgecfongfaaDoor
open Go.RowKit

/-- What is told at block h + 1: a machine out of new blocks, or of those that were. -/
theorem MBox.mcs {w V W : World} {h : Nat} {n : Int} {x1 x2 x3 : Value} {ws ls : List Int} {P P' : Nat → Prop} (hP : ∀ b, P b → b < w.heap.size) (m : MBox w V h n x1 x2 x3 ws ls) (hP' : ∀ b, P' b → P b ∨ (V.heap.size ≤ b ∧ b < W.heap.size)) {v : Value} {ws' ls' : List Int} {os' : List (List Int)} (h' : Mc W P' n v ws' ls' os') (z : Int) (y1 y2 y3 : Value) :
    Mc ((((W.setCell ⟨h + 1, 0, none⟩ (.int .i64 z)).setCell ⟨h + 1, 1, none⟩ y1).setCell ⟨h + 1, 2, none⟩ y2).setCell ⟨h + 1, 3, none⟩ y3) (New P w ((((W.setCell ⟨h + 1, 0, none⟩ (.int .i64 z)).setCell ⟨h + 1, 1, none⟩ y1).setCell ⟨h + 1, 2, none⟩ y2).setCell ⟨h + 1, 3, none⟩ y3)) n v ws' ls' os' :=
  m.mc hP (h'.keep (P' := New P V W) (fun b hb => hP' b hb) fun _ _ => rfl) z y1 y2 y3
theorem New.two {P : Nat → Prop} {a b c : World} (h1 : a.heap.size ≤ b.heap.size) (h2 : b.heap.size ≤ c.heap.size) : ∀ x, New (New P a b) b c x → P x ∨ (a.heap.size ≤ x ∧ x < c.heap.size) :=
  fun _ hx => hx.elim (fun hx => hx.elim Or.inl fun hx => Or.inr ⟨hx.1, Nat.lt_of_lt_of_le hx.2 h2⟩) fun hx => Or.inr ⟨Nat.le_trans h1 hx.1, hx.2⟩
theorem mc_form {w : World} {P : Nat → Prop} {n : Int} {v : Value} {ws ls : List Int} {os : List (List Int)} (h : Mc w P n v ws ls os) : ∃ A1 c1 A2 c2 A3 c3, v = .agg #[.int .i64 n, .slice A1 ws.length c1, .slice A2 ls.length c2, .slice A3 os.length c3] := by
  obtain ⟨wv, av, ov, rfl, ⟨A1, c1, rfl, _⟩, ⟨A2, c2, rfl, _⟩, ⟨A3, c3, rfl, _⟩⟩ := h
  exact ⟨_, _, _, _, _, _, rfl⟩
theorem wrap3 : IntKind.i64.wrap 1 = 1 ∧ IntKind.i64.wrap 0 = 0 := by decide

end Go.Proofs.YtjldbgecfongfaaDoor
