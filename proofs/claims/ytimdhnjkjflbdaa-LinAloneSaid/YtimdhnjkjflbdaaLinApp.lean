/-
  One op more in a history of the law's own: the law of the append.
-/
import Derived.Test.YtimdhnjkjflbdaaLinOps
namespace Go.Proofs.Ytimdhnjkjflbdaa.Lin
open Go.RowKit

theorem six_cells (W : World) (z : LO) : ∀ j u, z.cells[j]? = some u → (W.alloc (.cells #[.int .i64 z.hd, .int .i64 z.kd, .int .i64 z.ar, .int .i64 z.gt, .int .i64 z.fr, .int .i64 z.to] 34)).cell? ((⟨W.heap.size, 0, none⟩ : Addr).add j) = some u := by
  intro j u hj
  have hB := Block.made W 34 #[.int .i64 z.hd, .int .i64 z.kd, .int .i64 z.ar, .int .i64 z.gt, .int .i64 z.fr, .int .i64 z.to]
  rw [Addr.add_lit, Nat.zero_add, hB.cell, ← Array.getElem?_toList]
  exact hj
theorem wpList_append_op {ops : Array Oper} {rest : List Oper} {o : Oper} {a : Act} {Q : Exit → Act → World → Prop} (W : World) (hgd : o.guard = none) (s x : Operand)
    (ho : o.op = .call { callee := .builtin .append, args := #[s, x], argTypes := #[31, 31] }) (base : Nat) (v : Value) (l : List LO) (hs : a.eval s = v) (hx : a.eval x = .slice (some ⟨W.heap.size, 0, none⟩) 1 1) (z : LO)
    (hh : HG 34 W base v l) (hl : l.length ≤ 1000) (hb : base ≤ W.heap.size)
    (h : ∀ g cap w', HG 34 w' base (.slice (some ⟨g, 0, none⟩) (l.length + 1) cap) (l ++ [z]) → Touch (fun k => v.ownBlock = some k) W w' → wpList Try.prog ops Q rest (a.put o.dst (.slice (some ⟨g, 0, none⟩) (l.length + 1) cap)) w') :
    wpList Try.prog ops Q (o :: rest) a (W.alloc (.cells #[.int .i64 z.hd, .int .i64 z.kd, .int .i64 z.ar, .int .i64 z.gt, .int .i64 z.fr, .int .i64 z.to] 34)) := by
  obtain ⟨i0, hi0, hz0, hz1, hz2⟩ := info_parts Top.info
  refine wpList_append_lies _ hgd s x 31 ho base 34 i0 _ 6 48 Try.underlying31 hi0 hz0 hz1 hz2 rfl (by omega) v l.length (lcells l) hs (hh.alloc _).own ⟨W.heap.size, 0, none⟩ 1 1 z.cells hx (by rfl) (six_cells W z) (by intro u hu; simp [LO.cells] at hu; rcases hu with e | e | e | e | e | e <;> subst e <;> rfl) (by omega) (by unfold maxLen; omega) (by omega) (by simp; omega) (W.heap.size + 1) (by simp) ?_
  intro g cap w' hown hgrow _ _
  obtain ⟨h1, h2⟩ := hh.app (z := z) hown rfl rfl hgrow
  exact h g cap w' h1 h2
end Go.Proofs.Ytimdhnjkjflbdaa.Lin
