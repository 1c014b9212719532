/-
  The reference's machine in a box of its own, beside others.
-/
import Derived.Test.YthainkgpafbjcaaDoorMachMs
namespace Go.Proofs.YthainkgpafbjcaaDoor
open Go.RowKit

/-- In block m a machine is as the rows say; no row of it lies in m, or in a block of O. -/
structure MIn (wr : World) (O : Nat → Prop) (m : Nat) (n : Int) (x1 x2 x3 : Value) (ws ls : List Int) (os : List (List Int)) : Prop where
  blk : Block wr m 31 #[.int .i64 n, x1, x2, x3]
  far : ¬ O m
  low : ∀ b, O b → b < wr.heap.size
  mc : Mc wr (fun b => b ≠ m ∧ ¬ O b ∧ b < wr.heap.size) n (.agg #[.int .i64 n, x1, x2, x3]) ws ls os
section
variable {wr w' : World} {O : Nat → Prop} {m : Nat} {n : Int} {x1 x2 x3 : Value} {ws ls : List Int} {os : List (List Int)}
theorem MIn.cells (h : MIn wr O m n x1 x2 x3 ws ls os) :
    wr.cell? ⟨m, 0, none⟩ = some (.int .i64 n) ∧ wr.cell? ⟨m, 1, none⟩ = some x1 ∧ wr.cell? ⟨m, 2, none⟩ = some x2 ∧ wr.cell? ⟨m, 3, none⟩ = some x3 ∧ wr.frozen? ⟨m, 0, none⟩ = false ∧ wr.frozen? ⟨m, 1, none⟩ = false ∧ wr.frozen? ⟨m, 2, none⟩ = false ∧ wr.frozen? ⟨m, 3, none⟩ = false :=
  ⟨(h.blk.cell 0).trans rfl, (h.blk.cell 1).trans rfl, (h.blk.cell 2).trans rfl, (h.blk.cell 3).trans rfl, h.blk.free 0, h.blk.free 1, h.blk.free 2, h.blk.free 3⟩
theorem MIn.touch (h : MIn wr O m n x1 x2 x3 ws ls os) (ht : Touch O wr w') : MIn w' O m n x1 x2 x3 ws ls os :=
  ⟨h.blk.touch ht h.far, h.far, fun b hb => Nat.lt_of_lt_of_le (h.low b hb) ht.size, h.mc.keep (fun _ hb => ⟨hb.1, hb.2.1, Nat.lt_of_lt_of_le hb.2.2 ht.size⟩) fun _ hp => ht.cell hp.2.2 hp.2.1⟩
theorem MIn.below (h : MIn wr O m n x1 x2 x3 ws ls os) (hb : Below wr.heap.size wr w') : MIn w' O m n x1 x2 x3 ws ls os :=
  ⟨h.blk.below hb h.blk.lt, h.far, fun b hb' => Nat.lt_of_lt_of_le (h.low b hb') hb.size, h.mc.keep (fun _ hb' => ⟨hb'.1, hb'.2.1, Nat.lt_of_lt_of_le hb'.2.2 hb.size⟩) fun _ hp => hb.cell hp.2.2⟩
theorem MIn.lists (h : MIn wr O m n x1 x2 x3 ws ls os) : Nums wr wr.heap.size x1 ws ∧ Nums wr wr.heap.size x2 ls := by
  obtain ⟨wv, av, ov, e, h1, h2, _⟩ := h.mc
  injection e with e
  simp at e
  obtain ⟨rfl, rfl, rfl⟩ := e
  exact ⟨h1.nums fun _ hb => hb.2.2, h2.nums fun _ hb => hb.2.2⟩
theorem MIn.form (h : MIn wr O m n x1 x2 x3 ws ls os) : ∃ A1 c1 A2 c2 A3 c3, x1 = .slice A1 ws.length c1 ∧ x2 = .slice A2 ls.length c2 ∧ x3 = .slice A3 os.length c3 := by
  obtain ⟨wv, av, ov, e, ⟨A1, c1, e1, _⟩, ⟨A2, c2, e2, _⟩, ⟨A3, c3, e3, _⟩⟩ := h.mc
  injection e with e
  simp at e
  obtain ⟨rfl, rfl, rfl⟩ := e
  exact ⟨A1, c1, A2, c2, A3, c3, e1, e2, e3⟩
/-- The machine that a step told is put into its place. -/
theorem MIn.put {w3 : World} {y1 y2 y3 : Value} {ws' ls' : List Int} {os' : List (List Int)} (h : MIn wr O m n x1 x2 x3 ws ls os) (hb : Below wr.heap.size wr w3) (hmc : Mc w3 (New (fun b => b ≠ m ∧ ¬ O b ∧ b < wr.heap.size) wr w3) n (.agg #[.int .i64 n, y1, y2, y3]) ws' ls' os') :
    MIn ((((w3.setCell ⟨m, 0, none⟩ (.int .i64 n)).setCell ⟨m, 1, none⟩ y1).setCell ⟨m, 2, none⟩ y2).setCell ⟨m, 3, none⟩ y3) O m n y1 y2 y3 ws' ls' os' := by
  have hm := h.blk.lt
  have hs := hb.size
  have hz : ((((w3.setCell ⟨m, 0, none⟩ (.int .i64 n)).setCell ⟨m, 1, none⟩ y1).setCell ⟨m, 2, none⟩ y2).setCell ⟨m, 3, none⟩ y3).heap.size = w3.heap.size := by simp [World.setCell]
  refine ⟨((((h.blk.below hb h.blk.lt).put 0 _).put 1 _).put 2 _).put 3 _, h.far, fun b hb' => by have := h.low b hb'; omega, hmc.keep (fun b hb' => ?_) fun p hp => four_off w3 m _ _ _ _ p ?_⟩
  · rcases hb' with hb' | hb'
    · exact ⟨hb'.1, hb'.2.1, by omega⟩
    · exact ⟨by omega, fun hO => by have := h.low b hO; omega, by omega⟩
  · rcases hp with hp | hp
    · exact hp.1
    · omega
end
end Go.Proofs.YthainkgpafbjcaaDoor
