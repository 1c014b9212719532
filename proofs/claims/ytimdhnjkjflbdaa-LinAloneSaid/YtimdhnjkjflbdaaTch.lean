/-
  Nothing has turned but blocks of a set, and new ones.
-/
import Derived.Test.YtimdhnjkjflbdaaBase
import Derived.Deep.MidRow
namespace Go.Proofs.Ytimdhnjkjflbdaa
open Go.RowKit

/-- Nothing has turned but blocks of O, and new ones. -/
structure Touch (O : Nat → Prop) (w w' : World) : Prop where
  os : w'.os = w.os
  tape : w'.tape = w.tape
  output : w'.output = w.output
  size : w.heap.size ≤ w'.heap.size
  block : ∀ k, k < w.heap.size → ¬ O k → w'.heap[k]? = w.heap[k]?
section
variable {O O' : Nat → Prop} {a b c : World}
theorem Touch.refl (O : Nat → Prop) (w : World) : Touch O w w := ⟨rfl, rfl, rfl, Nat.le_refl _, fun _ _ _ => rfl⟩
theorem Touch.trans (h : Touch O a b) (k : Touch O' b c) (hO : ∀ i, O' i → O i ∨ a.heap.size ≤ i) : Touch O a c :=
  ⟨k.os.trans h.os, k.tape.trans h.tape, k.output.trans h.output, Nat.le_trans h.size k.size, fun i hi hn =>
    (k.block i (Nat.lt_of_lt_of_le hi h.size) fun h' => (hO i h').elim hn fun h1 => Nat.not_le_of_lt hi h1).trans (h.block i hi hn)⟩
theorem Touch.mono (h : Touch O a b) (hO : ∀ i, O i → O' i) : Touch O' a b := ⟨h.os, h.tape, h.output, h.size, fun i hi hn => h.block i hi fun h' => hn (hO i h')⟩
theorem Touch.of_below {B : Nat} (h : Below B a b) (hO : ∀ i, B ≤ i → i < a.heap.size → O i) : Touch O a b :=
  ⟨h.os, h.tape, h.output, h.size, fun i hi hn => h.block i (Nat.lt_of_not_le fun h1 => hn (hO i h1 hi))⟩
theorem Touch.below {B : Nat} (h : Touch O a b) (hB : B ≤ a.heap.size) (hO : ∀ i, O i → B ≤ i) : Below B a b :=
  ⟨h.os, h.tape, h.output, h.size, fun i hi => h.block i (by omega) fun h' => by have := hO i h'; omega⟩
theorem Touch.alloc (h : Touch O a b) (o : Obj) : Touch O a (b.alloc o) :=
  h.trans (O' := fun _ => False) ⟨rfl, rfl, rfl, by simp, fun k hk _ => Below.heap_alloc _ _ _ hk⟩ fun _ h' => h'.elim
theorem Touch.drew (h : Touch O a b) : Touch O a b.drew := ⟨h.os, h.tape, h.output, h.size, h.block⟩
theorem Touch.drewN (h : Touch O a b) (n : Nat) : Touch O a (b.drewN n) := ⟨h.os, h.tape, h.output, h.size, h.block⟩
theorem Touch.setCell (h : Touch O a b) {p : Addr} (hp : O p.block ∨ a.heap.size ≤ p.block) (u : Value) : Touch O a (b.setCell p u) :=
  h.trans (O' := fun k => k = p.block) ⟨rfl, rfl, rfl, by simp [World.setCell], fun k _ hn => Below.heap_setCell _ _ _ _ hn⟩ fun _ h' => by rw [h']; exact hp
theorem Touch.grown {row : Option Nat} (h : Touch O a b) (hg : b.grownBy c row) (hr : ∀ k, row = some k → O k ∨ a.heap.size ≤ k) : Touch O a c :=
  h.trans (O' := fun k => row = some k) ⟨hg.os, hg.tape, hg.output, hg.size, fun k hk hn => hg.block k hk fun e => hn e.symm⟩ hr
theorem Touch.calls {B : Nat} (h : Touch O a b) (hb : Below B b c) (hB : a.heap.size ≤ B) : Touch O a c :=
  h.trans (O' := fun k => B ≤ k) (Touch.of_below hb fun _ h1 _ => h1) fun _ h' => Or.inr (Nat.le_trans hB h')
theorem Touch.setRow (h : Touch O a b) {g : Nat} (hg : O g ∨ a.heap.size ≤ g) (cs : Array Value) : Touch O a (b.setRow g cs) :=
  h.trans (O' := fun k => k = g) ⟨rfl, rfl, rfl, by simp [World.setRow], fun k _ hn => setRow_other b g k cs hn⟩ fun _ h' => by rw [h']; exact hg
theorem Touch.cell (h : Touch O a b) {p : Addr} (hp : p.block < a.heap.size) (hn : ¬ O p.block) : b.cell? p = a.cell? p := World.cell?_of_block (w := a) (h.block p.block hp hn)
theorem Touch.frozen (h : Touch O a b) {p : Addr} (hp : p.block < a.heap.size) (hn : ¬ O p.block) : b.frozen? p = a.frozen? p := World.frozen?_of_block (w := a) (h.block p.block hp hn)
end
theorem Block.touch {O : Nat → Prop} {w w' : World} {g : Nat} {t : TypeId} {cs : Array Value} (h : Block w g t cs) (k : Touch O w w') (hn : ¬ O g) : Block w' g t cs := (k.block g h.lt hn).trans h

end Go.Proofs.Ytimdhnjkjflbdaa
