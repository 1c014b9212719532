/-
  Words for memory: a block known whole, a slice of lines, a slice of hands, a slice of numbers; how they are kept.
-/
import Derived.Test.YtimdhnjkjflbdaaProg
import Derived.Test.YtimdhnjkjflbdaaMath
import Derived.WalkKit
import Derived.Lib.Hide
import Derived.Laws.Rows
import Derived.Below
import Derived.Deep.Draws
import Derived.ChangeSame
namespace Go.Proofs.Ytimdhnjkjflbdaa
open Go.RowKit

theorem lt_of_cell {w : World} {p : Addr} {v : Value} (h : w.cell? p = some v) : p.block < w.heap.size := by
  rcases Nat.lt_or_ge p.block w.heap.size with h1 | h1
  · exact h1
  · simp [World.cell?, Array.getElem?_eq_none h1] at h

/-- The slice value v has the numbers zs, in blocks below B. -/
def Nums (w : World) (B : Nat) (v : Value) (zs : List Int) : Prop :=
  ∃ A c, v = .slice A zs.length c ∧ zs.length ≤ 9223372036854775807 ∧
    (0 < zs.length → ∃ b o, A = some ⟨b, o, none⟩ ∧ b < B ∧ ∀ (i : Nat) z, zs[i]? = some z → w.cell? ⟨b, o + i, none⟩ = some (.int .i64 z))

/-- The slice value v has the lines ls, in blocks below B. -/
def Lines (w : World) (B : Nat) (v : Value) (ls : List Ln) : Prop :=
  ∃ A c, v = .slice A ls.length c ∧ ls.length ≤ 9223372036854775807 ∧
    (0 < ls.length → ∃ b o, A = some ⟨b, o, none⟩ ∧ b < B ∧ ∀ (i : Nat) l, ls[i]? = some l →
      w.cell? ⟨b, o + i * 4, none⟩ = some (.int .i64 l.k) ∧ w.cell? ⟨b, o + i * 4 + 1, none⟩ = some (.int .i64 l.r) ∧
      w.cell? ⟨b, o + i * 4 + 2, none⟩ = some (.int .i64 l.d) ∧ w.cell? ⟨b, o + i * 4 + 3, none⟩ = some (.int .i64 l.v))

/-- The slice value v has the hands hs, in blocks below B. -/
def Hands (w : World) (B : Nat) (v : Value) (hs : List (List Ln)) : Prop :=
  ∃ A c, v = .slice A hs.length c ∧ hs.length ≤ 9223372036854775807 ∧
    (0 < hs.length → ∃ b o, A = some ⟨b, o, none⟩ ∧ b < B ∧ ∀ (i : Nat) l, hs[i]? = some l → ∃ u, w.cell? ⟨b, o + i, none⟩ = some u ∧ Lines w B u l)

theorem Nums.keep {w w' : World} {B : Nat} {v : Value} {zs : List Int} (h : Nums w B v zs) (hk : ∀ p : Addr, p.block < B → w'.cell? p = w.cell? p) : Nums w' B v zs := by
  obtain ⟨A, c, e, hl, h⟩ := h
  refine ⟨A, c, e, hl, fun h0 => ?_⟩
  obtain ⟨b, o, e1, hb, hc⟩ := h h0
  exact ⟨b, o, e1, hb, fun i z hz => (hk _ hb).trans (hc i z hz)⟩
theorem Lines.keep {w w' : World} {B : Nat} {v : Value} {ls : List Ln} (h : Lines w B v ls) (hk : ∀ p : Addr, p.block < B → w'.cell? p = w.cell? p) : Lines w' B v ls := by
  obtain ⟨A, c, e, hl, h⟩ := h
  refine ⟨A, c, e, hl, fun h0 => ?_⟩
  obtain ⟨b, o, e1, hb, hc⟩ := h h0
  refine ⟨b, o, e1, hb, fun i l hz => ?_⟩
  obtain ⟨h1, h2, h3, h4⟩ := hc i l hz
  exact ⟨(hk _ hb).trans h1, (hk _ hb).trans h2, (hk _ hb).trans h3, (hk _ hb).trans h4⟩
theorem Hands.keep {w w' : World} {B : Nat} {v : Value} {hs : List (List Ln)} (h : Hands w B v hs) (hk : ∀ p : Addr, p.block < B → w'.cell? p = w.cell? p) : Hands w' B v hs := by
  obtain ⟨A, c, e, hl, h⟩ := h
  refine ⟨A, c, e, hl, fun h0 => ?_⟩
  obtain ⟨b, o, e1, hb, hc⟩ := h h0
  refine ⟨b, o, e1, hb, fun i l hz => ?_⟩
  obtain ⟨u, h1, h2⟩ := hc i l hz
  exact ⟨u, (hk _ hb).trans h1, h2.keep hk⟩
theorem Lines.more {w : World} {B B' : Nat} {v : Value} {ls : List Ln} (h : Lines w B v ls) (hB : B ≤ B') : Lines w B' v ls := by
  obtain ⟨A, c, e, hl, h⟩ := h
  refine ⟨A, c, e, hl, fun h0 => ?_⟩
  obtain ⟨b, o, e1, hb, hc⟩ := h h0
  exact ⟨b, o, e1, Nat.lt_of_lt_of_le hb hB, hc⟩
theorem Nums.more {w : World} {B B' : Nat} {v : Value} {ls : List Int} (h : Nums w B v ls) (hB : B ≤ B') : Nums w B' v ls := by
  obtain ⟨A, c, e, hl, h⟩ := h
  refine ⟨A, c, e, hl, fun h0 => ?_⟩
  obtain ⟨b, o, e1, hb, hc⟩ := h h0
  exact ⟨b, o, e1, Nat.lt_of_lt_of_le hb hB, hc⟩
theorem Hands.more {w : World} {B B' : Nat} {v : Value} {hs : List (List Ln)} (h : Hands w B v hs) (hB : B ≤ B') : Hands w B' v hs := by
  obtain ⟨A, c, e, hl, h⟩ := h
  refine ⟨A, c, e, hl, fun h0 => ?_⟩
  obtain ⟨b, o, e1, hb, hc⟩ := h h0
  refine ⟨b, o, e1, Nat.lt_of_lt_of_le hb hB, fun i l hz => ?_⟩
  obtain ⟨u, h1, h2⟩ := hc i l hz
  exact ⟨u, h1, h2.more hB⟩
theorem Nums.below {w w' : World} {B B' : Nat} {v : Value} {zs : List Int} (h : Nums w B v zs) (hb : Below B' w w') (hB : B ≤ B') : Nums w' B v zs :=
  h.keep fun _ hp => hb.cell (Nat.lt_of_lt_of_le hp hB)
theorem Lines.below {w w' : World} {B B' : Nat} {v : Value} {zs : List Ln} (h : Lines w B v zs) (hb : Below B' w w') (hB : B ≤ B') : Lines w' B v zs :=
  h.keep fun _ hp => hb.cell (Nat.lt_of_lt_of_le hp hB)
theorem Hands.below {w w' : World} {B B' : Nat} {v : Value} {zs : List (List Ln)} (h : Hands w B v zs) (hb : Below B' w w') (hB : B ≤ B') : Hands w' B v zs :=
  h.keep fun _ hp => hb.cell (Nat.lt_of_lt_of_le hp hB)

/-- Block g is just the cells cs of type t; none is frozen. -/
def Block (w : World) (g : Nat) (t : TypeId) (cs : Array Value) : Prop := w.heap[g]? = some (.cells cs t (0, 0))
section
variable {w w' : World} {g : Nat} {t : TypeId} {cs : Array Value}
theorem Block.lt (h : Block w g t cs) : g < w.heap.size := by
  rcases Nat.lt_or_ge g w.heap.size with h1 | h1
  · exact h1
  · unfold Block at h; rw [Array.getElem?_eq_none h1] at h; cases h
theorem Block.cell (h : Block w g t cs) (i : Nat) : w.cell? ⟨g, i, none⟩ = cs[i]? := cell_of_row w g i cs t (0, 0) h
theorem Block.free (h : Block w g t cs) (i : Nat) : w.frozen? ⟨g, i, none⟩ = false := by unfold Block at h; simp [World.frozen?, h]
theorem Block.made (w : World) (t : TypeId) (cs : Array Value) : Block (w.alloc (.cells cs t)) w.heap.size t cs := heap_alloc_new w _
theorem Block.alloc (h : Block w g t cs) (o : Obj) : Block (w.alloc o) g t cs := (Below.heap_alloc w o g h.lt).trans h
theorem Block.drewN (h : Block w g t cs) (n : Nat) : Block (w.drewN n) g t cs := h
theorem Block.drew (h : Block w g t cs) : Block w.drew g t cs := h
theorem Block.put (h : Block w g t cs) (i : Nat) (u : Value) : Block (w.setCell ⟨g, i, none⟩ u) g t (cs.setIfInBounds i u) := by
  unfold Block at h ⊢
  simp [World.setCell, Array.getElem?_modify, h]
theorem Block.far (h : Block w g t cs) {p : Addr} (hp : g ≠ p.block) (u : Value) : Block (w.setCell p u) g t cs := (Below.heap_setCell w p u g hp).trans h
theorem Block.below {B : Nat} (h : Block w g t cs) (hb : Below B w w') (hg : g < B) : Block w' g t cs := (hb.block g hg).trans h
end
theorem below_drewN {B : Nat} {a w : World} (h : Below B a w) (n : Nat) : Below B a (w.drewN n) := ⟨h.os, h.tape, h.output, h.size, h.block⟩

/-- A row of numbers as cells. -/
def row (zs : List Int) : Array Value := (zs.map (Value.int .i64)).toArray
theorem row_size (zs : List Int) : (row zs).size = zs.length := by simp [row]
theorem row_get {zs : List Int} {i : Nat} {z : Int} (h : zs[i]? = some z) : (row zs)[i]? = some (.int .i64 z) := by simp [row, h]

def lnV (l : Ln) : Value := .agg #[.int .i64 l.k, .int .i64 l.r, .int .i64 l.d, .int .i64 l.v]

theorem one_cell {w : World} {g : Nat} {a : Value} (h0 : w.cell? ⟨g, 0, none⟩ = some a) : ∀ j u, [a][j]? = some u → w.cell? ((⟨g, 0, none⟩ : Addr).add j) = some u := by
  intro j u hu
  match j, hu with
  | 0, hu => simp at hu; subst hu; simpa [Addr.add] using h0

/-- An error as a number: nil, or what is wrong. -/
def errV (T : Nat) (e : Int) : Value := if e = 0 then .nilIface else .iface T (.int .i64 e)
end Go.Proofs.Ytimdhnjkjflbdaa
