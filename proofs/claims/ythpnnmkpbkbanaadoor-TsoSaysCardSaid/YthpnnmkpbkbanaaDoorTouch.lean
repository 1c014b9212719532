/-
  Nothing has turned but blocks of a set, and new ones; a slice of states of one's own, that begins anywhere in its array.
-/
import Derived.Test.YthpnnmkpbkbanaaDoorState
import Derived.ArgAppend
namespace Go.Proofs.YthpnnmkpbkbanaaDoor
open Go.RowKit

/-- Nothing has turned but blocks of O, and new ones. -/
structure Touch (O : Nat → Prop) (w w' : World) : Prop where
  os : w'.os = w.os
  tape : w'.tape = w.tape
  output : w'.output = w.output
  size : w.heap.size ≤ w'.heap.size
  block : ∀ k, k < w.heap.size → ¬ O k → w'.heap[k]? = w.heap[k]?
section
variable {O O' : Nat → Prop} {a b c : World}
theorem Touch.refl (O : Nat → Prop) (w : World) : Touch O w w := ⟨rfl, rfl, rfl, Nat.le_refl _, fun _ _ _ => rfl⟩
theorem Touch.trans (h : Touch O a b) (k : Touch O' b c) (hO : ∀ i, O' i → O i ∨ a.heap.size ≤ i) : Touch O a c :=
  ⟨k.os.trans h.os, k.tape.trans h.tape, k.output.trans h.output, Nat.le_trans h.size k.size, fun i hi hn =>
    (k.block i (Nat.lt_of_lt_of_le hi h.size) fun h' => (hO i h').elim hn fun h1 => Nat.not_le_of_lt hi h1).trans (h.block i hi hn)⟩
theorem Touch.mono (h : Touch O a b) (hO : ∀ i, O i → O' i) : Touch O' a b := ⟨h.os, h.tape, h.output, h.size, fun i hi hn => h.block i hi fun h' => hn (hO i h')⟩
theorem Touch.of_below {B : Nat} (h : Below B a b) (hO : ∀ i, B ≤ i → i < a.heap.size → O i) : Touch O a b :=
  ⟨h.os, h.tape, h.output, h.size, fun i hi hn => h.block i (Nat.lt_of_not_le fun h1 => hn (hO i h1 hi))⟩
theorem Touch.below {B : Nat} (h : Touch O a b) (hB : B ≤ a.heap.size) (hO : ∀ i, O i → B ≤ i) : Below B a b :=
  ⟨h.os, h.tape, h.output, h.size, fun i hi => h.block i (by omega) fun h' => by have := hO i h'; omega⟩
theorem Touch.alloc (h : Touch O a b) (o : Obj) : Touch O a (b.alloc o) :=
  h.trans (O' := fun _ => False) ⟨rfl, rfl, rfl, by simp, fun k hk _ => Below.heap_alloc _ _ _ hk⟩ fun _ h' => h'.elim
theorem Touch.drew (h : Touch O a b) : Touch O a b.drew := ⟨h.os, h.tape, h.output, h.size, h.block⟩
theorem Touch.drewN (h : Touch O a b) (n : Nat) : Touch O a (b.drewN n) := ⟨h.os, h.tape, h.output, h.size, h.block⟩
theorem Touch.setCell (h : Touch O a b) {p : Addr} (hp : O p.block ∨ a.heap.size ≤ p.block) (u : Value) : Touch O a (b.setCell p u) :=
  h.trans (O' := fun k => k = p.block) ⟨rfl, rfl, rfl, by simp [World.setCell], fun k _ hn => Below.heap_setCell _ _ _ _ hn⟩ fun _ h' => by rw [h']; exact hp
theorem Touch.grown {row : Option Nat} (h : Touch O a b) (hg : b.grownBy c row) (hr : ∀ k, row = some k → O k ∨ a.heap.size ≤ k) : Touch O a c :=
  h.trans (O' := fun k => row = some k) ⟨hg.os, hg.tape, hg.output, hg.size, fun k hk hn => hg.block k hk fun e => hn e.symm⟩ hr
theorem Touch.calls {B : Nat} (h : Touch O a b) (hb : Below B b c) (hB : a.heap.size ≤ B) : Touch O a c :=
  h.trans (O' := fun k => B ≤ k) (Touch.of_below hb fun _ h1 _ => h1) fun _ h' => Or.inr (Nat.le_trans hB h')
theorem Touch.setRow (h : Touch O a b) {g : Nat} (hg : O g ∨ a.heap.size ≤ g) (cs : Array Value) : Touch O a (b.setRow g cs) :=
  h.trans (O' := fun k => k = g) ⟨rfl, rfl, rfl, by simp [World.setRow], fun k _ hn => setRow_other b g k cs hn⟩ fun _ h' => by rw [h']; exact hg
theorem Touch.cell (h : Touch O a b) {p : Addr} (hp : p.block < a.heap.size) (hn : ¬ O p.block) : b.cell? p = a.cell? p := World.cell?_of_block (w := a) (h.block p.block hp hn)
theorem Touch.frozen (h : Touch O a b) {p : Addr} (hp : p.block < a.heap.size) (hn : ¬ O p.block) : b.frozen? p = a.frozen? p := World.frozen?_of_block (w := a) (h.block p.block hp hn)
end
theorem Block.touch {O : Nat → Prop} {w w' : World} {g : Nat} {t : TypeId} {cs : Array Value} (h : Block w g t cs) (k : Touch O w w') (hn : ¬ O g) : Block w' g t cs := (k.block g h.lt hn).trans h

/-! ### Rows of sixteen, one behind the other -/
def flat (zss : List (List Int)) : List Value := zss.flatMap fun zs => zs.map (Value.int .i64)
theorem flat_length {zss : List (List Int)} (h : ∀ zs ∈ zss, zs.length = 16) : (flat zss).length = zss.length * 16 := by
  induction zss with
  | nil => rfl
  | cons x r ih =>
    have h1 := h x (by simp)
    have h2 := ih fun zs hz => h zs (by simp [hz])
    show ((x.map (Value.int .i64)) ++ flat r).length = _
    rw [List.length_append, List.length_map, h1, h2, List.length_cons]
    omega
theorem flat_get {zss : List (List Int)} (h : ∀ zs ∈ zss, zs.length = 16) : ∀ (i : Nat) (zs : List Int) (j : Nat) (z : Int), zss[i]? = some zs → zs[j]? = some z → (flat zss)[i * 16 + j]? = some (.int .i64 z) := by
  induction zss with
  | nil => intro i zs j z hi; simp at hi
  | cons x r ih =>
    intro i zs j z hi hj
    have h1 := h x (by simp)
    show ((x.map (Value.int .i64)) ++ flat r)[i * 16 + j]? = _
    cases i with
    | zero =>
      simp at hi
      subst hi
      have : j < 16 := by rw [← h1]; exact (List.getElem?_eq_some_iff.1 hj).1
      rw [List.getElem?_append_left (by simp; omega), List.getElem?_map, show 0 * 16 + j = j by omega, hj]; rfl
    | succ i =>
      rw [List.getElem?_append_right (by simp; omega), List.length_map, h1, show (i + 1) * 16 + j - 16 = i * 16 + j by omega]
      exact ih (fun zs hz => h zs (by simp [hz])) i zs j z (by simpa using hi) hj
theorem flat_cons (x : List Int) (r : List (List Int)) : flat (x :: r) = x.map (Value.int .i64) ++ flat r := rfl
theorem flat_append (a b : List (List Int)) : flat (a ++ b) = flat a ++ flat b := by simp [flat]
theorem flat_one (x : List Int) : flat [x] = x.map (Value.int .i64) := by simp [flat]

/-- The slice value v has the rows zss, in block lb (if it has room for any). -/
def Left (w : World) (T lb : Nat) (v : Value) (zss : List (List Int)) : Prop :=
  ∃ A cap, v = .slice A zss.length cap ∧ zss.length ≤ cap ∧ cap ≤ maxLen ∧ (A = none → cap = 0) ∧ (∀ a, A = some a → ∃ o, a = ⟨lb, o, none⟩ ∧ lb < w.heap.size ∧
    (0 < cap → ∃ cs, Block w lb T cs ∧ o + cap * 16 ≤ cs.size ∧ ∀ j u, (flat zss)[j]? = some u → cs[o + j]? = some u))
theorem Left.form {w : World} {T lb : Nat} {v : Value} {zss : List (List Int)} (h : Left w T lb v zss) : ∃ A c, v = .slice A zss.length c := by
  obtain ⟨A, c, e, _⟩ := h
  exact ⟨A, c, e⟩
theorem Left.own {w : World} {T lb : Nat} {v : Value} {zss : List (List Int)} (h : Left w T lb v zss) {k : Nat} (hk : v.ownBlock = some k) : k = lb := by
  obtain ⟨A, c, rfl, _, _, _, h4⟩ := h
  cases A with
  | none => cases hk
  | some a =>
    obtain ⟨o, rfl, _⟩ := h4 a rfl
    exact (Option.some.inj hk).symm
theorem Left.nil (w : World) (T lb : Nat) : Left w T lb (.slice none 0 0) [] := ⟨none, 0, rfl, Nat.zero_le _, Nat.zero_le _, fun _ => rfl, fun a h => by cases h⟩
theorem Left.keep {w w' : World} {T lb : Nat} {v : Value} {zss : List (List Int)} (h : Left w T lb v zss) (hs : w.heap.size ≤ w'.heap.size) (hb : lb < w.heap.size → w'.heap[lb]? = w.heap[lb]?) : Left w' T lb v zss := by
  obtain ⟨A, cap, e, h1, h2, h3, h4⟩ := h
  refine ⟨A, cap, e, h1, h2, h3, fun a ha => ?_⟩
  obtain ⟨o, ea, hl, hc⟩ := h4 a ha
  refine ⟨o, ea, by omega, fun h0 => ?_⟩
  obtain ⟨cs, hB, hc2⟩ := hc h0
  exact ⟨cs, (hb hl).trans hB, hc2⟩
theorem Left.touch {O : Nat → Prop} {w w' : World} {T lb : Nat} {v : Value} {zss : List (List Int)} (h : Left w T lb v zss) (k : Touch O w w') (hn : ¬ O lb) : Left w' T lb v zss := h.keep k.size fun hl => k.block lb hl hn

/-- setCells turns one block alone. -/
theorem setCells_heap (b : Nat) : ∀ (vs : List Value) (o : Nat) (w : World) (k : Nat), k ≠ b → (w.setCells b o vs).heap[k]? = w.heap[k]?
  | [], _, _, _, _ => rfl
  | v :: r, o, w, k, h => by
    rw [World.setCells, setCells_heap b r (o + 1) _ k h]
    exact Below.heap_setCell w ⟨b, o, none⟩ v k h
theorem setCells_parts (b : Nat) : ∀ (vs : List Value) (o : Nat) (w : World), (w.setCells b o vs).os = w.os ∧ (w.setCells b o vs).tape = w.tape ∧ (w.setCells b o vs).output = w.output ∧ (w.setCells b o vs).heap.size = w.heap.size
  | [], _, _ => ⟨rfl, rfl, rfl, rfl⟩
  | v :: r, o, w => by
    obtain ⟨h1, h2, h3, h4⟩ := setCells_parts b r (o + 1) (w.setCell ⟨b, o, none⟩ v)
    rw [World.setCells]
    exact ⟨h1, h2, h3, by rw [h4]; simp [World.setCell]⟩
theorem setCells_block {b : Nat} {t : TypeId} : ∀ (vs : List Value) (o : Nat) (w : World) (cs : Array Value), Block w b t cs → o + vs.length ≤ cs.size →
    ∃ cs', Block (w.setCells b o vs) b t cs' ∧ cs'.size = cs.size ∧ (∀ j, j < o ∨ o + vs.length ≤ j → cs'[j]? = cs[j]?) ∧ (∀ j u, vs[j]? = some u → cs'[o + j]? = some u)
  | [], o, w, cs, h, _ => ⟨cs, h, rfl, fun _ _ => rfl, fun j u hu => by simp at hu⟩
  | v :: r, o, w, cs, h, hl => by
    have h1 : Block (w.setCell ⟨b, o, none⟩ v) b t (cs.setIfInBounds o v) := h.put o v
    simp only [List.length_cons] at hl
    obtain ⟨cs', e1, e2, e3, e4⟩ := setCells_block r (o + 1) (w.setCell ⟨b, o, none⟩ v) (cs.setIfInBounds o v) h1 (by simp; omega)
    refine ⟨cs', e1, by rw [e2]; simp, fun j hj => ?_, fun j u hu => ?_⟩
    · simp only [List.length_cons] at hj
      rw [e3 j (by omega), Array.getElem?_setIfInBounds_ne (by omega)]
    · cases j with
      | zero =>
        simp at hu
        subst hu
        rw [Nat.add_zero, e3 o (by omega), Array.getElem?_setIfInBounds_self, if_pos (by omega)]
      | succ j =>
        have := e4 j u (by simpa using hu)
        rwa [show o + (j + 1) = o + 1 + j by omega]
end Go.Proofs.YthpnnmkpbkbanaaDoor
