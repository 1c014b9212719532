/-
  Four rows of numbers of one's own that grow beside each other; a row that is made at once.
-/
import Derived.Test.YtimdhnjkjflbdaaTch
import Derived.Laws.OwnMore
import Derived.Deep.AppendLies
import Derived.Deep.OwnRows
namespace Go.Proofs.Ytimdhnjkjflbdaa
open Go.RowKit

theorem own_touch {O : Nat → Prop} {w w' : World} {base e size : Nat} {v : Value} {n : Nat} {xs : List Value} (h : w.ownsRow base e size v n xs) (ht : Touch O w w') (hn : ∀ k, v.ownBlock = some k → ¬ O k) : w'.ownsRow base e size v n xs := by
  refine ⟨h.1, ?_⟩
  rcases h.2 with h0 | ⟨g, cap, cur, rfl, r2, r3, r4⟩
  · exact Or.inl h0
  · exact Or.inr ⟨g, cap, cur, rfl, r2, (ht.block g (Array.getElem?_eq_some_iff.1 r3).1 (hn g rfl)).trans r3, r4⟩
/-- The numbers f 0, f 1 and so on, so many. -/
def rowOf (m : Nat) (f : Nat → Int) : List Int := (List.range m).map f
theorem rowOf_len (m : Nat) (f : Nat → Int) : (rowOf m f).length = m := by simp [rowOf]
theorem rowOf_get {m i : Nat} {f : Nat → Int} (h : i < m) : (rowOf m f)[i]? = some (f i) := by simp [rowOf, h]
theorem rowOf_more {m : Nat} {f f' : Nat → Int} {z : Int} (h : ∀ i, i < m → f' i = f i) (hz : f' m = z) : rowOf (m + 1) f' = rowOf m f ++ [z] := by
  unfold rowOf
  rw [List.range_succ, List.map_append]
  congr 1
  · exact List.map_congr_left fun i hi => h i (List.mem_range.1 hi)
  · simp [hz]
theorem rowOf_congr {m : Nat} {f f' : Nat → Int} (h : ∀ i, i < m → f' i = f i) : rowOf m f' = rowOf m f :=
  List.map_congr_left fun i hi => h i (List.mem_range.1 hi)
theorem rowOf_set {m j : Nat} {f f' : Nat → Int} {z : Int} (h : ∀ i, i < m → i ≠ j → f' i = f i) (hz : f' j = z) : rowOf m f' = (rowOf m f).set j z := by
  apply List.ext_getElem?
  intro i
  by_cases hi : i < m
  · rw [rowOf_get hi]
    by_cases e : i = j
    · subst e
      rw [List.getElem?_set_self (by rw [rowOf_len]; exact hi), hz]
    · rw [List.getElem?_set_ne (fun h => e h.symm), rowOf_get hi, h i hi e]
  · rw [List.getElem?_eq_none (by rw [rowOf_len]; omega), List.getElem?_eq_none (by rw [List.length_set, rowOf_len]; omega)]

def at4 {α : Type} (a b c d : α) : Nat → α
  | 0 => a
  | 1 => b
  | 2 => c
  | _ + 3 => d
/-- Four rows, in memory of their own from block base on. -/
structure RG (W : World) (base : Nat) (v : Nat → Value) (x : Nat → List Int) : Prop where
  own : ∀ i, i < 4 → W.ownsRow base 3 1 (v i) (x i).length ((x i).map (Value.int .i64))
  far : ∀ i j, i < 4 → j < 4 → i ≠ j → ∀ k, (v i).ownBlock = some k → (v j).ownBlock ≠ some k
def rput {α : Type} (f : Nat → α) (i : Nat) (x : α) : Nat → α := fun j => if j = i then x else f j
theorem rput_same {α : Type} (f : Nat → α) (i : Nat) (x : α) : rput f i x i = x := by simp [rput]
theorem rput_other {α : Type} {f : Nat → α} {i j : Nat} {x : α} (h : j ≠ i) : rput f i x j = f j := by simp [rput, h]
section
variable {W W' w2 : World} {base : Nat} {v : Nat → Value} {x : Nat → List Int}
theorem RG.nil (W : World) (base : Nat) : RG W base (at4 (.slice none 0 0) (.slice none 0 0) (.slice none 0 0) (.slice none 0 0)) (at4 [] [] [] []) := by
  have h : ∀ i, i < 4 → at4 (Value.slice none 0 0) (.slice none 0 0) (.slice none 0 0) (.slice none 0 0) i = .slice none 0 0 := fun i hi => by
    match i, hi with
    | 0, _ => rfl
    | 1, _ => rfl
    | 2, _ => rfl
    | 3, _ => rfl
  have h2 : ∀ i, i < 4 → at4 ([] : List Int) [] [] [] i = [] := fun i hi => by
    match i, hi with
    | 0, _ => rfl
    | 1, _ => rfl
    | 2, _ => rfl
    | 3, _ => rfl
  exact ⟨fun i hi => by rw [h i hi, h2 i hi]; exact World.ownsRow_nil _ _ _ _, fun i j hi _ _ k hk => by rw [h i hi] at hk; cases hk⟩
theorem RG.lt (h : RG W base v x) {i : Nat} (hi : i < 4) {k : Nat} (hk : (v i).ownBlock = some k) : base ≤ k ∧ k < W.heap.size := (h.own i hi).lt k hk
theorem RG.touch {O : Nat → Prop} (h : RG W base v x) (ht : Touch O W W') (hO : ∀ k, O k → k < base ∨ W.heap.size ≤ k) : RG W' base v x :=
  ⟨fun i hi => own_touch (h.own i hi) ht fun k hk e => by have := h.lt hi hk; have := hO k e; omega, h.far⟩
theorem RG.alloc (h : RG W base v x) (o : Obj) : RG (W.alloc o) base v x := h.touch (O := fun _ => False) ((Touch.refl _ _).alloc o) fun _ e => e.elim
theorem RG.below (h : RG W base v x) (hb : Below W.heap.size W W') : RG W' base v x := h.touch (O := fun k => W.heap.size ≤ k) (Touch.of_below hb fun _ h _ => h) fun _ h => Or.inr h
/-- One number more. -/
theorem RG.app (h : RG W base v x) {i : Nat} (hi : i < 4) {o : Obj} {g cap n : Nat} {z : Int} {ys : List Value} (hown : w2.ownsRow base 3 1 (.slice (some ⟨g, 0, none⟩) n cap) n ys) (hn : n = (x i).length + 1) (hy : ys = (x i).map (Value.int .i64) ++ [.int .i64 z])
    (hg : (W.alloc o).grownBy w2 (v i).ownBlock) (hat : (v i).ownBlock = some g ∨ g = W.heap.size + 1) : RG w2 base (rput v i (.slice (some ⟨g, 0, none⟩) n cap)) (rput x i (x i ++ [z])) ∧ Touch (fun k => (v i).ownBlock = some k) W w2 := by
  have ht : Touch (fun k => (v i).ownBlock = some k) W w2 := ((Touch.refl _ W).alloc o).grown hg fun k hk => Or.inl hk
  have hfar : ∀ j, j < 4 → j ≠ i → ∀ k, (v j).ownBlock = some k → k ≠ g := fun j hj hne k hk e => by
    subst e
    rcases hat with e | e
    · exact h.far j i hj hi hne _ hk e
    · have := (h.lt hj hk).2; omega
  refine ⟨⟨fun j hj => ?_, fun j l hj hl hne k hk => ?_⟩, ht⟩
  · by_cases e : j = i
    · subst e
      rw [rput_same, rput_same]
      have e1 : (x j ++ [z]).length = n := by rw [hn]; simp
      have e2 : (x j ++ [z]).map (Value.int .i64) = ys := by rw [hy]; simp
      rw [e1, e2]
      exact hown
    · rw [rput_other e, rput_other e]
      exact own_touch (h.own j hj) ht fun k hk e2 => h.far j i hj hi e k hk e2
  · by_cases e : j = i
    · subst e
      rw [rput_same] at hk
      obtain rfl : g = k := Option.some.inj hk
      rw [rput_other (fun e => hne e.symm)]
      exact fun e2 => hfar l hl (fun e => hne e.symm) g e2 rfl
    · rw [rput_other e] at hk
      by_cases e2 : l = i
      · subst e2
        rw [rput_same]
        exact fun e3 => hfar j hj e k hk (Option.some.inj e3).symm
      · rw [rput_other e2]
        exact h.far j l hj hl hne k hk
/-- Where a row lies that has numbers. -/
theorem RG.form (h : RG W base v x) {i : Nat} (hi : i < 4) : ∃ A c, v i = .slice A (x i).length c ∧ (0 < (x i).length → ∃ b, A = some ⟨b, 0, none⟩ ∧ base ≤ b ∧ b < W.heap.size) := by
  rcases (h.own i hi).2 with ⟨e, h0⟩ | ⟨g, cap, cur, e, h1, h2, _⟩
  · exact ⟨none, 0, by rw [e, h0], fun h => by omega⟩
  · exact ⟨_, cap, e, fun _ => ⟨g, rfl, h1, (Array.getElem?_eq_some_iff.1 h2).1⟩⟩
theorem RG.cell (h : RG W base v x) {i : Nat} (hi : i < 4) {b n c : Nat} (e : v i = .slice (some ⟨b, 0, none⟩) n c) {j : Nat} {z : Int} (hj : (x i)[j]? = some z) : W.cell? ⟨b, j, none⟩ = some (.int .i64 z) := by
  have hb : (v i).ownBlock = some b := by rw [e]; rfl
  have h1 := (h.own i hi).cells hb j (.int .i64 z) (by rw [List.getElem?_map, hj]; rfl)
  unfold Addr.add at h1
  split at h1
  · rename_i h3; subst h3; exact h1
  · simpa using h1
theorem RG.free (h : RG W base v x) {i : Nat} (hi : i < 4) {b n c : Nat} (e : v i = .slice (some ⟨b, 0, none⟩) n c) (j : Nat) : W.frozen? ⟨b, j, none⟩ = false := by
  rcases (h.own i hi).2 with ⟨e2, _⟩ | ⟨g, cap, cur, e2, _, h2, _⟩
  · rw [e] at e2; cases e2
  · rw [e] at e2
    injection e2 with e2 _ _
    injection e2 with e2
    injection e2 with e2 _ _
    subst e2
    simp [World.frozen?, h2]
/-- A number is written. -/
theorem RG.put (h : RG W base v x) {i : Nat} (hi : i < 4) {b n c : Nat} (e : v i = .slice (some ⟨b, 0, none⟩) n c) (j : Nat) (z : Int) : RG (W.setCell ⟨b, j, none⟩ (.int .i64 z)) base v (rput x i ((x i).set j z)) := by
  have hb : (v i).ownBlock = some b := by rw [e]; rfl
  refine ⟨fun l hl => ?_, h.far⟩
  by_cases e2 : l = i
  · subst e2
    rw [rput_same, List.length_set, List.map_set]
    have h1 := h.own l hl
    rw [e] at h1 ⊢
    have hn : n = (x l).length := by
      rcases h1.2 with ⟨e3, _⟩ | ⟨_, _, _, e3, _⟩
      · cases e3
      · injection e3
    subst hn
    exact (h1.stored j (.int .i64 z)).1
  · rw [rput_other e2]
    exact own_touch (h.own l hl) ((Touch.refl (fun k => k = b) W).setCell (p := ⟨b, j, none⟩) (Or.inl rfl) _) fun k hk e3 => h.far l i hl hi e2 k hk (by rw [e3]; exact hb)
/-- The numbers of a row, as read. -/
theorem RG.nums (h : RG W base v x) {i : Nat} (hi : i < 4) (hm : (x i).length ≤ 9223372036854775807) : Nums W W.heap.size (v i) (x i) := by
  obtain ⟨A, c, e, hb⟩ := h.form hi
  refine ⟨A, c, e, hm, fun h0 => ?_⟩
  obtain ⟨b, rfl, _, hlt⟩ := hb h0
  exact ⟨b, 0, rfl, hlt, fun j z hz => by rw [Nat.zero_add]; exact h.cell hi e hz⟩
end
theorem at4_0 {α : Type} (a b c d e : α) : rput (at4 a b c d) 0 e = at4 e b c d := by
  funext j
  match j with
  | 0 => rfl
  | 1 => rfl
  | 2 => rfl
  | 3 => rfl
  | n + 4 => simp [rput, at4]
theorem at4_1 {α : Type} (a b c d e : α) : rput (at4 a b c d) 1 e = at4 a e c d := by
  funext j
  match j with
  | 0 => rfl
  | 1 => rfl
  | 2 => rfl
  | 3 => rfl
  | n + 4 => simp [rput, at4]
theorem at4_2 {α : Type} (a b c d e : α) : rput (at4 a b c d) 2 e = at4 a b e d := by
  funext j
  match j with
  | 0 => rfl
  | 1 => rfl
  | 2 => rfl
  | 3 => rfl
  | n + 4 => simp [rput, at4]
section
variable {W w2 : World} {base : Nat} {a b c d : Value} {x0 x1 x2 x3 : List Int} {o : Obj} {g cap n : Nat} {z : Int} {ys : List Value}
theorem RG.app0 (h : RG W base (at4 a b c d) (at4 x0 x1 x2 x3)) (hown : w2.ownsRow base 3 1 (.slice (some ⟨g, 0, none⟩) n cap) n ys) (hn : n = x0.length + 1) (hy : ys = x0.map (Value.int .i64) ++ [.int .i64 z])
    (hg : (W.alloc o).grownBy w2 a.ownBlock) (hat : a.ownBlock = some g ∨ g = W.heap.size + 1) : RG w2 base (at4 (.slice (some ⟨g, 0, none⟩) n cap) b c d) (at4 (x0 ++ [z]) x1 x2 x3) ∧ Touch (fun k => a.ownBlock = some k) W w2 := by
  have := h.app (i := 0) (by omega) hown hn hy hg hat
  rwa [at4_0, at4_0] at this
theorem RG.app1 (h : RG W base (at4 a b c d) (at4 x0 x1 x2 x3)) (hown : w2.ownsRow base 3 1 (.slice (some ⟨g, 0, none⟩) n cap) n ys) (hn : n = x1.length + 1) (hy : ys = x1.map (Value.int .i64) ++ [.int .i64 z])
    (hg : (W.alloc o).grownBy w2 b.ownBlock) (hat : b.ownBlock = some g ∨ g = W.heap.size + 1) : RG w2 base (at4 a (.slice (some ⟨g, 0, none⟩) n cap) c d) (at4 x0 (x1 ++ [z]) x2 x3) ∧ Touch (fun k => b.ownBlock = some k) W w2 := by
  have := h.app (i := 1) (by omega) hown hn hy hg hat
  rwa [at4_1, at4_1] at this
theorem RG.app2 (h : RG W base (at4 a b c d) (at4 x0 x1 x2 x3)) (hown : w2.ownsRow base 3 1 (.slice (some ⟨g, 0, none⟩) n cap) n ys) (hn : n = x2.length + 1) (hy : ys = x2.map (Value.int .i64) ++ [.int .i64 z])
    (hg : (W.alloc o).grownBy w2 c.ownBlock) (hat : c.ownBlock = some g ∨ g = W.heap.size + 1) : RG w2 base (at4 a b (.slice (some ⟨g, 0, none⟩) n cap) d) (at4 x0 x1 (x2 ++ [z]) x3) ∧ Touch (fun k => c.ownBlock = some k) W w2 := by
  have := h.app (i := 2) (by omega) hown hn hy hg hat
  rwa [at4_2, at4_2] at this
/-- The last row: the same, of the place 3. -/
theorem rg_same {v v' : Nat → Value} {x x' : Nat → List Int} (h : RG W base v x) (hv : ∀ i, i < 4 → v' i = v i) (hx : ∀ i, i < 4 → x' i = x i) : RG W base v' x' :=
  ⟨fun i hi => by rw [hv i hi, hx i hi]; exact h.own i hi, fun i j hi hj hne => by rw [hv i hi, hv j hj]; exact h.far i j hi hj hne⟩
theorem at4_3 {α : Type} (a b c d e : α) (i : Nat) (hi : i < 4) : at4 a b c e i = rput (at4 a b c d) 3 e i := by
  match i, hi with
  | 0, _ => rfl
  | 1, _ => rfl
  | 2, _ => rfl
  | 3, _ => rfl
theorem RG.app3 (h : RG W base (at4 a b c d) (at4 x0 x1 x2 x3)) (hown : w2.ownsRow base 3 1 (.slice (some ⟨g, 0, none⟩) n cap) n ys) (hn : n = x3.length + 1) (hy : ys = x3.map (Value.int .i64) ++ [.int .i64 z])
    (hg : (W.alloc o).grownBy w2 d.ownBlock) (hat : d.ownBlock = some g ∨ g = W.heap.size + 1) : RG w2 base (at4 a b c (.slice (some ⟨g, 0, none⟩) n cap)) (at4 x0 x1 x2 (x3 ++ [z])) ∧ Touch (fun k => d.ownBlock = some k) W w2 := by
  have := h.app (i := 3) (by omega) hown hn hy hg hat
  exact ⟨rg_same this.1 (at4_3 _ _ _ _ _) (at4_3 _ _ _ _ _), this.2⟩
end
/-- A row of so many numbers in block h. -/
def IRow (W : World) (h n : Nat) (f : Nat → Int) : Prop := ∃ cs, Block W h 3 cs ∧ cs.size = n ∧ ∀ i, i < n → cs[i]? = some (.int .i64 (f i))
section
variable {W W' : World} {h n : Nat} {f : Nat → Int}
theorem IRow.lt (k : IRow W h n f) : h < W.heap.size := by
  obtain ⟨cs, h1, _⟩ := k
  exact h1.lt
theorem IRow.cell (k : IRow W h n f) {i : Nat} (hi : i < n) : W.cell? ⟨h, i, none⟩ = some (.int .i64 (f i)) := by
  obtain ⟨cs, h1, h2, h3⟩ := k
  rw [h1.cell]; exact h3 i hi
theorem IRow.free (k : IRow W h n f) (i : Nat) : W.frozen? ⟨h, i, none⟩ = false := by
  obtain ⟨cs, h1, h2, h3⟩ := k
  exact h1.free i
theorem IRow.touch {O : Nat → Prop} (k : IRow W h n f) (ht : Touch O W W') (hO : ¬ O h) : IRow W' h n f := by
  obtain ⟨cs, h1, h2, h3⟩ := k
  exact ⟨cs, h1.touch ht hO, h2, h3⟩
theorem IRow.below {B : Nat} (k : IRow W h n f) (hb : Below B W W') (hB : h < B) : IRow W' h n f := by
  obtain ⟨cs, h1, h2, h3⟩ := k
  exact ⟨cs, h1.below hb hB, h2, h3⟩
theorem IRow.drewN (k : IRow W h n f) (i : Nat) : IRow (W.drewN i) h n f := k
theorem IRow.alloc (k : IRow W h n f) (o : Obj) : IRow (W.alloc o) h n f := by
  obtain ⟨cs, h1, h2, h3⟩ := k
  exact ⟨cs, h1.alloc o, h2, h3⟩
theorem IRow.far (k : IRow W h n f) {p : Addr} (hp : h ≠ p.block) (u : Value) : IRow (W.setCell p u) h n f := by
  obtain ⟨cs, h1, h2, h3⟩ := k
  exact ⟨cs, h1.far hp u, h2, h3⟩
theorem IRow.put (k : IRow W h n f) {i : Nat} (hi : i < n) {f' : Nat → Int} {z : Int} (hf : ∀ j, j ≠ i → f' j = f j) (hz : f' i = z) : IRow (W.setCell ⟨h, i, none⟩ (.int .i64 z)) h n f' := by
  obtain ⟨cs, h1, h2, h3⟩ := k
  refine ⟨_, h1.put i _, by simpa using h2, fun j hj => ?_⟩
  by_cases e : j = i
  · subst e; rw [Array.getElem?_setIfInBounds_self, if_pos (by omega), hz]
  · rw [Array.getElem?_setIfInBounds_ne (by omega), h3 j hj, hf j e]
theorem IRow.same (k : IRow W h n f) {f' : Nat → Int} (hf : ∀ i, i < n → f' i = f i) : IRow W h n f' := by
  obtain ⟨cs, h1, h2, h3⟩ := k
  exact ⟨cs, h1, h2, fun i hi => by rw [hf i hi]; exact h3 i hi⟩
end
theorem IRow.made (w : World) (n : Nat) : IRow (w.alloc (.cells (madeCells #[.int .i64 0] n) 3)) w.heap.size n (fun _ => 0) := by
  refine ⟨_, Block.made w _ _, by simp [madeCells], fun i hi => ?_⟩
  have h1 : (#[Value.int .i64 0] : Array Value)[i % (#[Value.int .i64 0] : Array Value).size]! = .int .i64 0 := by simp [Nat.mod_one]
  rw [madeCells, Array.getElem?_map, Array.getElem?_range, if_pos hi, Option.map_some, h1]
theorem Tint_info : (Try.prog.info? 3).map (fun i => (i.zero, i.size, i.bytes)) = some (some (.int .i64 0), 1, 8) := by kernel_rfl
theorem make_ints (k : Nat) (hk : k ≤ 1000) (w : World) : (Instr.makeSlice 23 (.int .i64 k) (.int .i64 k)).run Try.prog w = .ok (.slice (some ⟨w.heap.size, 0, none⟩) k k) (w.alloc (.cells (madeCells #[.int .i64 0] k) 3)) :=
  run_make_row' 23 3 (.int .i64 0) 8 Try.underlying23 Tint_info rfl .i64 .i64 k (by omega) (by omega) w
end Go.Proofs.Ytimdhnjkjflbdaa
