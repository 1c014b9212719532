import Derived.Test.YtimdhnjkjflbdaaRowsG
import Derived.Test.YtimdhnjkjflbdaaLinSpec
/-
  Histories in memory: one that came in; one of one's own that grows, and whose ops are written.
-/
namespace Go.Proofs.Ytimdhnjkjflbdaa
open Go.RowKit

def LO.cells (o : LO) : List Value := [.int .i64 o.hd, .int .i64 o.kd, .int .i64 o.ar, .int .i64 o.gt, .int .i64 o.fr, .int .i64 o.to]
def LO.val (o : LO) : Value := .agg #[.int .i64 o.hd, .int .i64 o.kd, .int .i64 o.ar, .int .i64 o.gt, .int .i64 o.fr, .int .i64 o.to]
def lcells (h : List LO) : List Value := h.flatMap LO.cells
theorem lcells_app (a b : List LO) : lcells (a ++ b) = lcells a ++ lcells b := List.flatMap_append
theorem lcells_len (h : List LO) : (lcells h).length = h.length * 6 := by
  induction h with
  | nil => rfl
  | cons o h ih =>
    show (o.cells ++ lcells h).length = _
    rw [List.length_append, ih, List.length_cons]
    show 6 + h.length * 6 = _
    omega
theorem lcells_get : ∀ {h : List LO} {i : Nat} {o : LO} {k : Nat}, h[i]? = some o → k < 6 → (lcells h)[i * 6 + k]? = o.cells[k]?
  | [], _, _, _, hi, _ => by simp at hi
  | a :: h, 0, o, k, hi, hk => by
    have e : a = o := by simpa using hi
    subst e
    show (a.cells ++ lcells h)[0 * 6 + k]? = _
    rw [show 0 * 6 + k = k by omega, List.getElem?_append_left (by show k < 6; exact hk)]
  | a :: h, i + 1, o, k, hi, hk => by
    have hi' : h[i]? = some o := by simpa using hi
    show (a.cells ++ lcells h)[(i + 1) * 6 + k]? = _
    rw [List.getElem?_append_right (by show 6 ≤ _; omega), show (i + 1) * 6 + k - a.cells.length = i * 6 + k by show (i + 1) * 6 + k - 6 = _; omega]
    exact lcells_get hi' hk
/-- What came in, or is only read: the ops h, in blocks below B. -/
def Ops (w : World) (B : Nat) (v : Value) (h : List LO) : Prop :=
  ∃ A c, v = .slice A h.length c ∧ (h.length ≤ c ∧ c ≤ 9223372036854775807) ∧
    (0 < h.length → ∃ b o, A = some ⟨b, o, none⟩ ∧ b < B ∧ ∀ (i : Nat) l, h[i]? = some l → ∀ k u, l.cells[k]? = some u → w.cell? ⟨b, o + i * 6 + k, none⟩ = some u)
theorem Ops.keep {w w' : World} {B : Nat} {v : Value} {h : List LO} (hh : Ops w B v h) (hk : ∀ p : Addr, p.block < B → w'.cell? p = w.cell? p) : Ops w' B v h := by
  obtain ⟨A, c, e, hl, hh⟩ := hh
  refine ⟨A, c, e, hl, fun h0 => ?_⟩
  obtain ⟨b, o, e1, hb, hc⟩ := hh h0
  exact ⟨b, o, e1, hb, fun i l hi k u hu => (hk _ hb).trans (hc i l hi k u hu)⟩
theorem Ops.below {w w' : World} {B B' : Nat} {v : Value} {h : List LO} (hh : Ops w B v h) (hb : Below B' w w') (hB : B ≤ B') : Ops w' B v h :=
  hh.keep fun _ hp => hb.cell (Nat.lt_of_lt_of_le hp hB)
theorem Ops.more {w : World} {B B' : Nat} {v : Value} {h : List LO} (hh : Ops w B v h) (hB : B ≤ B') : Ops w B' v h := by
  obtain ⟨A, c, e, hl, hh⟩ := hh
  refine ⟨A, c, e, hl, fun h0 => ?_⟩
  obtain ⟨b, o, e1, hb, hc⟩ := hh h0
  exact ⟨b, o, e1, Nat.lt_of_lt_of_le hb hB, hc⟩
/-- The op at place i: where it lies. -/
theorem Ops.at_ {w : World} {B : Nat} {A : Option Addr} {n c : Nat} {h : List LO} (hh : Ops w B (.slice A n c) h) {i : Nat} (hi : i < h.length) :
    ∃ b o, A = some ⟨b, o, none⟩ ∧ b < B ∧ w.cell? ⟨b, o + i * 6, none⟩ = some (.int .i64 (lat h i).hd) ∧ w.cell? ⟨b, o + i * 6 + 1, none⟩ = some (.int .i64 (lat h i).kd) ∧ w.cell? ⟨b, o + i * 6 + 2, none⟩ = some (.int .i64 (lat h i).ar) ∧
      w.cell? ⟨b, o + i * 6 + 3, none⟩ = some (.int .i64 (lat h i).gt) ∧ w.cell? ⟨b, o + i * 6 + 4, none⟩ = some (.int .i64 (lat h i).fr) ∧ w.cell? ⟨b, o + i * 6 + 5, none⟩ = some (.int .i64 (lat h i).to) := by
  obtain ⟨A0, c0, e, hl, hh⟩ := hh
  injection e with e1 _ e3
  subst e1 e3
  obtain ⟨b, o, e1, hb, hc⟩ := hh (by omega)
  have h1 := hc i _ (lat_get hi)
  exact ⟨b, o, e1, hb, h1 0 _ rfl, h1 1 _ rfl, h1 2 _ rfl, h1 3 _ rfl, h1 4 _ rfl, h1 5 _ rfl⟩
theorem Ops.nil (w : World) (B : Nat) : Ops w B (.slice none 0 0) [] := ⟨none, 0, rfl, ⟨by simp, by simp⟩, fun h => by simp at h⟩
theorem Ops.len {w : World} {B : Nat} {v : Value} {h : List LO} (hh : Ops w B v h) : h.length ≤ 9223372036854775807 := by
  obtain ⟨_, _, _, hl, _⟩ := hh
  omega
/-- One's own: in memory from block base on. T: the type of ops. -/
structure HG (T : TypeId) (W : World) (base : Nat) (v : Value) (h : List LO) : Prop where
  own : W.ownsRow base T 6 v h.length (lcells h)
section
variable {T : TypeId} {W W' w2 : World} {base : Nat} {v : Value} {h : List LO}
theorem HG.nil (T : TypeId) (W : World) (base : Nat) : HG T W base (.slice none 0 0) [] := ⟨World.ownsRow_nil _ _ _ _⟩
theorem HG.lt (hh : HG T W base v h) {k : Nat} (hk : v.ownBlock = some k) : base ≤ k ∧ k < W.heap.size := hh.own.lt k hk
theorem HG.touch {O : Nat → Prop} (hh : HG T W base v h) (ht : Touch O W W') (hO : ∀ k, v.ownBlock = some k → ¬ O k) : HG T W' base v h := ⟨own_touch hh.own ht hO⟩
theorem HG.alloc (hh : HG T W base v h) (o : Obj) : HG T (W.alloc o) base v h := hh.touch (O := fun _ => False) ((Touch.refl _ _).alloc o) fun _ _ e => e.elim
theorem HG.below (hh : HG T W base v h) (hb : Below W.heap.size W W') : HG T W' base v h := hh.touch (O := fun k => W.heap.size ≤ k) (Touch.of_below hb fun _ h _ => h) fun k hk e => by have := hh.lt hk; omega
/-- One op more. -/
theorem HG.app (hh : HG T W base v h) {o : Obj} {g cap n : Nat} {z : LO} {ys : List Value} (hown : w2.ownsRow base T 6 (.slice (some ⟨g, 0, none⟩) n cap) n ys) (hn : n = h.length + 1) (hy : ys = lcells h ++ z.cells)
    (hg : (W.alloc o).grownBy w2 v.ownBlock) : HG T w2 base (.slice (some ⟨g, 0, none⟩) n cap) (h ++ [z]) ∧ Touch (fun k => v.ownBlock = some k) W w2 := by
  have ht : Touch (fun k => v.ownBlock = some k) W w2 := ((Touch.refl _ W).alloc o).grown hg fun k hk => Or.inl hk
  have _ := hh
  refine ⟨⟨?_⟩, ht⟩
  have e1 : (h ++ [z]).length = n := by rw [hn]; simp
  have e2 : lcells (h ++ [z]) = ys := by rw [hy, lcells_app]; simp [lcells]
  rw [e1, e2]
  exact hown
/-- Where a history lies that has ops. -/
theorem HG.form (hh : HG T W base v h) : ∃ A c, v = .slice A h.length c ∧ (h.length ≤ c ∧ c ≤ 9223372036854775807) ∧ (0 < h.length → ∃ b, A = some ⟨b, 0, none⟩ ∧ base ≤ b ∧ b < W.heap.size) := by
  rcases hh.own.2 with ⟨e, h0⟩ | ⟨g, cap, cur, e, h1, h2, h3, h4, _⟩
  · exact ⟨none, 0, by rw [e, h0], by omega, fun h => by omega⟩
  · unfold maxLen at h4
    exact ⟨_, cap, e, ⟨h3, by omega⟩, fun _ => ⟨g, rfl, h1, (Array.getElem?_eq_some_iff.1 h2).1⟩⟩
theorem HG.cell (hh : HG T W base v h) {b n c : Nat} (e : v = .slice (some ⟨b, 0, none⟩) n c) {i k : Nat} {u : Value} (hi : i < h.length) (hk : (lat h i).cells[k]? = some u) : W.cell? ⟨b, i * 6 + k, none⟩ = some u := by
  have hb : v.ownBlock = some b := by rw [e]; rfl
  have hk6 : k < 6 := (List.getElem?_eq_some_iff.1 hk).1
  have h1 := hh.own.cells hb (i * 6 + k) u (by rw [lcells_get (lat_get hi) hk6]; exact hk)
  unfold Addr.add at h1
  split at h1
  · rename_i h3; rw [h3]; exact h1
  · simpa using h1
theorem HG.free (hh : HG T W base v h) {b n c : Nat} (e : v = .slice (some ⟨b, 0, none⟩) n c) (j : Nat) : W.frozen? ⟨b, j, none⟩ = false := by
  rcases hh.own.2 with ⟨e2, _⟩ | ⟨g, cap, cur, e2, _, h2, _⟩
  · rw [e] at e2; cases e2
  · rw [e] at e2
    injection e2 with e2 _ _
    injection e2 with e2
    injection e2 with e2 _ _
    subst e2
    simp [World.frozen?, h2]
theorem lcells_set {o' : LO} {k : Nat} {u : Value} {i : Nat} (hi : i < h.length) (hk : k < 6) (ho : o'.cells = (lat h i).cells.set k u) : lcells (h.set i o') = (lcells h).set (i * 6 + k) u := by
  apply List.ext_getElem?
  intro j
  have hj : j = (j / 6) * 6 + j % 6 := by omega
  have hj6 : j % 6 < 6 := Nat.mod_lt _ (by omega)
  by_cases hl : j / 6 < h.length
  · by_cases e : j / 6 = i
    · have h1 : (h.set i o')[j / 6]? = some o' := by rw [e, List.getElem?_set_self hi]
      rw [hj, lcells_get h1 hj6, ho, List.getElem?_set, List.getElem?_set]
      by_cases e2 : k = j % 6
      · rw [if_pos e2, if_pos (show i * 6 + k = j / 6 * 6 + j % 6 by rw [e, e2])]
        rw [if_pos (show k < (lat h i).cells.length from hk), if_pos (by rw [lcells_len]; omega)]
      · rw [if_neg e2, if_neg (show ¬ i * 6 + k = j / 6 * 6 + j % 6 by rw [e]; omega)]
        rw [e, lcells_get (lat_get hi) hj6]
    · have h1 : (h.set i o')[j / 6]? = some (lat h (j / 6)) := by rw [List.getElem?_set_ne (fun c => e c.symm)]; exact lat_get hl
      rw [hj, lcells_get h1 hj6, List.getElem?_set_ne (by omega), lcells_get (lat_get hl) hj6]
  · rw [List.getElem?_eq_none (by rw [lcells_len, List.length_set]; omega), List.getElem?_eq_none (by rw [List.length_set, lcells_len]; omega)]
/-- One number of an op is written. -/
theorem HG.put (hh : HG T W base v h) {b n c : Nat} (e : v = .slice (some ⟨b, 0, none⟩) n c) {i k : Nat} {z : Int} {o' : LO} (hi : i < h.length) (hk : k < 6) (ho : o'.cells = (lat h i).cells.set k (.int .i64 z)) :
    HG T (W.setCell ⟨b, i * 6 + k, none⟩ (.int .i64 z)) base v (h.set i o') := by
  refine ⟨?_⟩
  rw [List.length_set, lcells_set hi hk ho]
  have h1 := hh.own
  rw [e] at h1 ⊢
  have hn : n = h.length := by
    rcases h1.2 with ⟨e3, _⟩ | ⟨_, _, _, e3, _⟩
    · cases e3
    · injection e3
  subst hn
  exact (h1.stored (i * 6 + k) (.int .i64 z)).1
theorem HG.ops (hh : HG T W base v h) : Ops W W.heap.size v h := by
  obtain ⟨A, c, e, hc, hf⟩ := hh.form
  refine ⟨A, c, e, hc, fun h0 => ?_⟩
  obtain ⟨b, rfl, _, hb⟩ := hf h0
  refine ⟨b, 0, rfl, hb, fun i l hi k u hu => ?_⟩
  have hil : i < h.length := (List.getElem?_eq_some_iff.1 hi).1
  have e2 : lat h i = l := by rw [lat_get hil] at hi; exact Option.some.inj hi
  rw [show 0 + i * 6 + k = i * 6 + k by omega]
  exact hh.cell e hil (by rw [e2]; exact hu)
end
end Go.Proofs.Ytimdhnjkjflbdaa
