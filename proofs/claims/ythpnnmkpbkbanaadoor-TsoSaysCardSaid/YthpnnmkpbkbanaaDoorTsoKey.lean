/-
  The states' numbers as a map's key; what (tso.state).ended answers.
-/
import Derived.Test.YthpnnmkpbkbanaaDoorTsoWd
import Derived.Test.YthpnnmkpbkbanaaDoorKey
import Derived.Test.YthpnnmkpbkbanaaDoorRacing
namespace Go.Proofs.YthpnnmkpbkbanaaDoor
open Go.RowKit Go.Maps

/-! ### Numbers as a key -/
def Wf (zs : List Int) : Prop := ∀ x ∈ zs, (Lit.int .i64 x).wf = true
def FlatI (d : Nat) (t : TypeId) : Prop := ∀ zs : List Int, zs.length = Tryd.prog.cellsOf t → Wf zs → Tryd.prog.keyLits d t (zs.map (Value.int .i64)) = some (zs.map (Lit.int .i64))
theorem flat_int (d : Nat) : FlatI (d + 1) 3 := by
  intro zs hl hw
  rw [Tkey.c1] at hl
  match zs, hl with
  | [x], _ => exact kl_int d x (hw x (by simp))
theorem chunks (k : Nat) : ∀ (n : Nat) (zs : List Int), zs.length = n * k → ((List.range n).map fun i => (zs.drop (i * k)).take k).flatten = zs := by
  suffices ∀ (n : Nat) (zs : List Int), ((List.range n).map fun i => (zs.drop (i * k)).take k).flatten = zs.take (n * k) by
    intro n zs h; rw [this, ← h, List.take_length]
  intro n zs
  induction n with
  | zero => simp
  | succ n ih =>
    rw [List.range_succ, List.map_append, List.flatten_append, ih, Nat.succ_mul, List.take_add]
    simp
theorem map_chunks (k n : Nat) (zs : List Int) : ((List.range n).map fun i => (((zs.drop (i * k)).take k).map (Lit.int .i64))) = (((List.range n).map fun i => (zs.drop (i * k)).take k)).map (List.map (Lit.int .i64)) := by
  rw [List.map_map]; exact List.map_congr_left fun _ _ => rfl
theorem mapM_some {α β : Type} (f : α → Option β) (g : α → β) : ∀ l : List α, (∀ x ∈ l, f x = some (g x)) → l.mapM f = some (l.map g)
  | [], _ => rfl
  | x :: r, h => by
    rw [List.mapM_cons, h x (by simp), mapM_some f g r fun y hy => h y (by simp [hy])]
    rfl
theorem flat_array {d n : Nat} {t e : TypeId} (hu : Tryd.prog.underlying t = some (.array n e)) (hc : Tryd.prog.cellsOf t = n * Tryd.prog.cellsOf e) (h : FlatI d e) : FlatI (d + 1) t := by
  intro zs hl hw
  rw [hc] at hl
  rw [Program.keyLits]
  case heq => exact hu
  rw [if_pos (by rw [List.length_map, hl, hc]), mapM_some _ (fun i => (((zs.drop (i * Tryd.prog.cellsOf e)).take (Tryd.prog.cellsOf e)).map (Lit.int .i64))) _ (fun i hi => by
    rw [← List.map_drop, ← List.map_take]
    refine h _ ?_ fun x hx => hw x (List.mem_of_mem_drop (List.mem_of_mem_take hx))
    have hi' : i < n := List.mem_range.1 hi
    have : (i + 1) * Tryd.prog.cellsOf e ≤ n * Tryd.prog.cellsOf e := Nat.mul_le_mul_right _ hi'
    rw [Nat.succ_mul] at this
    rw [List.length_take, List.length_drop, hl]
    omega)]
  have hch := chunks (Tryd.prog.cellsOf e) n zs hl
  simp only [Option.map_some, Option.some.injEq]
  rw [map_chunks, ← List.map_flatten, hch]
theorem flat_struct {d : Nat} {t : TypeId} {fs : Array Field} {f g : Field} (hu : Tryd.prog.underlying t = some (.struct fs)) (hf : fs.toList = [f, g]) (hn : fs.all (·.name != "_") = true) (h0 : f.offset = 0) (h1 : g.offset = Tryd.prog.cellsOf f.type)
    (hc : Tryd.prog.cellsOf t = Tryd.prog.cellsOf f.type + Tryd.prog.cellsOf g.type) (ha : FlatI d f.type) (hb : FlatI d g.type) : FlatI (d + 1) t := by
  intro zs hl hw
  simp only [Program.keyLits, hu]
  rw [if_pos ⟨by rw [List.length_map, hl], hn⟩, hf]
  have k1 := ha (zs.take (Tryd.prog.cellsOf f.type)) (by rw [List.length_take, hl, hc]; omega) fun x hx => hw x (List.mem_of_mem_take hx)
  have k2 := hb (zs.drop (Tryd.prog.cellsOf f.type)) (by rw [List.length_drop, hl, hc]; omega) fun x hx => hw x (List.mem_of_mem_drop hx)
  have e1 : ((zs.map (Value.int .i64)).drop f.offset).take (Tryd.prog.cellsOf f.type) = (zs.take (Tryd.prog.cellsOf f.type)).map (Value.int .i64) := by rw [h0, List.drop_zero, List.map_take]
  have e2 : ((zs.map (Value.int .i64)).drop g.offset).take (Tryd.prog.cellsOf g.type) = (zs.drop (Tryd.prog.cellsOf f.type)).map (Value.int .i64) := by
    rw [h1, ← List.map_drop, List.take_of_length_le (by rw [List.length_map, List.length_drop, hl, hc]; omega)]
  simp only [List.mapM_cons, List.mapM_nil, e1, e2, k1, k2]
  simp

theorem T62.c : Tryd.prog.cellsOf 78 = 33 := by kernel_rfl
theorem T64.c : Tryd.prog.cellsOf 80 = 49 := by kernel_rfl
theorem flat58 (d : Nat) : FlatI (d + 2) 74 := flat_struct Tryd.underlying74 rfl (by simp) rfl (by kernel_rfl) (by kernel_rfl) (flat_int d) (flat_int d)
theorem flat59 (d : Nat) : FlatI (d + 3) 75 := flat_array Tryd.underlying75 (by kernel_rfl) (flat58 d)
theorem flat61 (d : Nat) : FlatI (d + 4) 77 := flat_struct Tryd.underlying77 rfl (by simp) rfl (by kernel_rfl) (by kernel_rfl) (flat_int (d + 2)) (flat59 d)
theorem flat62 (d : Nat) : FlatI (d + 5) 78 := flat_array Tryd.underlying78 (by kernel_rfl) (flat61 d)
theorem flat47 (d : Nat) : FlatI (d + 2) 61 := flat_array Tryd.underlying61 (by kernel_rfl) (flat_int d)
theorem flat49 (d : Nat) : FlatI (d + 3) 63 := flat_array Tryd.underlying63 (by kernel_rfl) (flat47 d)
theorem flat64 (d : Nat) : FlatI (d + 6) 80 := flat_struct Tryd.underlying80 rfl (by simp) rfl (by kernel_rfl) (by kernel_rfl) (flat49 (d + 2)) (flat62 d)
set_option maxRecDepth 100000 in
theorem T64.wide : (match Tryd.prog.underlying 80 with | some (.array _ _) | some (.struct _) => true | _ => false) = true := by
  generalize h : Tryd.prog.underlying 80 = d
  rw [Tryd.underlying80] at h
  subst h
  rfl
theorem T64.row : (80 : TypeId) < Tryd.prog.types.size := of_decide_eq_true (by kernel_rfl)
set_option maxRecDepth 100000 in
theorem T64.law : Keyed Tryd.prog 80 := Keyed.of_law (deep_law_laid Tkey.laid (m := 6) (by omega) T64.row (by kernel_rfl) T64.wide)
theorem T64.type : Tryd.prog.keyType 80 = true := by kernel_rfl
theorem T62.type : Tryd.prog.keyType 78 = true := by kernel_rfl
theorem key_of {t : TypeId} {d : TypeDesc} (hu : Tryd.prog.underlying t = some d) (hd : d.isRow = true) (hk : Tryd.prog.keyType t = true) (h : FlatI (201 + 1) t) (zs : List Int) (hl : zs.length = Tryd.prog.cellsOf t) (hw : Wf zs) :
    keyOf Tryd.prog t (.agg (row zs)) = some (.string (keyBytes (zs.map (Lit.int .i64)))) := by
  have hf : (Value.agg (row zs)).formed Tryd.prog t = true := by
    cases d <;> first | (cases hd; done) | simp [Value.formed, hu, row_size, hl]
  have hk2 : Tryd.prog.keyLits (Tryd.prog.types.size + 1) t (Value.agg (row zs)).cells.toList = some (zs.map (Lit.int .i64)) := by
    rw [Tkey.types]
    exact h zs hl hw
  unfold keyOf
  cases d <;> first | (cases hd; done) | simp only [hu, hk, hf, hk2, Bool.and_self, if_true, Option.map_some]
theorem lits_inj : ∀ {xs ys : List Int}, xs.map (Lit.int .i64) = ys.map (Lit.int .i64) → xs = ys
  | [], [], _ => rfl
  | x :: r, y :: s, h => by
    simp only [List.map_cons, List.cons.injEq, Lit.int.injEq, true_and] at h
    rw [h.1, lits_inj h.2]
/-- Two rows of what waits are the same just if their numbers are. -/
theorem eql62 (xs ys : List Int) (hx : xs.length = 33) (hy : ys.length = 33) (wx : Wf xs) (wy : Wf ys) (w : World) : (Op.equal 78 (.agg (row xs)) (.agg (row ys))).run Tryd.prog w = .ok (decide (xs = ys)) w := by
  have k1 := flat62 (201 + 1 - 5) xs (by rw [T62.c]; exact hx) wx
  have k2 := flat62 (201 + 1 - 5) ys (by rw [T62.c]; exact hy) wy
  have fx : (Value.agg (row xs)).formed Tryd.prog 78 = true := by simp [Value.formed, Tryd.underlying78, row_size, hx, T62.c]
  have fy : (Value.agg (row ys)).formed Tryd.prog 78 = true := by simp [Value.formed, Tryd.underlying78, row_size, hy, T62.c]
  obtain ⟨r, hr, hiff⟩ := run_equalIn_deep (P := Tryd.prog) (10000 - 5) 5 78 (by kernel_rfl) w _ _ (.agg (row xs)) (.agg (row ys)) _ _ fx fy k1 k2
  have hr' : (Op.equal 78 (.agg (row xs)) (.agg (row ys))).run Tryd.prog w = .ok r w := hr
  have hb : r = decide (xs = ys) := by
    rw [Bool.eq_iff_iff, hiff, decide_eq_true_eq]
    exact ⟨lits_inj, fun h => by rw [h]⟩
  rw [hr', hb]
end Go.Proofs.YthpnnmkpbkbanaaDoor
