/-
  A state as a map's key; a set of states.
-/
import Derived.Test.YthpnnmkpbkbanaaDoorRowAp
import Derived.Test.YthpnnmkpbkbanaaDoorScM
import Derived.Test.YthpnnmkpbkbanaaDoorChecked
import Derived.Maps.OwnSet
import Derived.Maps.Views
import Derived.DeepKeys4
namespace Go.Proofs.YthpnnmkpbkbanaaDoor
open Go.RowKit Go.Maps

theorem Tkey.laid : laidOutB Tryd.prog = true := by kernel_rfl
theorem Tkey.row : (63 : TypeId) < Tryd.prog.types.size := of_decide_eq_true (by kernel_rfl)
set_option maxRecDepth 100000 in
theorem Tkey.wide : (match Tryd.prog.underlying 63 with | some (.array _ _) | some (.struct _) => true | _ => false) = true := by
  generalize h : Tryd.prog.underlying 63 = d
  rw [Tryd.underlying63] at h
  subst h
  rfl
set_option maxRecDepth 100000 in
theorem Tkey.law : Keyed Tryd.prog 63 := Keyed.of_law (deep_law_laid Tkey.laid (m := 3) (by omega) Tkey.row (by kernel_rfl) Tkey.wide)
theorem Tkey.types : Tryd.prog.types.size = 201 := by kernel_rfl
theorem Tkey.type : Tryd.prog.keyType 63 = true := by kernel_rfl
theorem Tkey.c16 : Tryd.prog.cellsOf 63 = 16 := by kernel_rfl
theorem Tkey.c4 : Tryd.prog.cellsOf 61 = 4 := by kernel_rfl
theorem Tkey.c1 : Tryd.prog.cellsOf 3 = 1 := by kernel_rfl
theorem l16 (l : List Int) (h : l.length = 16) : ∃ z0 z1 z2 z3 z4 z5 z6 z7 z8 z9 z10 z11 z12 z13 z14 z15, l = [z0, z1, z2, z3, z4, z5, z6, z7, z8, z9, z10, z11, z12, z13, z14, z15] := by
  match l, h with
  | [z0, z1, z2, z3, z4, z5, z6, z7, z8, z9, z10, z11, z12, z13, z14, z15], _ => exact ⟨z0, z1, z2, z3, z4, z5, z6, z7, z8, z9, z10, z11, z12, z13, z14, z15, rfl⟩
theorem kl_int (d : Nat) (x : Int) (h : (Lit.int .i64 x).wf = true) : Tryd.prog.keyLits (d + 1) 3 [.int .i64 x] = some [.int .i64 x] := by
  simp [Program.keyLits, Tryd.underlying3, h]
theorem kl_4 (d : Nat) (x y u v : Int) (h1 : (Lit.int .i64 x).wf = true) (h2 : (Lit.int .i64 y).wf = true) (h3 : (Lit.int .i64 u).wf = true) (h4 : (Lit.int .i64 v).wf = true) :
    Tryd.prog.keyLits (d + 2) 61 [.int .i64 x, .int .i64 y, .int .i64 u, .int .i64 v] = some [.int .i64 x, .int .i64 y, .int .i64 u, .int .i64 v] := by
  rw [Program.keyLits]
  case heq => exact Tryd.underlying61
  rw [if_pos (by rw [Tkey.c4]; rfl)]
  simp only [show List.range 4 = [0, 1, 2, 3] from rfl, List.mapM_cons, List.mapM_nil, Tkey.c1]
  simp [kl_int, h1, h2, h3, h4]
set_option maxRecDepth 100000 in
theorem key_row (z : List Int) (h : z.length = 16) (hr : Rng z) : ∃ l, keyOf Tryd.prog 63 (.agg (row z)) = some l := by
  have hw : ∀ x ∈ z, (Lit.int .i64 x).wf = true := fun x hx => by have := hr.wf x hx; exact WalkArith.wf_i64 this
  obtain ⟨z0, z1, z2, z3, z4, z5, z6, z7, z8, z9, z10, z11, z12, z13, z14, z15, rfl⟩ := l16 z h
  simp only [List.mem_cons, List.not_mem_nil, or_false, forall_eq_or_imp, forall_eq] at hw
  obtain ⟨w0, w1, w2, w3, w4, w5, w6, w7, w8, w9, w10, w11, w12, w13, w14, w15⟩ := hw
  have hf : (Value.agg (row [z0, z1, z2, z3, z4, z5, z6, z7, z8, z9, z10, z11, z12, z13, z14, z15])).formed Tryd.prog 63 = true := by
    simp only [Value.formed, Tryd.underlying63, Tkey.c16]
    rfl
  have hk : ∃ L, Tryd.prog.keyLits (Tryd.prog.types.size + 1) 63 (Value.agg (row [z0, z1, z2, z3, z4, z5, z6, z7, z8, z9, z10, z11, z12, z13, z14, z15])).cells.toList = some L := by
    rw [Tkey.types]
    show ∃ L, Tryd.prog.keyLits (201 + 1) 63 [.int .i64 z0, .int .i64 z1, .int .i64 z2, .int .i64 z3, .int .i64 z4, .int .i64 z5, .int .i64 z6, .int .i64 z7, .int .i64 z8, .int .i64 z9, .int .i64 z10, .int .i64 z11, .int .i64 z12, .int .i64 z13, .int .i64 z14, .int .i64 z15] = some L
    generalize hd : 201 - 2 = d
    have hd' : 201 = d + 2 := by omega
    rw [hd', Program.keyLits]
    case heq => exact Tryd.underlying63
    rw [if_pos (by rw [Tkey.c16]; rfl)]
    simp only [show List.range 4 = [0, 1, 2, 3] from rfl, List.mapM_cons, List.mapM_nil, Tkey.c4]
    simp [kl_4, w0, w1, w2, w3, w4, w5, w6, w7, w8, w9, w10, w11, w12, w13, w14, w15]
  obtain ⟨L, hL⟩ := hk
  unfold keyOf
  simp only [Tryd.underlying63]
  rw [Tkey.type, hf, hL]
  exact ⟨_, rfl⟩
theorem row_inj {y z : List Int} (h : row y = row z) : y = z := by
  have h1 := congrArg Array.toList h
  simp only [row, List.toList_toArray] at h1
  exact List.map_inj_right (f := Value.int .i64) (fun a b e => by injection e) |>.1 h1

/-- Block m is the set of the states ks. -/
def Known (w : World) (m : Nat) (ks : List (List Int)) : Prop :=
  ∃ D : DataW Unit, w.ownsMap Tryd.prog 63 unitElem m ks.length D ∧ ∀ z kl, z.length = 16 → keyOf Tryd.prog 63 (.agg (row z)) = some kl → Maps.has D kl = decide (z ∈ ks)
theorem Known.made (w : World) : Known (w.alloc (.map #[] 0)) w.heap.size [] := ⟨.map [], World.ownsMap_made _ _ _ _, fun z kl _ _ => by simp [Maps.has]⟩
theorem Known.lt {w : World} {m : Nat} {ks : List (List Int)} (h : Known w m ks) : m < w.heap.size := by
  obtain ⟨D, h, _⟩ := h
  exact h.lt
theorem Known.touch {O : Nat → Prop} {w w' : World} {m : Nat} {ks : List (List Int)} (h : Known w m ks) (k : Touch O w w') (hn : ¬ O m) : Known w' m ks := by
  obtain ⟨D, ⟨es, clock, hb, r⟩, h2⟩ := h
  exact ⟨D, ⟨es, clock, (k.block m (Array.getElem?_eq_some_iff.1 hb).1 hn).trans hb, r⟩, h2⟩
end Go.Proofs.YthpnnmkpbkbanaaDoor
