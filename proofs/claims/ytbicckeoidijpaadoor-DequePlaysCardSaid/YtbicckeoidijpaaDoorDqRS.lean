/-
  A struct of the reference, by value: in a call's own box, and handed back.
-/
import Derived.Test.YtbicckeoidijpaaDoorSL
namespace Go.Proofs.YtbicckeoidijpaaDoor.Dq
open Go.RowKit

/-- Blocks that the slices keep away from: some, and the call's two. -/
def FB (F : Nat → Prop) (b : Nat) (x : Nat) : Prop := F x ∨ x = b ∨ x = b + 1
/-- What holds of the cells of the struct, apart from blocks F. -/
structure RV (F : Nat → Prop) (W : World) (v0 v1 v2 v3 v4 v5 v6 : Value) (P0 P1 P2 P3 P4 P5 P6 : Pd) : Prop where
  p0 : P0 F W v0
  p1 : P1 F W v1
  p2 : P2 F W v2
  p3 : P3 F W v3
  p4 : P4 F W v4
  p5 : P5 F W v5
  p6 : P6 F W v6
  s0 : Stb P0
  s1 : Stb P1
  s2 : Stb P2
  s3 : Stb P3
  s4 : Stb P4
  s5 : Stb P5
  s6 : Stb P6
section
variable {F F' O : Nat → Prop} {w W W' : World} {b : Nat} {v0 v1 v2 v3 v4 v5 v6 u : Value} {P0 P1 P2 P3 P4 P5 P6 Q : Pd}
theorem RV.touch (h : RV F W v0 v1 v2 v3 v4 v5 v6 P0 P1 P2 P3 P4 P5 P6) (ht : Touch O W W') (hO : ∀ b, b < W.heap.size → O b → F b) : RV F W' v0 v1 v2 v3 v4 v5 v6 P0 P1 P2 P3 P4 P5 P6 :=
  ⟨h.s0.touch ht hO h.p0, h.s1.touch ht hO h.p1, h.s2.touch ht hO h.p2, h.s3.touch ht hO h.p3, h.s4.touch ht hO h.p4, h.s5.touch ht hO h.p5, h.s6.touch ht hO h.p6, h.s0, h.s1, h.s2, h.s3, h.s4, h.s5, h.s6⟩
theorem RV.below (h : RV F W v0 v1 v2 v3 v4 v5 v6 P0 P1 P2 P3 P4 P5 P6) (hb : Below W.heap.size W W') : RV F W' v0 v1 v2 v3 v4 v5 v6 P0 P1 P2 P3 P4 P5 P6 :=
  ⟨h.s0.below hb h.p0, h.s1.below hb h.p1, h.s2.below hb h.p2, h.s3.below hb h.p3, h.s4.below hb h.p4, h.s5.below hb h.p5, h.s6.below hb h.p6, h.s0, h.s1, h.s2, h.s3, h.s4, h.s5, h.s6⟩
theorem RV.more (h : RV F W v0 v1 v2 v3 v4 v5 v6 P0 P1 P2 P3 P4 P5 P6) (hF : ∀ b, b < W.heap.size → F' b → F b) : RV F' W v0 v1 v2 v3 v4 v5 v6 P0 P1 P2 P3 P4 P5 P6 :=
  ⟨h.s0.more hF h.p0, h.s1.more hF h.p1, h.s2.more hF h.p2, h.s3.more hF h.p3, h.s4.more hF h.p4, h.s5.more hF h.p5, h.s6.more hF h.p6, h.s0, h.s1, h.s2, h.s3, h.s4, h.s5, h.s6⟩
end
structure RS (F : Nat → Prop) (w W : World) (b : Nat) (v0 v1 v2 v3 v4 v5 v6 : Value) (P0 P1 P2 P3 P4 P5 P6 : Pd) : Prop where
  box : Block W b 31 #[v0, v1, v2, v3, v4, v5, v6]
  res : Block W (b + 1) 31 #[.slice none 0 0, .int .i64 0, .int .i64 0, .slice none 0 0, .slice none 0 0, .slice none 0 0, .slice none 0 0]
  lo : w.heap.size ≤ b
  bel : Below w.heap.size w W
  frb : ∀ x, F x → x < w.heap.size
  v : RV (FB F b) W v0 v1 v2 v3 v4 v5 v6 P0 P1 P2 P3 P4 P5 P6
section
variable {F : Nat → Prop} {w W W' : World} {b : Nat} {v0 v1 v2 v3 v4 v5 v6 u : Value} {P0 P1 P2 P3 P4 P5 P6 Q : Pd}
theorem RS.hF (h : RS F w W b v0 v1 v2 v3 v4 v5 v6 P0 P1 P2 P3 P4 P5 P6) : ∀ x, FB F b x → x < W.heap.size := fun x hx => by
  have h1 := h.res.lt
  have h2 := h.lo
  rcases hx with hx | hx | hx
  · have := h.frb x hx; omega
  · omega
  · omega
theorem RS.call (h : RS F w W b v0 v1 v2 v3 v4 v5 v6 P0 P1 P2 P3 P4 P5 P6) (hb : Below W.heap.size W W') : RS F w W' b v0 v1 v2 v3 v4 v5 v6 P0 P1 P2 P3 P4 P5 P6 :=
  ⟨h.box.below hb h.box.lt, h.res.below hb h.res.lt, h.lo, h.bel.trans (hb.mono h.bel.size), h.frb, h.v.below hb⟩
theorem RS.q (h : RS F w W b v0 v1 v2 v3 v4 v5 v6 P0 P1 P2 P3 P4 P5 P6) : W.cell? ⟨b, 0, none⟩ = some v0 ∧ W.cell? ⟨b, 1, none⟩ = some v1 ∧ W.cell? ⟨b, 2, none⟩ = some v2 ∧ W.cell? ⟨b, 3, none⟩ = some v3 ∧ W.cell? ⟨b, 4, none⟩ = some v4 ∧ W.cell? ⟨b, 5, none⟩ = some v5 ∧ W.cell? ⟨b, 6, none⟩ = some v6 :=
  ⟨h.box.cell 0, h.box.cell 1, h.box.cell 2, h.box.cell 3, h.box.cell 4, h.box.cell 5, h.box.cell 6⟩
theorem RS.r (h : RS F w W b v0 v1 v2 v3 v4 v5 v6 P0 P1 P2 P3 P4 P5 P6) : W.cell? ⟨b + 1, 0, none⟩ = some (.slice none 0 0) ∧ W.cell? ⟨b + 1, 1, none⟩ = some (.int .i64 0) ∧ W.cell? ⟨b + 1, 2, none⟩ = some (.int .i64 0) ∧ W.cell? ⟨b + 1, 3, none⟩ = some (.slice none 0 0) ∧ W.cell? ⟨b + 1, 4, none⟩ = some (.slice none 0 0) ∧ W.cell? ⟨b + 1, 5, none⟩ = some (.slice none 0 0) ∧ W.cell? ⟨b + 1, 6, none⟩ = some (.slice none 0 0) :=
  ⟨h.res.cell 0, h.res.cell 1, h.res.cell 2, h.res.cell 3, h.res.cell 4, h.res.cell 5, h.res.cell 6⟩
theorem RS.put0 (h : RS F w W b v0 v1 v2 v3 v4 v5 v6 P0 P1 P2 P3 P4 P5 P6) (hs : Stb Q) (hu : Q (FB F b) W u) : RS F w (W.setCell ⟨b, 0, none⟩ u) b u v1 v2 v3 v4 v5 v6 Q P1 P2 P3 P4 P5 P6 :=
  have hp : FB F b b := Or.inr (Or.inl rfl)
  ⟨by have := h.box.put 0 u; simpa using this, h.res.far (by show b + 1 ≠ b; omega) _, h.lo, h.bel.setCell h.lo _, h.frb, hs.put (p := ⟨b, 0, none⟩) hp u hu, h.v.s1.put (p := ⟨b, 0, none⟩) hp u h.v.p1, h.v.s2.put (p := ⟨b, 0, none⟩) hp u h.v.p2, h.v.s3.put (p := ⟨b, 0, none⟩) hp u h.v.p3, h.v.s4.put (p := ⟨b, 0, none⟩) hp u h.v.p4, h.v.s5.put (p := ⟨b, 0, none⟩) hp u h.v.p5, h.v.s6.put (p := ⟨b, 0, none⟩) hp u h.v.p6, hs, h.v.s1, h.v.s2, h.v.s3, h.v.s4, h.v.s5, h.v.s6⟩
theorem RS.put1 (h : RS F w W b v0 v1 v2 v3 v4 v5 v6 P0 P1 P2 P3 P4 P5 P6) (hs : Stb Q) (hu : Q (FB F b) W u) : RS F w (W.setCell ⟨b, 1, none⟩ u) b v0 u v2 v3 v4 v5 v6 P0 Q P2 P3 P4 P5 P6 :=
  have hp : FB F b b := Or.inr (Or.inl rfl)
  ⟨by have := h.box.put 1 u; simpa using this, h.res.far (by show b + 1 ≠ b; omega) _, h.lo, h.bel.setCell h.lo _, h.frb, h.v.s0.put (p := ⟨b, 1, none⟩) hp u h.v.p0, hs.put (p := ⟨b, 1, none⟩) hp u hu, h.v.s2.put (p := ⟨b, 1, none⟩) hp u h.v.p2, h.v.s3.put (p := ⟨b, 1, none⟩) hp u h.v.p3, h.v.s4.put (p := ⟨b, 1, none⟩) hp u h.v.p4, h.v.s5.put (p := ⟨b, 1, none⟩) hp u h.v.p5, h.v.s6.put (p := ⟨b, 1, none⟩) hp u h.v.p6, h.v.s0, hs, h.v.s2, h.v.s3, h.v.s4, h.v.s5, h.v.s6⟩
theorem RS.put2 (h : RS F w W b v0 v1 v2 v3 v4 v5 v6 P0 P1 P2 P3 P4 P5 P6) (hs : Stb Q) (hu : Q (FB F b) W u) : RS F w (W.setCell ⟨b, 2, none⟩ u) b v0 v1 u v3 v4 v5 v6 P0 P1 Q P3 P4 P5 P6 :=
  have hp : FB F b b := Or.inr (Or.inl rfl)
  ⟨by have := h.box.put 2 u; simpa using this, h.res.far (by show b + 1 ≠ b; omega) _, h.lo, h.bel.setCell h.lo _, h.frb, h.v.s0.put (p := ⟨b, 2, none⟩) hp u h.v.p0, h.v.s1.put (p := ⟨b, 2, none⟩) hp u h.v.p1, hs.put (p := ⟨b, 2, none⟩) hp u hu, h.v.s3.put (p := ⟨b, 2, none⟩) hp u h.v.p3, h.v.s4.put (p := ⟨b, 2, none⟩) hp u h.v.p4, h.v.s5.put (p := ⟨b, 2, none⟩) hp u h.v.p5, h.v.s6.put (p := ⟨b, 2, none⟩) hp u h.v.p6, h.v.s0, h.v.s1, hs, h.v.s3, h.v.s4, h.v.s5, h.v.s6⟩
theorem RS.put3 (h : RS F w W b v0 v1 v2 v3 v4 v5 v6 P0 P1 P2 P3 P4 P5 P6) (hs : Stb Q) (hu : Q (FB F b) W u) : RS F w (W.setCell ⟨b, 3, none⟩ u) b v0 v1 v2 u v4 v5 v6 P0 P1 P2 Q P4 P5 P6 :=
  have hp : FB F b b := Or.inr (Or.inl rfl)
  ⟨by have := h.box.put 3 u; simpa using this, h.res.far (by show b + 1 ≠ b; omega) _, h.lo, h.bel.setCell h.lo _, h.frb, h.v.s0.put (p := ⟨b, 3, none⟩) hp u h.v.p0, h.v.s1.put (p := ⟨b, 3, none⟩) hp u h.v.p1, h.v.s2.put (p := ⟨b, 3, none⟩) hp u h.v.p2, hs.put (p := ⟨b, 3, none⟩) hp u hu, h.v.s4.put (p := ⟨b, 3, none⟩) hp u h.v.p4, h.v.s5.put (p := ⟨b, 3, none⟩) hp u h.v.p5, h.v.s6.put (p := ⟨b, 3, none⟩) hp u h.v.p6, h.v.s0, h.v.s1, h.v.s2, hs, h.v.s4, h.v.s5, h.v.s6⟩
theorem RS.put4 (h : RS F w W b v0 v1 v2 v3 v4 v5 v6 P0 P1 P2 P3 P4 P5 P6) (hs : Stb Q) (hu : Q (FB F b) W u) : RS F w (W.setCell ⟨b, 4, none⟩ u) b v0 v1 v2 v3 u v5 v6 P0 P1 P2 P3 Q P5 P6 :=
  have hp : FB F b b := Or.inr (Or.inl rfl)
  ⟨by have := h.box.put 4 u; simpa using this, h.res.far (by show b + 1 ≠ b; omega) _, h.lo, h.bel.setCell h.lo _, h.frb, h.v.s0.put (p := ⟨b, 4, none⟩) hp u h.v.p0, h.v.s1.put (p := ⟨b, 4, none⟩) hp u h.v.p1, h.v.s2.put (p := ⟨b, 4, none⟩) hp u h.v.p2, h.v.s3.put (p := ⟨b, 4, none⟩) hp u h.v.p3, hs.put (p := ⟨b, 4, none⟩) hp u hu, h.v.s5.put (p := ⟨b, 4, none⟩) hp u h.v.p5, h.v.s6.put (p := ⟨b, 4, none⟩) hp u h.v.p6, h.v.s0, h.v.s1, h.v.s2, h.v.s3, hs, h.v.s5, h.v.s6⟩
theorem RS.put5 (h : RS F w W b v0 v1 v2 v3 v4 v5 v6 P0 P1 P2 P3 P4 P5 P6) (hs : Stb Q) (hu : Q (FB F b) W u) : RS F w (W.setCell ⟨b, 5, none⟩ u) b v0 v1 v2 v3 v4 u v6 P0 P1 P2 P3 P4 Q P6 :=
  have hp : FB F b b := Or.inr (Or.inl rfl)
  ⟨by have := h.box.put 5 u; simpa using this, h.res.far (by show b + 1 ≠ b; omega) _, h.lo, h.bel.setCell h.lo _, h.frb, h.v.s0.put (p := ⟨b, 5, none⟩) hp u h.v.p0, h.v.s1.put (p := ⟨b, 5, none⟩) hp u h.v.p1, h.v.s2.put (p := ⟨b, 5, none⟩) hp u h.v.p2, h.v.s3.put (p := ⟨b, 5, none⟩) hp u h.v.p3, h.v.s4.put (p := ⟨b, 5, none⟩) hp u h.v.p4, hs.put (p := ⟨b, 5, none⟩) hp u hu, h.v.s6.put (p := ⟨b, 5, none⟩) hp u h.v.p6, h.v.s0, h.v.s1, h.v.s2, h.v.s3, h.v.s4, hs, h.v.s6⟩
theorem RS.put6 (h : RS F w W b v0 v1 v2 v3 v4 v5 v6 P0 P1 P2 P3 P4 P5 P6) (hs : Stb Q) (hu : Q (FB F b) W u) : RS F w (W.setCell ⟨b, 6, none⟩ u) b v0 v1 v2 v3 v4 v5 u P0 P1 P2 P3 P4 P5 Q :=
  have hp : FB F b b := Or.inr (Or.inl rfl)
  ⟨by have := h.box.put 6 u; simpa using this, h.res.far (by show b + 1 ≠ b; omega) _, h.lo, h.bel.setCell h.lo _, h.frb, h.v.s0.put (p := ⟨b, 6, none⟩) hp u h.v.p0, h.v.s1.put (p := ⟨b, 6, none⟩) hp u h.v.p1, h.v.s2.put (p := ⟨b, 6, none⟩) hp u h.v.p2, h.v.s3.put (p := ⟨b, 6, none⟩) hp u h.v.p3, h.v.s4.put (p := ⟨b, 6, none⟩) hp u h.v.p4, h.v.s5.put (p := ⟨b, 6, none⟩) hp u h.v.p5, hs.put (p := ⟨b, 6, none⟩) hp u hu, h.v.s0, h.v.s1, h.v.s2, h.v.s3, h.v.s4, h.v.s5, hs⟩
theorem RS.told (h : RS F w W b v0 v1 v2 v3 v4 v5 v6 P0 P1 P2 P3 P4 P5 P6) : Block (((((((W.setCell ⟨b + 1, 0, none⟩ v0).setCell ⟨b + 1, 1, none⟩ v1).setCell ⟨b + 1, 2, none⟩ v2).setCell ⟨b + 1, 3, none⟩ v3).setCell ⟨b + 1, 4, none⟩ v4).setCell ⟨b + 1, 5, none⟩ v5).setCell ⟨b + 1, 6, none⟩ v6) (b + 1) 31 #[v0, v1, v2, v3, v4, v5, v6] ∧ Below w.heap.size w (((((((W.setCell ⟨b + 1, 0, none⟩ v0).setCell ⟨b + 1, 1, none⟩ v1).setCell ⟨b + 1, 2, none⟩ v2).setCell ⟨b + 1, 3, none⟩ v3).setCell ⟨b + 1, 4, none⟩ v4).setCell ⟨b + 1, 5, none⟩ v5).setCell ⟨b + 1, 6, none⟩ v6) ∧ RV F (((((((W.setCell ⟨b + 1, 0, none⟩ v0).setCell ⟨b + 1, 1, none⟩ v1).setCell ⟨b + 1, 2, none⟩ v2).setCell ⟨b + 1, 3, none⟩ v3).setCell ⟨b + 1, 4, none⟩ v4).setCell ⟨b + 1, 5, none⟩ v5).setCell ⟨b + 1, 6, none⟩ v6) v0 v1 v2 v3 v4 v5 v6 P0 P1 P2 P3 P4 P5 P6 := by
  have hlo := h.lo
  have hb : w.heap.size ≤ b + 1 := by omega
  have hp : FB F b (b + 1) := Or.inr (Or.inr rfl)
  refine ⟨?_, ((((((h.bel.setCell hb _).setCell hb _).setCell hb _).setCell hb _).setCell hb _).setCell hb _).setCell hb _, ?_⟩
  · have := ((((((h.res.put 0 v0).put 1 v1).put 2 v2).put 3 v3).put 4 v4).put 5 v5).put 6 v6
    simpa using this
  · exact (⟨h.v.s0.put (p := ⟨b + 1, 6, none⟩) hp v6 (h.v.s0.put (p := ⟨b + 1, 5, none⟩) hp v5 (h.v.s0.put (p := ⟨b + 1, 4, none⟩) hp v4 (h.v.s0.put (p := ⟨b + 1, 3, none⟩) hp v3 (h.v.s0.put (p := ⟨b + 1, 2, none⟩) hp v2 (h.v.s0.put (p := ⟨b + 1, 1, none⟩) hp v1 (h.v.s0.put (p := ⟨b + 1, 0, none⟩) hp v0 (h.v.p0))))))), h.v.s1.put (p := ⟨b + 1, 6, none⟩) hp v6 (h.v.s1.put (p := ⟨b + 1, 5, none⟩) hp v5 (h.v.s1.put (p := ⟨b + 1, 4, none⟩) hp v4 (h.v.s1.put (p := ⟨b + 1, 3, none⟩) hp v3 (h.v.s1.put (p := ⟨b + 1, 2, none⟩) hp v2 (h.v.s1.put (p := ⟨b + 1, 1, none⟩) hp v1 (h.v.s1.put (p := ⟨b + 1, 0, none⟩) hp v0 (h.v.p1))))))), h.v.s2.put (p := ⟨b + 1, 6, none⟩) hp v6 (h.v.s2.put (p := ⟨b + 1, 5, none⟩) hp v5 (h.v.s2.put (p := ⟨b + 1, 4, none⟩) hp v4 (h.v.s2.put (p := ⟨b + 1, 3, none⟩) hp v3 (h.v.s2.put (p := ⟨b + 1, 2, none⟩) hp v2 (h.v.s2.put (p := ⟨b + 1, 1, none⟩) hp v1 (h.v.s2.put (p := ⟨b + 1, 0, none⟩) hp v0 (h.v.p2))))))), h.v.s3.put (p := ⟨b + 1, 6, none⟩) hp v6 (h.v.s3.put (p := ⟨b + 1, 5, none⟩) hp v5 (h.v.s3.put (p := ⟨b + 1, 4, none⟩) hp v4 (h.v.s3.put (p := ⟨b + 1, 3, none⟩) hp v3 (h.v.s3.put (p := ⟨b + 1, 2, none⟩) hp v2 (h.v.s3.put (p := ⟨b + 1, 1, none⟩) hp v1 (h.v.s3.put (p := ⟨b + 1, 0, none⟩) hp v0 (h.v.p3))))))), h.v.s4.put (p := ⟨b + 1, 6, none⟩) hp v6 (h.v.s4.put (p := ⟨b + 1, 5, none⟩) hp v5 (h.v.s4.put (p := ⟨b + 1, 4, none⟩) hp v4 (h.v.s4.put (p := ⟨b + 1, 3, none⟩) hp v3 (h.v.s4.put (p := ⟨b + 1, 2, none⟩) hp v2 (h.v.s4.put (p := ⟨b + 1, 1, none⟩) hp v1 (h.v.s4.put (p := ⟨b + 1, 0, none⟩) hp v0 (h.v.p4))))))), h.v.s5.put (p := ⟨b + 1, 6, none⟩) hp v6 (h.v.s5.put (p := ⟨b + 1, 5, none⟩) hp v5 (h.v.s5.put (p := ⟨b + 1, 4, none⟩) hp v4 (h.v.s5.put (p := ⟨b + 1, 3, none⟩) hp v3 (h.v.s5.put (p := ⟨b + 1, 2, none⟩) hp v2 (h.v.s5.put (p := ⟨b + 1, 1, none⟩) hp v1 (h.v.s5.put (p := ⟨b + 1, 0, none⟩) hp v0 (h.v.p5))))))), h.v.s6.put (p := ⟨b + 1, 6, none⟩) hp v6 (h.v.s6.put (p := ⟨b + 1, 5, none⟩) hp v5 (h.v.s6.put (p := ⟨b + 1, 4, none⟩) hp v4 (h.v.s6.put (p := ⟨b + 1, 3, none⟩) hp v3 (h.v.s6.put (p := ⟨b + 1, 2, none⟩) hp v2 (h.v.s6.put (p := ⟨b + 1, 1, none⟩) hp v1 (h.v.s6.put (p := ⟨b + 1, 0, none⟩) hp v0 (h.v.p6))))))), h.v.s0, h.v.s1, h.v.s2, h.v.s3, h.v.s4, h.v.s5, h.v.s6⟩ : RV (FB F b) _ v0 v1 v2 v3 v4 v5 v6 P0 P1 P2 P3 P4 P5 P6).more fun _ _ h => Or.inl h
theorem RS.start (h : RV F w v0 v1 v2 v3 v4 v5 v6 P0 P1 P2 P3 P4 P5 P6) (hF : ∀ x, F x → x < w.heap.size) : RS F w ((w.alloc (.cells #[v0, v1, v2, v3, v4, v5, v6] 31)).alloc (.cells #[.slice none 0 0, .int .i64 0, .int .i64 0, .slice none 0 0, .slice none 0 0, .slice none 0 0, .slice none 0 0] 31)) w.heap.size v0 v1 v2 v3 v4 v5 v6 P0 P1 P2 P3 P4 P5 P6 := by
  have hb : Below w.heap.size w ((w.alloc (.cells #[v0, v1, v2, v3, v4, v5, v6] 31)).alloc (.cells #[.slice none 0 0, .int .i64 0, .int .i64 0, .slice none 0 0, .slice none 0 0, .slice none 0 0, .slice none 0 0] 31)) := ((Below.refl _ w).alloc (Nat.le_refl _) _).alloc (by simp) _
  refine ⟨(Block.made w _ _).alloc _, ?_, Nat.le_refl _, hb, hF, (h.more fun x h1 h2 => ?_).below hb⟩
  · have := Block.made (w.alloc (.cells #[v0, v1, v2, v3, v4, v5, v6] 31)) 31 #[.slice none 0 0, .int .i64 0, .int .i64 0, .slice none 0 0, .slice none 0 0, .slice none 0 0, .slice none 0 0]
    rwa [World.size_alloc] at this
  · rcases h2 with h2 | h2 | h2
    · exact h2
    · omega
    · omega
end
section
variable {P : Program}
theorem results_cell2 {fn : Func} {p u : Tmp} {ty : TypeId} (h : fn.results = #[.cell p ty, .tmp u]) (tmps : Array Value) (w : World) (g : Nat) (t : TypeId) (cs : Array Value) (fr : Nat × Nat) (d : TypeDesc)
    (hp : tmps.getD p undef = .pointer (some ⟨g, 0, none⟩)) (hg : w.heap[g]? = some (.cells cs t fr))
    (hu : P.underlying ty = some d) (hd : (match d with | .struct _ | .array _ _ => true | _ => false) = true) (hi : (P.info? ty).map (·.size) = some cs.size) :
    (results fn tmps).run P w = .ok (.tuple #[.agg cs, tmps.getD u undef]) w := by
  have hp' : tmps[p]?.getD undef = .pointer (some ⟨g, 0, none⟩) := by simpa using hp
  simp [results, h, hp', asAddr, run_loadVar_row w g t ty cs fr d hg hu hd hi]
theorem results_cell3 {fn : Func} {p a b : Tmp} {ty : TypeId} (h : fn.results = #[.cell p ty, .tmp a, .tmp b]) (tmps : Array Value) (w : World) (g : Nat) (t : TypeId) (cs : Array Value) (fr : Nat × Nat) (d : TypeDesc)
    (hp : tmps.getD p undef = .pointer (some ⟨g, 0, none⟩)) (hg : w.heap[g]? = some (.cells cs t fr))
    (hu : P.underlying ty = some d) (hd : (match d with | .struct _ | .array _ _ => true | _ => false) = true) (hi : (P.info? ty).map (·.size) = some cs.size) :
    (results fn tmps).run P w = .ok (.tuple #[.agg cs, tmps.getD a undef, tmps.getD b undef]) w := by
  have hp' : tmps[p]?.getD undef = .pointer (some ⟨g, 0, none⟩) := by simpa using hp
  simp [results, h, hp', asAddr, run_loadVar_row w g t ty cs fr d hg hu hd hi]
theorem results_cell4 {fn : Func} {p a b c : Tmp} {ty : TypeId} (h : fn.results = #[.cell p ty, .tmp a, .tmp b, .tmp c]) (tmps : Array Value) (w : World) (g : Nat) (t : TypeId) (cs : Array Value) (fr : Nat × Nat) (d : TypeDesc)
    (hp : tmps.getD p undef = .pointer (some ⟨g, 0, none⟩)) (hg : w.heap[g]? = some (.cells cs t fr))
    (hu : P.underlying ty = some d) (hd : (match d with | .struct _ | .array _ _ => true | _ => false) = true) (hi : (P.info? ty).map (·.size) = some cs.size) :
    (results fn tmps).run P w = .ok (.tuple #[.agg cs, tmps.getD a undef, tmps.getD b undef, tmps.getD c undef]) w := by
  have hp' : tmps[p]?.getD undef = .pointer (some ⟨g, 0, none⟩) := by simpa using hp
  simp [results, h, hp', asAddr, run_loadVar_row w g t ty cs fr d hg hu hd hi]
end
end Go.Proofs.YtbicckeoidijpaaDoor.Dq
