/-
  What the laws of rows write down beside an object: who does which op, the history.
-/
import Derived.Test.YtimdhnjkjflbdaaLinApp
import Derived.Test.YtimdhnjkjflbdaaElcMath
namespace Go.Proofs.Ytimdhnjkjflbdaa.Lin
open Go.RowKit

structure WM (W : World) (mb n base : Nat) (hx : Value) (H : List LO) (mine : Nat → Nat) : Prop where
  mlt : mb < base
  bs : base ≤ W.heap.size
  mc : ∀ q, q < n → W.cell? ⟨mb, q, none⟩ = some (.int .i64 ((mine q : Nat) : Int))
  mf : ∀ j, W.frozen? ⟨mb, j, none⟩ = false
  hg : HG 34 W base hx H
section
variable {W W' : World} {mb n base g : Nat} {hx : Value} {H : List LO} {mine : Nat → Nat}
theorem WM.lt (h : WM W mb n base hx H mine) : mb < W.heap.size := by have := h.mlt; have := h.bs; omega
theorem WM.touch {O : Nat → Prop} (h : WM W mb n base hx H mine) (ht : Touch O W W') (hO : ∀ k, O k → k ≠ mb ∧ (k < base ∨ W.heap.size ≤ k)) : WM W' mb n base hx H mine :=
  ⟨h.mlt, Nat.le_trans h.bs ht.size, fun q hq => (ht.cell (p := ⟨mb, q, none⟩) h.lt fun e => (hO _ e).1 rfl).trans (h.mc q hq), fun j => (ht.frozen (p := ⟨mb, j, none⟩) h.lt fun e => (hO _ e).1 rfl).trans (h.mf j),
    h.hg.touch ht fun k hk e => by have := h.hg.lt hk; have := (hO k e).2; omega⟩
theorem WM.obj (h : WM W mb n base hx H mine) (ht : Touch (fun k => k = g) W W') (hg : g < mb) : WM W' mb n base hx H mine :=
  h.touch ht fun k e => by have := h.mlt; omega
theorem WM.below (h : WM W mb n base hx H mine) (hb : Below W.heap.size W W') : WM W' mb n base hx H mine :=
  h.touch (O := fun k => W.heap.size ≤ k) (Touch.of_below hb fun _ h _ => h) fun k e => by have := h.lt; omega
theorem WM.mput (h : WM W mb n base hx H mine) (p m : Nat) : WM (W.setCell ⟨mb, p, none⟩ (.int .i64 (m : Int))) mb n base hx H (eup mine p m) := by
  refine ⟨h.mlt, by simp only [World.setCell, Array.size_modify]; exact h.bs, fun q hq => ?_, fun j => by rw [World.frozen?_setCell]; exact h.mf j, h.hg.touch (O := fun k => k = mb) ((Touch.refl (fun k => k = mb) W).setCell (p := ⟨mb, p, none⟩) (Or.inl rfl) _) fun k hk e => by have := h.hg.lt hk; have := h.mlt; omega⟩
  by_cases e : q = p
  · subst e
    rw [World.cell?_setCell_same _ _ _ (h.mc q hq)]
    simp [eup]
  · rw [World.cell?_setCell_other _ _ _ _ fun c => e (by injection c with _ c; exact c.symm), h.mc q hq]
    simp [eup, e]
theorem WM.app {v' : Value} {z : LO} (h : WM W mb n base hx H mine) (hg' : HG 34 W' base v' (H ++ [z])) (ht : Touch (fun k => hx.ownBlock = some k) W W') : WM W' mb n base v' (H ++ [z]) mine :=
  ⟨h.mlt, Nat.le_trans h.bs ht.size, fun q hq => (ht.cell (p := ⟨mb, q, none⟩) h.lt fun e => by have := h.hg.lt (k := mb) e; have := h.mlt; omega).trans (h.mc q hq), fun j => (ht.frozen (p := ⟨mb, j, none⟩) h.lt fun e => by have := h.hg.lt (k := mb) e; have := h.mlt; omega).trans (h.mf j), hg'⟩
/-- An op ends: what it got, and when. -/
theorem WM.got {b c : Nat} {z t : Int} {i : Nat} (h : WM W mb n base (.slice (some ⟨b, 0, none⟩) H.length c) H mine) (hi : i < H.length) :
    WM ((W.setCell ⟨b, i * 6 + 3, none⟩ (.int .i64 z)).setCell ⟨b, i * 6 + 5, none⟩ (.int .i64 t)) mb n base (.slice (some ⟨b, 0, none⟩) H.length c) (H.set i { lat H i with gt := z, «to» := t }) mine ∧ Touch (fun k => k = b) W ((W.setCell ⟨b, i * 6 + 3, none⟩ (.int .i64 z)).setCell ⟨b, i * 6 + 5, none⟩ (.int .i64 t)) := by
  have hb := h.hg.lt (k := b) rfl
  have ht : Touch (fun k => k = b) W ((W.setCell ⟨b, i * 6 + 3, none⟩ (.int .i64 z)).setCell ⟨b, i * 6 + 5, none⟩ (.int .i64 t)) := ((Touch.refl (fun k => k = b) W).setCell (p := ⟨b, i * 6 + 3, none⟩) (Or.inl rfl) _).setCell (p := ⟨b, i * 6 + 5, none⟩) (Or.inl rfl) _
  have hp1 := h.hg.put rfl hi (k := 3) (z := z) (o' := { lat H i with gt := z }) (by omega) rfl
  have hp2 := hp1.put rfl (i := i) (k := 5) (z := t) (o' := { lat H i with gt := z, «to» := t }) (by rw [List.length_set]; exact hi) (by omega) (by rw [lat_set, if_pos ⟨rfl, hi⟩]; rfl)
  rw [List.set_set] at hp2
  have hm := h.mlt
  exact ⟨⟨h.mlt, Nat.le_trans h.bs ht.size, fun q hq => (ht.cell (p := ⟨mb, q, none⟩) h.lt fun e => by have e2 : mb = b := e; omega).trans (h.mc q hq), fun j => (ht.frozen (p := ⟨mb, j, none⟩) h.lt fun e => by have e2 : mb = b := e; omega).trans (h.mf j), hp2⟩, ht⟩
end
theorem wm_new (W : World) (n : Nat) : WM (W.alloc (.cells (madeCells #[.int .i64 0] n) 3)) W.heap.size n (W.heap.size + 1) (.slice none 0 0) [] (fun _ => 0) := by
  have hB := Block.made W 3 (madeCells #[.int .i64 0] n)
  refine ⟨by omega, by simp, fun q hq => ?_, fun j => hB.free j, HG.nil _ _ _⟩
  rw [hB.cell q]
  simp [madeCells, hq, Nat.mod_one]
theorem wpList_append_op2 {ops : Array Oper} {rest : List Oper} {o : Oper} {a : Act} {Q : Exit → Act → World → Prop} (W : World) (hgd : o.guard = none) (s x : Operand)
    (ho : o.op = .call { callee := .builtin .append, args := #[s, x], argTypes := #[31, 31] }) (base : Nat) (v : Value) (l : List LO) (hs : a.eval s = v) (k : Nat) (hk : W.heap.size = k) (hx : a.eval x = .slice (some ⟨k, 0, none⟩) 1 1) (z : LO)
    (hh : HG 34 W base v l) (hl : l.length ≤ 1000) (hb : base ≤ W.heap.size)
    (h : ∀ g cap w', HG 34 w' base (.slice (some ⟨g, 0, none⟩) (l.length + 1) cap) (l ++ [z]) → Touch (fun k => v.ownBlock = some k) W w' → wpList Try.prog ops Q rest (a.put o.dst (.slice (some ⟨g, 0, none⟩) (l.length + 1) cap)) w') :
    wpList Try.prog ops Q (o :: rest) a (W.alloc (.cells #[.int .i64 z.hd, .int .i64 z.kd, .int .i64 z.ar, .int .i64 z.gt, .int .i64 z.fr, .int .i64 z.to] 34)) := by
  subst hk
  exact wpList_append_op W hgd s x ho base v l hs hx z hh hl hb h
theorem size_put (W : World) (p : Addr) (u : Value) : (W.setCell p u).heap.size = W.heap.size := by simp only [World.setCell, Array.size_modify]
end Go.Proofs.Ytimdhnjkjflbdaa.Lin
