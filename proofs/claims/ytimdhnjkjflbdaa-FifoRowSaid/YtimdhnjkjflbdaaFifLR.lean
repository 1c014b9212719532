/-
  FifoRow: the queue, who does which op, the history.
-/
import Derived.Test.YtimdhnjkjflbdaaFifRun
import Derived.Test.YtimdhnjkjflbdaaLinWM
namespace Go.Proofs.Ytimdhnjkjflbdaa.Fif
open Go.RowKit Go.Proofs.Ytimdhnjkjflbdaa.Lin

structure LR (w wr : World) (g n : Nat) (s : FG) (vl : Nat → Int) (mb base : Nat) (hx : Value) (H : List LO) (mine : Nat → Nat) : Prop where
  lk : LkAt w wr g n s vl
  wm : WM wr mb n base hx H mine
  gm : g < mb
section
variable {w wr w' : World} {g n mb base : Nat} {s s' : FG} {vl vl' : Nat → Int} {hx : Value} {H : List LO} {mine : Nat → Nat}
theorem LR.below (h : LR w wr g n s vl mb base hx H mine) (hb : Below wr.heap.size wr w') : LR w w' g n s vl mb base hx H mine := ⟨h.lk.on hb (Nat.le_refl _), h.wm.below hb, h.gm⟩
theorem LR.obj (h : LR w wr g n s vl mb base hx H mine) (hl : LkAt w w' g n s' vl') (ht : Touch (fun k => k = g) wr w') : LR w w' g n s' vl' mb base hx H mine := ⟨hl, h.wm.obj ht h.gm, h.gm⟩
theorem LR.far (h : LR w wr g n s vl mb base hx H mine) {O : Nat → Prop} (ht : Touch O wr w') (hO : ∀ k, O k → mb ≤ k) : LkAt w w' g n s vl := h.lk.touch ht fun k e => by have := hO k e; have := h.gm; have := h.lk.new; omega
theorem LR.mput (h : LR w wr g n s vl mb base hx H mine) (p m : Nat) : LR w (wr.setCell ⟨mb, p, none⟩ (.int .i64 (m : Int))) g n s vl mb base hx H (eup mine p m) :=
  ⟨h.far ((Touch.refl (fun k => k = mb) wr).setCell (p := ⟨mb, p, none⟩) (Or.inl rfl) _) fun k e => by rw [e]; omega, h.wm.mput p m, h.gm⟩
theorem LR.app {v' : Value} {z : LO} (h : LR w wr g n s vl mb base hx H mine) (hg' : HG 34 w' base v' (H ++ [z])) (ht : Touch (fun k => hx.ownBlock = some k) wr w') : LR w w' g n s vl mb base v' (H ++ [z]) mine :=
  ⟨h.far ht fun k e => by have := h.wm.hg.lt e; have := h.wm.mlt; omega, h.wm.app hg' ht, h.gm⟩
theorem LR.got {b c : Nat} {z t : Int} {i : Nat} (h : LR w wr g n s vl mb base (.slice (some ⟨b, 0, none⟩) H.length c) H mine) (hi : i < H.length) :
    LR w ((wr.setCell ⟨b, i * 6 + 3, none⟩ (.int .i64 z)).setCell ⟨b, i * 6 + 5, none⟩ (.int .i64 t)) g n s vl mb base (.slice (some ⟨b, 0, none⟩) H.length c) (H.set i { lat H i with gt := z, «to» := t }) mine :=
  ⟨h.far (h.wm.got hi).2 fun k e => by have := h.wm.hg.lt (k := b) rfl; have := h.wm.mlt; rw [e]; omega, (h.wm.got hi).1, h.gm⟩
end
theorem SQI.len8 {n i : Nat} {s : FG} {vl : Nat → Int} {H : List LO} {mine : Nat → Nat} (h : SQI n s vl H mine i) : H.length ≤ 8 := by
  obtain ⟨r, h1, _⟩ := h
  have := h1.hs.len
  have := h1.hs.eig
  omega
end Go.Proofs.Ytimdhnjkjflbdaa.Fif
