/-
  Package univ: what its functions do, by contracts.
-/
import Derived.Test.YtegplglokaoemaaDoorUniMath
import Derived.Test.YtegplglokaoemaaDoorTch
import Derived.Deep.QuietTactic
import Derived.BigQuiet
import Derived.LoopTactic
import Derived.Deep.RegionHeld3
import Derived.IntWalk
namespace Go.Proofs.YtegplglokaoemaaDoor.Univ
open Go.RowKit

/-- The cells of a row of n hands. -/
structure Cel (cs : Array Value) (n : Nat) (v : US) : Prop where
  size : cs.size = 99
  num : cs[0]? = some (.int .i64 n)
  k : cs[1]? = some (.int .i64 v.k)
  m : cs[42]? = some (.int .i64 v.m)
  add : ∀ i, i < 40 → cs[2 + i]? = some (.int .i64 (v.add i))
  cell : ∀ i, i < 40 → cs[43 + i]? = some (.int .i64 (v.cell i))
  a : ∀ p, p < 4 → cs[83 + p * 4]? = some (.int .i64 (v.h p).a)
  e : ∀ p, p < 4 → cs[83 + p * 4 + 1]? = some (.int .i64 (v.h p).e)
  c : ∀ p, p < 4 → cs[83 + p * 4 + 2]? = some (.int .i64 (v.h p).c)
  s : ∀ p, p < 4 → cs[83 + p * 4 + 3]? = some (.int .i64 (v.h p).s)
theorem set_at {cs : Array Value} {i : Nat} {u : Value} (h : i < cs.size) : (cs.setIfInBounds i u)[i]? = some u := by simp [h]
theorem set_off {cs : Array Value} {i j : Nat} {u : Value} (h : j ≠ i) : (cs.setIfInBounds i u)[j]? = cs[j]? := Array.getElem?_setIfInBounds_ne (by omega)
def putA (v : US) (p z : Nat) : US := { v with h := uput v.h p { v.h p with a := z } }
theorem putA_same (v : US) (p z : Nat) : ((putA v p z).h p).a = z := by unfold putA; dsimp only; rw [uput_same]
theorem putA_off {v : US} {p q : Nat} (z : Nat) (h : q ≠ p) : (putA v p z).h q = v.h q := by unfold putA; dsimp only; rw [uput_other h]
theorem putA_e (v : US) (p z q : Nat) : ((putA v p z).h q).e = (v.h q).e := by
  by_cases e : q = p
  · subst e; unfold putA; dsimp only; rw [uput_same]
  · rw [putA_off z e]
theorem putA_c (v : US) (p z q : Nat) : ((putA v p z).h q).c = (v.h q).c := by
  by_cases e : q = p
  · subst e; unfold putA; dsimp only; rw [uput_same]
  · rw [putA_off z e]
theorem putA_s (v : US) (p z q : Nat) : ((putA v p z).h q).s = (v.h q).s := by
  by_cases e : q = p
  · subst e; unfold putA; dsimp only; rw [uput_same]
  · rw [putA_off z e]
def putE (v : US) (p z : Nat) : US := { v with h := uput v.h p { v.h p with e := z } }
theorem putE_same (v : US) (p z : Nat) : ((putE v p z).h p).e = z := by unfold putE; dsimp only; rw [uput_same]
theorem putE_off {v : US} {p q : Nat} (z : Nat) (h : q ≠ p) : (putE v p z).h q = v.h q := by unfold putE; dsimp only; rw [uput_other h]
theorem putE_a (v : US) (p z q : Nat) : ((putE v p z).h q).a = (v.h q).a := by
  by_cases e : q = p
  · subst e; unfold putE; dsimp only; rw [uput_same]
  · rw [putE_off z e]
theorem putE_c (v : US) (p z q : Nat) : ((putE v p z).h q).c = (v.h q).c := by
  by_cases e : q = p
  · subst e; unfold putE; dsimp only; rw [uput_same]
  · rw [putE_off z e]
theorem putE_s (v : US) (p z q : Nat) : ((putE v p z).h q).s = (v.h q).s := by
  by_cases e : q = p
  · subst e; unfold putE; dsimp only; rw [uput_same]
  · rw [putE_off z e]
def putC (v : US) (p z : Nat) : US := { v with h := uput v.h p { v.h p with c := z } }
theorem putC_same (v : US) (p z : Nat) : ((putC v p z).h p).c = z := by unfold putC; dsimp only; rw [uput_same]
theorem putC_off {v : US} {p q : Nat} (z : Nat) (h : q ≠ p) : (putC v p z).h q = v.h q := by unfold putC; dsimp only; rw [uput_other h]
theorem putC_a (v : US) (p z q : Nat) : ((putC v p z).h q).a = (v.h q).a := by
  by_cases e : q = p
  · subst e; unfold putC; dsimp only; rw [uput_same]
  · rw [putC_off z e]
theorem putC_e (v : US) (p z q : Nat) : ((putC v p z).h q).e = (v.h q).e := by
  by_cases e : q = p
  · subst e; unfold putC; dsimp only; rw [uput_same]
  · rw [putC_off z e]
theorem putC_s (v : US) (p z q : Nat) : ((putC v p z).h q).s = (v.h q).s := by
  by_cases e : q = p
  · subst e; unfold putC; dsimp only; rw [uput_same]
  · rw [putC_off z e]
def putS (v : US) (p z : Nat) : US := { v with h := uput v.h p { v.h p with s := z } }
theorem putS_same (v : US) (p z : Nat) : ((putS v p z).h p).s = z := by unfold putS; dsimp only; rw [uput_same]
theorem putS_off {v : US} {p q : Nat} (z : Nat) (h : q ≠ p) : (putS v p z).h q = v.h q := by unfold putS; dsimp only; rw [uput_other h]
theorem putS_a (v : US) (p z q : Nat) : ((putS v p z).h q).a = (v.h q).a := by
  by_cases e : q = p
  · subst e; unfold putS; dsimp only; rw [uput_same]
  · rw [putS_off z e]
theorem putS_e (v : US) (p z q : Nat) : ((putS v p z).h q).e = (v.h q).e := by
  by_cases e : q = p
  · subst e; unfold putS; dsimp only; rw [uput_same]
  · rw [putS_off z e]
theorem putS_c (v : US) (p z q : Nat) : ((putS v p z).h q).c = (v.h q).c := by
  by_cases e : q = p
  · subst e; unfold putS; dsimp only; rw [uput_same]
  · rw [putS_off z e]
def putK (v : US) (z : Nat) : US := { v with k := z }
def putM (v : US) (z : Nat) : US := { v with m := z }
def putAdd (v : US) (i z : Nat) : US := { v with add := uput v.add i z }
def putCell (v : US) (i z : Nat) : US := { v with cell := uput v.cell i z }
section
variable {cs : Array Value} {n : Nat} {v : US}
theorem Cel.setK (h : Cel cs n v) (z : Nat) : Cel (cs.setIfInBounds 1 (.int .i64 z)) n (putK v z) := by
  have hs := h.size
  refine ⟨by simpa using hs, by rw [set_off (by omega)]; exact h.num, ?_, ?_, fun j hj => ?_, fun j hj => ?_, fun q hq => ?_, fun q hq => ?_, fun q hq => ?_, fun q hq => ?_⟩
  · rw [set_at (by omega)]; rfl
  · rw [set_off (by omega)]; exact h.m
  · rw [set_off (by omega)]; exact h.add j hj
  · rw [set_off (by omega)]; exact h.cell j hj
  · rw [set_off (by omega)]; exact h.a q hq
  · rw [set_off (by omega)]; exact h.e q hq
  · rw [set_off (by omega)]; exact h.c q hq
  · rw [set_off (by omega)]; exact h.s q hq
theorem Cel.setM (h : Cel cs n v) (z : Nat) : Cel (cs.setIfInBounds 42 (.int .i64 z)) n (putM v z) := by
  have hs := h.size
  refine ⟨by simpa using hs, by rw [set_off (by omega)]; exact h.num, ?_, ?_, fun j hj => ?_, fun j hj => ?_, fun q hq => ?_, fun q hq => ?_, fun q hq => ?_, fun q hq => ?_⟩
  · rw [set_off (by omega)]; exact h.k
  · rw [set_at (by omega)]; rfl
  · rw [set_off (by omega)]; exact h.add j hj
  · rw [set_off (by omega)]; exact h.cell j hj
  · rw [set_off (by omega)]; exact h.a q hq
  · rw [set_off (by omega)]; exact h.e q hq
  · rw [set_off (by omega)]; exact h.c q hq
  · rw [set_off (by omega)]; exact h.s q hq
theorem Cel.setAdd (h : Cel cs n v) {i : Nat} (hi : i < 40) (z : Nat) : Cel (cs.setIfInBounds (2 + i) (.int .i64 z)) n (putAdd v i z) := by
  have hs := h.size
  refine ⟨by simpa using hs, by rw [set_off (by omega)]; exact h.num, ?_, ?_, fun j hj => ?_, fun j hj => ?_, fun q hq => ?_, fun q hq => ?_, fun q hq => ?_, fun q hq => ?_⟩
  · rw [set_off (by omega)]; exact h.k
  · rw [set_off (by omega)]; exact h.m
  · by_cases e : j = i
    · subst e; rw [set_at (by omega)]; unfold putAdd; dsimp only; rw [uput_same]
    · rw [set_off (by omega)]; unfold putAdd; dsimp only; rw [uput_other e]; exact h.add j hj
  · rw [set_off (by omega)]; exact h.cell j hj
  · rw [set_off (by omega)]; exact h.a q hq
  · rw [set_off (by omega)]; exact h.e q hq
  · rw [set_off (by omega)]; exact h.c q hq
  · rw [set_off (by omega)]; exact h.s q hq
theorem Cel.setCell (h : Cel cs n v) {i : Nat} (hi : i < 40) (z : Nat) : Cel (cs.setIfInBounds (43 + i) (.int .i64 z)) n (putCell v i z) := by
  have hs := h.size
  refine ⟨by simpa using hs, by rw [set_off (by omega)]; exact h.num, ?_, ?_, fun j hj => ?_, fun j hj => ?_, fun q hq => ?_, fun q hq => ?_, fun q hq => ?_, fun q hq => ?_⟩
  · rw [set_off (by omega)]; exact h.k
  · rw [set_off (by omega)]; exact h.m
  · rw [set_off (by omega)]; exact h.add j hj
  · by_cases e : j = i
    · subst e; rw [set_at (by omega)]; unfold putCell; dsimp only; rw [uput_same]
    · rw [set_off (by omega)]; unfold putCell; dsimp only; rw [uput_other e]; exact h.cell j hj
  · rw [set_off (by omega)]; exact h.a q hq
  · rw [set_off (by omega)]; exact h.e q hq
  · rw [set_off (by omega)]; exact h.c q hq
  · rw [set_off (by omega)]; exact h.s q hq
theorem Cel.setA (h : Cel cs n v) {p : Nat} (hp : p < 4) (z : Nat) : Cel (cs.setIfInBounds (83 + p * 4) (.int .i64 z)) n (putA v p z) := by
  have hs := h.size
  refine ⟨by simpa using hs, by rw [set_off (by omega)]; exact h.num, ?_, ?_, fun j hj => ?_, fun j hj => ?_, fun q hq => ?_, fun q hq => ?_, fun q hq => ?_, fun q hq => ?_⟩
  · rw [set_off (by omega)]; exact h.k
  · rw [set_off (by omega)]; exact h.m
  · rw [set_off (by omega)]; exact h.add j hj
  · rw [set_off (by omega)]; exact h.cell j hj
  · by_cases e : q = p
    · subst e; rw [set_at (by omega), putA_same]
    · rw [set_off (by omega), putA_off z e]; exact h.a q hq
  · rw [set_off (by omega), putA_e]; exact h.e q hq
  · rw [set_off (by omega), putA_c]; exact h.c q hq
  · rw [set_off (by omega), putA_s]; exact h.s q hq
theorem Cel.setE (h : Cel cs n v) {p : Nat} (hp : p < 4) (z : Nat) : Cel (cs.setIfInBounds (83 + p * 4 + 1) (.int .i64 z)) n (putE v p z) := by
  have hs := h.size
  refine ⟨by simpa using hs, by rw [set_off (by omega)]; exact h.num, ?_, ?_, fun j hj => ?_, fun j hj => ?_, fun q hq => ?_, fun q hq => ?_, fun q hq => ?_, fun q hq => ?_⟩
  · rw [set_off (by omega)]; exact h.k
  · rw [set_off (by omega)]; exact h.m
  · rw [set_off (by omega)]; exact h.add j hj
  · rw [set_off (by omega)]; exact h.cell j hj
  · rw [set_off (by omega), putE_a]; exact h.a q hq
  · by_cases e : q = p
    · subst e; rw [set_at (by omega), putE_same]
    · rw [set_off (by omega), putE_off z e]; exact h.e q hq
  · rw [set_off (by omega), putE_c]; exact h.c q hq
  · rw [set_off (by omega), putE_s]; exact h.s q hq
theorem Cel.setC (h : Cel cs n v) {p : Nat} (hp : p < 4) (z : Nat) : Cel (cs.setIfInBounds (83 + p * 4 + 2) (.int .i64 z)) n (putC v p z) := by
  have hs := h.size
  refine ⟨by simpa using hs, by rw [set_off (by omega)]; exact h.num, ?_, ?_, fun j hj => ?_, fun j hj => ?_, fun q hq => ?_, fun q hq => ?_, fun q hq => ?_, fun q hq => ?_⟩
  · rw [set_off (by omega)]; exact h.k
  · rw [set_off (by omega)]; exact h.m
  · rw [set_off (by omega)]; exact h.add j hj
  · rw [set_off (by omega)]; exact h.cell j hj
  · rw [set_off (by omega), putC_a]; exact h.a q hq
  · rw [set_off (by omega), putC_e]; exact h.e q hq
  · by_cases e : q = p
    · subst e; rw [set_at (by omega), putC_same]
    · rw [set_off (by omega), putC_off z e]; exact h.c q hq
  · rw [set_off (by omega), putC_s]; exact h.s q hq
theorem Cel.setS (h : Cel cs n v) {p : Nat} (hp : p < 4) (z : Nat) : Cel (cs.setIfInBounds (83 + p * 4 + 3) (.int .i64 z)) n (putS v p z) := by
  have hs := h.size
  refine ⟨by simpa using hs, by rw [set_off (by omega)]; exact h.num, ?_, ?_, fun j hj => ?_, fun j hj => ?_, fun q hq => ?_, fun q hq => ?_, fun q hq => ?_, fun q hq => ?_⟩
  · rw [set_off (by omega)]; exact h.k
  · rw [set_off (by omega)]; exact h.m
  · rw [set_off (by omega)]; exact h.add j hj
  · rw [set_off (by omega)]; exact h.cell j hj
  · rw [set_off (by omega), putS_a]; exact h.a q hq
  · rw [set_off (by omega), putS_e]; exact h.e q hq
  · rw [set_off (by omega), putS_c]; exact h.c q hq
  · by_cases e : q = p
    · subst e; rw [set_at (by omega), putS_same]
    · rw [set_off (by omega), putS_off z e]; exact h.s q hq
end

/-- The row in block g: n hands, its cells as v says. -/
def Lk (w : World) (g n : Nat) (v : US) : Prop := ∃ cs, Block w g 50 cs ∧ Cel cs n v
section
variable {w : World} {g n : Nat} {v : US}
theorem Lk.lt (h : Lk w g n v) : g < w.heap.size := by
  obtain ⟨cs, h, _⟩ := h
  exact h.lt
theorem Lk.num (h : Lk w g n v) : w.cell? ⟨g, 0, none⟩ = some (.int .i64 n) := by
  obtain ⟨cs, h, c⟩ := h
  rw [h.cell]; exact c.num
theorem Lk.xk (h : Lk w g n v) : w.cell? ⟨g, 1, none⟩ = some (.int .i64 v.k) := by
  obtain ⟨cs, h, c⟩ := h
  rw [h.cell]; exact c.k
theorem Lk.xm (h : Lk w g n v) : w.cell? ⟨g, 42, none⟩ = some (.int .i64 v.m) := by
  obtain ⟨cs, h, c⟩ := h
  rw [h.cell]; exact c.m
theorem Lk.xadd (h : Lk w g n v) {i : Nat} (hi : i < 40) : w.cell? ⟨g, 2 + i, none⟩ = some (.int .i64 (v.add i)) := by
  obtain ⟨cs, h, c⟩ := h
  rw [h.cell]; exact c.add i hi
theorem Lk.xcell (h : Lk w g n v) {i : Nat} (hi : i < 40) : w.cell? ⟨g, 43 + i, none⟩ = some (.int .i64 (v.cell i)) := by
  obtain ⟨cs, h, c⟩ := h
  rw [h.cell]; exact c.cell i hi
theorem Lk.xa (h : Lk w g n v) {p : Nat} (hp : p < 4) : w.cell? ⟨g, 83 + p * 4, none⟩ = some (.int .i64 (v.h p).a) := by
  obtain ⟨cs, h, c⟩ := h
  rw [h.cell]; exact c.a p hp
theorem Lk.xe (h : Lk w g n v) {p : Nat} (hp : p < 4) : w.cell? ⟨g, 83 + p * 4 + 1, none⟩ = some (.int .i64 (v.h p).e) := by
  obtain ⟨cs, h, c⟩ := h
  rw [h.cell]; exact c.e p hp
theorem Lk.xc (h : Lk w g n v) {p : Nat} (hp : p < 4) : w.cell? ⟨g, 83 + p * 4 + 2, none⟩ = some (.int .i64 (v.h p).c) := by
  obtain ⟨cs, h, c⟩ := h
  rw [h.cell]; exact c.c p hp
theorem Lk.xs (h : Lk w g n v) {p : Nat} (hp : p < 4) : w.cell? ⟨g, 83 + p * 4 + 3, none⟩ = some (.int .i64 (v.h p).s) := by
  obtain ⟨cs, h, c⟩ := h
  rw [h.cell]; exact c.s p hp
theorem Lk.free (h : Lk w g n v) (i : Nat) : w.frozen? ⟨g, i, none⟩ = false := by
  obtain ⟨cs, h, _⟩ := h
  exact h.free i
theorem Lk.drewN (h : Lk w g n v) (i : Nat) : Lk (w.drewN i) g n v := h
theorem Lk.drew (h : Lk w g n v) : Lk w.drew g n v := h
theorem Lk.below {w' : World} (h : Lk w g n v) {B : Nat} (hb : Below B w w') (hg : g < B) : Lk w' g n v := by
  obtain ⟨cs, h, c⟩ := h
  exact ⟨cs, h.below hb hg, c⟩
theorem Lk.far (h : Lk w g n v) {p : Addr} (hp : g ≠ p.block) (u : Value) : Lk (w.setCell p u) g n v := by
  obtain ⟨cs, h, c⟩ := h
  exact ⟨cs, h.far hp u, c⟩
theorem Lk.alloc (h : Lk w g n v) (o : Obj) : Lk (w.alloc o) g n v := by
  obtain ⟨cs, h, c⟩ := h
  exact ⟨cs, h.alloc o, c⟩
theorem Lk.touch {O : Nat → Prop} {w' : World} (h : Lk w g n v) (k : Touch O w w') (hn : ¬ O g) : Lk w' g n v := by
  obtain ⟨cs, h, c⟩ := h
  exact ⟨cs, h.touch k hn, c⟩
theorem Lk.setK (h : Lk w g n v) (z : Nat) : Lk (w.setCell ⟨g, 1, none⟩ (.int .i64 z)) g n (putK v z) := by
  obtain ⟨cs, h, c⟩ := h
  exact ⟨_, h.put _ _, c.setK z⟩
theorem Lk.setM (h : Lk w g n v) (z : Nat) : Lk (w.setCell ⟨g, 42, none⟩ (.int .i64 z)) g n (putM v z) := by
  obtain ⟨cs, h, c⟩ := h
  exact ⟨_, h.put _ _, c.setM z⟩
theorem Lk.setAdd (h : Lk w g n v) {i : Nat} (hi : i < 40) (z : Nat) : Lk (w.setCell ⟨g, 2 + i, none⟩ (.int .i64 z)) g n (putAdd v i z) := by
  obtain ⟨cs, h, c⟩ := h
  exact ⟨_, h.put _ _, c.setAdd hi z⟩
theorem Lk.setCell (h : Lk w g n v) {i : Nat} (hi : i < 40) (z : Nat) : Lk (w.setCell ⟨g, 43 + i, none⟩ (.int .i64 z)) g n (putCell v i z) := by
  obtain ⟨cs, h, c⟩ := h
  exact ⟨_, h.put _ _, c.setCell hi z⟩
theorem Lk.setA (h : Lk w g n v) {p : Nat} (hp : p < 4) (z : Nat) : Lk (w.setCell ⟨g, 83 + p * 4, none⟩ (.int .i64 z)) g n (putA v p z) := by
  obtain ⟨cs, h, c⟩ := h
  exact ⟨_, h.put _ _, c.setA hp z⟩
theorem Lk.setE (h : Lk w g n v) {p : Nat} (hp : p < 4) (z : Nat) : Lk (w.setCell ⟨g, 83 + p * 4 + 1, none⟩ (.int .i64 z)) g n (putE v p z) := by
  obtain ⟨cs, h, c⟩ := h
  exact ⟨_, h.put _ _, c.setE hp z⟩
theorem Lk.setC (h : Lk w g n v) {p : Nat} (hp : p < 4) (z : Nat) : Lk (w.setCell ⟨g, 83 + p * 4 + 2, none⟩ (.int .i64 z)) g n (putC v p z) := by
  obtain ⟨cs, h, c⟩ := h
  exact ⟨_, h.put _ _, c.setC hp z⟩
theorem Lk.setS (h : Lk w g n v) {p : Nat} (hp : p < 4) (z : Nat) : Lk (w.setCell ⟨g, 83 + p * 4 + 3, none⟩ (.int .i64 z)) g n (putS v p z) := by
  obtain ⟨cs, h, c⟩ := h
  exact ⟨_, h.put _ _, c.setS hp z⟩
end
theorem touch_one (w : World) (g i : Nat) (u : Value) : Touch (fun k => k = g) w (w.setCell ⟨g, i, none⟩ u) := (Touch.refl (fun k => k = g) w).setCell (Or.inl rfl) u
theorem below_undrew {B : Nat} {a b : World} (h : Below B a.drew b) : Below B a b := ⟨h.os, h.tape, h.output, h.size, h.block⟩
theorem cell_far {w : World} {g i j : Nat} {u : Value} (h : j ≠ i) : (w.setCell ⟨g, i, none⟩ u).cell? ⟨g, j, none⟩ = w.cell? ⟨g, j, none⟩ :=
  World.cell?_setCell_other _ _ _ _ fun e => h (by injection e with _ e; exact e.symm)

theorem isHand_any {g n : Nat} (p : Int) (w : World) (hc : w.cell? ⟨g, 0, none⟩ = some (.int .i64 n)) : Calls Tryd.prog 18 #[.pointer (some ⟨g, 0, none⟩), .int .i64 p] w fun e w' => e = .returned (.bool (decide (0 ≤ p ∧ p < n))) ∧ w = w' := by
  by_cases h0 : 0 ≤ p
  · by_cases h1 : p < n
    · rw [decide_eq_true (show 0 ≤ p ∧ p < n from ⟨h0, h1⟩)]
      go_enter Tryd.func18, Tryd.ntmps18
      go_wp2
      go_ret
      exact ⟨rfl, rfl⟩
    · rw [decide_eq_false (show ¬ (0 ≤ p ∧ p < n) from fun h => h1 h.2)]
      go_enter Tryd.func18, Tryd.ntmps18
      go_wp2
      go_ret
      exact ⟨rfl, rfl⟩
  · rw [decide_eq_false (show ¬ (0 ≤ p ∧ p < n) from fun h => h0 h.1)]
    go_enter Tryd.func18, Tryd.ntmps18
    go_wp2
    go_ret
    exact ⟨rfl, rfl⟩


theorem us_ext {s t : US} (h1 : s.h = t.h) (h2 : s.cell = t.cell) (h3 : s.m = t.m) (h4 : s.add = t.add) (h5 : s.k = t.k) : s = t := by
  cases s; cases t; simp_all
theorem uh_ext {s t : UH} (h1 : s.a = t.a) (h2 : s.c = t.c) (h3 : s.s = t.s) (h4 : s.e = t.e) : s = t := by
  cases s; cases t; simp_all
/-- What decide makes of a row. -/
def udec (v : US) (p : Nat) : US := if (v.h p).c = v.m then putA (putM (putCell v v.m (v.h p).e) (v.m + 1)) p 2 else putA v p 2
/-- What pass makes of a row. -/
def upas (v : US) (p : Nat) : US := putA (putC (putS v p ((v.h p).s + v.add (v.cell (v.h p).c))) p ((v.h p).c + 1)) p 1
set_option maxHeartbeats 4000000 in
theorem decide_any {g n : Nat} {v : US} (w : World) (hk : Lk w g n v) {p : Nat} (hp : p < 4) (_hm : v.m ≤ 40) (hc : (v.h p).c < 40) :
    Calls Tryd.prog 20 #[.pointer (some ⟨g, 0, none⟩), .pointer (some ⟨g, 83 + p * 4, none⟩)] w fun e w' =>
      e = .returned (.tuple #[]) ∧ Lk w' g n (udec v p) ∧ Touch (fun k => k = g) w w' := by
  have hcm := hk.xm
  have hcc := hk.xc hp
  have hce := hk.xe hp
  have hca := hk.xa hp
  have fm := hk.free 42
  have fa := hk.free (83 + p * 4)
  by_cases hb : (v.h p).c = v.m
  · have hxc := hk.xcell hc
    have fc := hk.free (43 + (v.h p).c)
    have hcI : ((v.h p).c : Int) < 40 := by omega
    have hw : IntKind.i64.wrap ((v.m : Int) + 1) = ((v.m + 1 : Nat) : Int) := (IntWalk.i64_in _ (by omega)).trans (by omega)
    have h1 := hk.setCell hc (v.h p).e
    have h2 := h1.setM (v.m + 1)
    have H3 := Lib.hid (h2.setA hp 2)
    have hv : udec v p = putA (putM (putCell v (v.h p).c (v.h p).e) (v.m + 1)) p 2 := by rw [udec, if_pos hb, hb]
    rw [hv]
    have hI : (((v.h p).c : Int) == (v.m : Int)) = true := by simp; omega
    clear hk h1 h2 hv hb
    go_enter Tryd.func20, Tryd.ntmps20
    go_wp2
    go_quiet (fail)
    go_wp2_with fail
    go_region_with fail
    all_goals
      go_wp2
      exact bodyPost_end (results_none rfl _ _ _) rfl ⟨rfl, H3.out, ((((Touch.refl (fun k => k = g) w).drewN _).setCell (Or.inl rfl) _).setCell (Or.inl rfl) _).setCell (Or.inl rfl) _⟩
  · have H3 := Lib.hid (hk.setA hp 2)
    have hv : udec v p = putA v p 2 := by rw [udec, if_neg hb]
    rw [hv]
    have hI : (((v.h p).c : Int) == (v.m : Int)) = false := by simp; omega
    clear hk hv hb
    go_enter Tryd.func20, Tryd.ntmps20
    go_wp2
    go_quiet (fail)
    go_wp2
    exact bodyPost_end (results_none rfl _ _ _) rfl ⟨rfl, H3.out, ((Touch.refl (fun k => k = g) w).drewN _).setCell (Or.inl rfl) _⟩
set_option maxHeartbeats 4000000 in
theorem pass_any {g n : Nat} {v : US} (w : World) (hk : Lk w g n v) {p : Nat} (hp : p < 4) (hc : (v.h p).c < 40) (hd : v.cell (v.h p).c < 40) (hs : (v.h p).s ≤ 100000) (hx : v.add (v.cell (v.h p).c) ≤ 1000) :
    Calls Tryd.prog 21 #[.pointer (some ⟨g, 0, none⟩), .pointer (some ⟨g, 83 + p * 4, none⟩)] w fun e w' =>
      e = .returned (.tuple #[]) ∧ Lk w' g n (upas v p) ∧ Touch (fun k => k = g) w w' := by
  have hcc := hk.xc hp
  have hcs := hk.xs hp
  have hca := hk.xa hp
  have hcl := hk.xcell hc
  have hcd := hk.xadd hd
  have fs := hk.free (83 + p * 4 + 3)
  have fc := hk.free (83 + p * 4 + 2)
  have fa := hk.free (83 + p * 4)
  have hcI : ((v.h p).c : Int) < 40 := by omega
  have hdI : ((v.cell (v.h p).c : Nat) : Int) < 40 := by omega
  have hw1 : IntKind.i64.wrap (((v.h p).s : Int) + ((v.add (v.cell (v.h p).c) : Nat) : Int)) = (((v.h p).s + v.add (v.cell (v.h p).c) : Nat) : Int) := (IntWalk.i64_in _ (by omega)).trans (by omega)
  have hw2 : IntKind.i64.wrap (((v.h p).c : Int) + 1) = (((v.h p).c + 1 : Nat) : Int) := (IntWalk.i64_in _ (by omega)).trans (by omega)
  have h1 := hk.setS hp ((v.h p).s + v.add (v.cell (v.h p).c))
  have h2 := h1.setC hp ((v.h p).c + 1)
  have H3 := Lib.hid (h2.setA hp 1)
  clear hk h1 h2
  go_enter Tryd.func21, Tryd.ntmps21
  go_wp2_with fail
  go_region_with fail
  all_goals
    go_wp2
    exact bodyPost_end (results_none rfl _ _ _) rfl ⟨rfl, H3.out, ((((Touch.refl (fun k => k = g) w).setCell (Or.inl rfl) _).setCell (Or.inl rfl) _).setCell (Or.inl rfl) _).drew⟩
end Go.Proofs.YtegplglokaoemaaDoor.Univ
