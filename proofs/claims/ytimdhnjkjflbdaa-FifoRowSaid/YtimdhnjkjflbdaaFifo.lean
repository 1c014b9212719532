/-
  Package fifo: its cells, and what its small functions do, by contracts.
-/
import Derived.Test.YtimdhnjkjflbdaaRowsG
import Derived.Deep.QuietTactic
import Derived.BigQuiet
import Derived.LoopTactic
import Derived.Deep.RegionHeld3
import Derived.Deep.DeepCutAuto
import Derived.IntWalk
import Derived.Handy
namespace Go.Proofs.Ytimdhnjkjflbdaa.Fif
open Go.RowKit

/-- What a queue has: of each hand its line, its node, h, t and x; of each node its value, its next one; how many there are; Head, Tail. -/
structure QF where
  a : Nat → Nat
  e : Nat → Nat
  h : Nat → Nat
  t : Nat → Nat
  x : Nat → Int
  vl : Nat → Int
  nx : Nat → Int
  ct : Nat
  hd : Nat
  tl : Nat
/-- The cells. -/
structure Cel (cs : Array Value) (n : Nat) (v : QF) : Prop where
  size : cs.size = 104
  num : cs[0]? = some (.int .i64 n)
  ct : cs[1]? = some (.int .i64 ((v.ct : Nat) : Int))
  hd : cs[82]? = some (.int .i64 ((v.hd : Nat) : Int))
  tl : cs[83]? = some (.int .i64 ((v.tl : Nat) : Int))
  a : ∀ i, i < 4 → cs[84 + i * 5]? = some (.int .i64 ((v.a i : Nat) : Int))
  e : ∀ i, i < 4 → cs[84 + i * 5 + 1]? = some (.int .i64 ((v.e i : Nat) : Int))
  h : ∀ i, i < 4 → cs[84 + i * 5 + 2]? = some (.int .i64 ((v.h i : Nat) : Int))
  t : ∀ i, i < 4 → cs[84 + i * 5 + 3]? = some (.int .i64 ((v.t i : Nat) : Int))
  x : ∀ i, i < 4 → cs[84 + i * 5 + 4]? = some (.int .i64 (v.x i))
  vl : ∀ i, i < 40 → cs[2 + i * 2]? = some (.int .i64 (v.vl i))
  nx : ∀ i, i < 40 → cs[2 + i * 2 + 1]? = some (.int .i64 (v.nx i))
theorem set_at {cs : Array Value} {i : Nat} {u : Value} (h : i < cs.size) : (cs.setIfInBounds i u)[i]? = some u := by simp [h]
theorem set_off {cs : Array Value} {i j : Nat} {u : Value} (h : j ≠ i) : (cs.setIfInBounds i u)[j]? = cs[j]? := Array.getElem?_setIfInBounds_ne (by omega)
def putCt (v : QF) (z : Nat) : QF := { v with ct := z }
def putHd (v : QF) (z : Nat) : QF := { v with hd := z }
def putTl (v : QF) (z : Nat) : QF := { v with tl := z }
def putA (v : QF) (i : Nat) (z : Nat) : QF := { v with a := rput v.a i z }
def putE (v : QF) (i : Nat) (z : Nat) : QF := { v with e := rput v.e i z }
def putH (v : QF) (i : Nat) (z : Nat) : QF := { v with h := rput v.h i z }
def putT (v : QF) (i : Nat) (z : Nat) : QF := { v with t := rput v.t i z }
def putX (v : QF) (i : Nat) (z : Int) : QF := { v with x := rput v.x i z }
def putVl (v : QF) (i : Nat) (z : Int) : QF := { v with vl := rput v.vl i z }
def putNx (v : QF) (i : Nat) (z : Int) : QF := { v with nx := rput v.nx i z }
section
variable {cs : Array Value} {n : Nat} {v : QF}
theorem Cel.setCt (h : Cel cs n v) (z : Nat) : Cel (cs.setIfInBounds (1) (.int .i64 ((z : Nat) : Int))) n (putCt v z) := by
  have hs := h.size
  refine ⟨by simpa using hs, by rw [set_off (by omega)]; exact h.num, ?_, ?_, ?_, fun j hj => ?_, fun j hj => ?_, fun j hj => ?_, fun j hj => ?_, fun j hj => ?_, fun j hj => ?_, fun j hj => ?_⟩
  · rw [set_at (by omega)]; rfl
  · rw [set_off (by omega)]; exact h.hd
  · rw [set_off (by omega)]; exact h.tl
  · rw [set_off (by omega)]; exact h.a j hj
  · rw [set_off (by omega)]; exact h.e j hj
  · rw [set_off (by omega)]; exact h.h j hj
  · rw [set_off (by omega)]; exact h.t j hj
  · rw [set_off (by omega)]; exact h.x j hj
  · rw [set_off (by omega)]; exact h.vl j hj
  · rw [set_off (by omega)]; exact h.nx j hj
theorem Cel.setHd (h : Cel cs n v) (z : Nat) : Cel (cs.setIfInBounds (82) (.int .i64 ((z : Nat) : Int))) n (putHd v z) := by
  have hs := h.size
  refine ⟨by simpa using hs, by rw [set_off (by omega)]; exact h.num, ?_, ?_, ?_, fun j hj => ?_, fun j hj => ?_, fun j hj => ?_, fun j hj => ?_, fun j hj => ?_, fun j hj => ?_, fun j hj => ?_⟩
  · rw [set_off (by omega)]; exact h.ct
  · rw [set_at (by omega)]; rfl
  · rw [set_off (by omega)]; exact h.tl
  · rw [set_off (by omega)]; exact h.a j hj
  · rw [set_off (by omega)]; exact h.e j hj
  · rw [set_off (by omega)]; exact h.h j hj
  · rw [set_off (by omega)]; exact h.t j hj
  · rw [set_off (by omega)]; exact h.x j hj
  · rw [set_off (by omega)]; exact h.vl j hj
  · rw [set_off (by omega)]; exact h.nx j hj
theorem Cel.setTl (h : Cel cs n v) (z : Nat) : Cel (cs.setIfInBounds (83) (.int .i64 ((z : Nat) : Int))) n (putTl v z) := by
  have hs := h.size
  refine ⟨by simpa using hs, by rw [set_off (by omega)]; exact h.num, ?_, ?_, ?_, fun j hj => ?_, fun j hj => ?_, fun j hj => ?_, fun j hj => ?_, fun j hj => ?_, fun j hj => ?_, fun j hj => ?_⟩
  · rw [set_off (by omega)]; exact h.ct
  · rw [set_off (by omega)]; exact h.hd
  · rw [set_at (by omega)]; rfl
  · rw [set_off (by omega)]; exact h.a j hj
  · rw [set_off (by omega)]; exact h.e j hj
  · rw [set_off (by omega)]; exact h.h j hj
  · rw [set_off (by omega)]; exact h.t j hj
  · rw [set_off (by omega)]; exact h.x j hj
  · rw [set_off (by omega)]; exact h.vl j hj
  · rw [set_off (by omega)]; exact h.nx j hj
theorem Cel.setA (h : Cel cs n v) {i : Nat} (hi : i < 4) (z : Nat) : Cel (cs.setIfInBounds (84 + i * 5) (.int .i64 ((z : Nat) : Int))) n (putA v i z) := by
  have hs := h.size
  refine ⟨by simpa using hs, by rw [set_off (by omega)]; exact h.num, ?_, ?_, ?_, fun j hj => ?_, fun j hj => ?_, fun j hj => ?_, fun j hj => ?_, fun j hj => ?_, fun j hj => ?_, fun j hj => ?_⟩
  · rw [set_off (by omega)]; exact h.ct
  · rw [set_off (by omega)]; exact h.hd
  · rw [set_off (by omega)]; exact h.tl
  · by_cases e : j = i
    · subst e; rw [set_at (by omega)]; unfold putA; dsimp only; rw [rput_same]
    · rw [set_off (by omega)]; unfold putA; dsimp only; rw [rput_other e]; exact h.a j hj
  · rw [set_off (by omega)]; exact h.e j hj
  · rw [set_off (by omega)]; exact h.h j hj
  · rw [set_off (by omega)]; exact h.t j hj
  · rw [set_off (by omega)]; exact h.x j hj
  · rw [set_off (by omega)]; exact h.vl j hj
  · rw [set_off (by omega)]; exact h.nx j hj
theorem Cel.setE (h : Cel cs n v) {i : Nat} (hi : i < 4) (z : Nat) : Cel (cs.setIfInBounds (84 + i * 5 + 1) (.int .i64 ((z : Nat) : Int))) n (putE v i z) := by
  have hs := h.size
  refine ⟨by simpa using hs, by rw [set_off (by omega)]; exact h.num, ?_, ?_, ?_, fun j hj => ?_, fun j hj => ?_, fun j hj => ?_, fun j hj => ?_, fun j hj => ?_, fun j hj => ?_, fun j hj => ?_⟩
  · rw [set_off (by omega)]; exact h.ct
  · rw [set_off (by omega)]; exact h.hd
  · rw [set_off (by omega)]; exact h.tl
  · rw [set_off (by omega)]; exact h.a j hj
  · by_cases e : j = i
    · subst e; rw [set_at (by omega)]; unfold putE; dsimp only; rw [rput_same]
    · rw [set_off (by omega)]; unfold putE; dsimp only; rw [rput_other e]; exact h.e j hj
  · rw [set_off (by omega)]; exact h.h j hj
  · rw [set_off (by omega)]; exact h.t j hj
  · rw [set_off (by omega)]; exact h.x j hj
  · rw [set_off (by omega)]; exact h.vl j hj
  · rw [set_off (by omega)]; exact h.nx j hj
theorem Cel.setH (h : Cel cs n v) {i : Nat} (hi : i < 4) (z : Nat) : Cel (cs.setIfInBounds (84 + i * 5 + 2) (.int .i64 ((z : Nat) : Int))) n (putH v i z) := by
  have hs := h.size
  refine ⟨by simpa using hs, by rw [set_off (by omega)]; exact h.num, ?_, ?_, ?_, fun j hj => ?_, fun j hj => ?_, fun j hj => ?_, fun j hj => ?_, fun j hj => ?_, fun j hj => ?_, fun j hj => ?_⟩
  · rw [set_off (by omega)]; exact h.ct
  · rw [set_off (by omega)]; exact h.hd
  · rw [set_off (by omega)]; exact h.tl
  · rw [set_off (by omega)]; exact h.a j hj
  · rw [set_off (by omega)]; exact h.e j hj
  · by_cases e : j = i
    · subst e; rw [set_at (by omega)]; unfold putH; dsimp only; rw [rput_same]
    · rw [set_off (by omega)]; unfold putH; dsimp only; rw [rput_other e]; exact h.h j hj
  · rw [set_off (by omega)]; exact h.t j hj
  · rw [set_off (by omega)]; exact h.x j hj
  · rw [set_off (by omega)]; exact h.vl j hj
  · rw [set_off (by omega)]; exact h.nx j hj
theorem Cel.setT (h : Cel cs n v) {i : Nat} (hi : i < 4) (z : Nat) : Cel (cs.setIfInBounds (84 + i * 5 + 3) (.int .i64 ((z : Nat) : Int))) n (putT v i z) := by
  have hs := h.size
  refine ⟨by simpa using hs, by rw [set_off (by omega)]; exact h.num, ?_, ?_, ?_, fun j hj => ?_, fun j hj => ?_, fun j hj => ?_, fun j hj => ?_, fun j hj => ?_, fun j hj => ?_, fun j hj => ?_⟩
  · rw [set_off (by omega)]; exact h.ct
  · rw [set_off (by omega)]; exact h.hd
  · rw [set_off (by omega)]; exact h.tl
  · rw [set_off (by omega)]; exact h.a j hj
  · rw [set_off (by omega)]; exact h.e j hj
  · rw [set_off (by omega)]; exact h.h j hj
  · by_cases e : j = i
    · subst e; rw [set_at (by omega)]; unfold putT; dsimp only; rw [rput_same]
    · rw [set_off (by omega)]; unfold putT; dsimp only; rw [rput_other e]; exact h.t j hj
  · rw [set_off (by omega)]; exact h.x j hj
  · rw [set_off (by omega)]; exact h.vl j hj
  · rw [set_off (by omega)]; exact h.nx j hj
theorem Cel.setX (h : Cel cs n v) {i : Nat} (hi : i < 4) (z : Int) : Cel (cs.setIfInBounds (84 + i * 5 + 4) (.int .i64 (z))) n (putX v i z) := by
  have hs := h.size
  refine ⟨by simpa using hs, by rw [set_off (by omega)]; exact h.num, ?_, ?_, ?_, fun j hj => ?_, fun j hj => ?_, fun j hj => ?_, fun j hj => ?_, fun j hj => ?_, fun j hj => ?_, fun j hj => ?_⟩
  · rw [set_off (by omega)]; exact h.ct
  · rw [set_off (by omega)]; exact h.hd
  · rw [set_off (by omega)]; exact h.tl
  · rw [set_off (by omega)]; exact h.a j hj
  · rw [set_off (by omega)]; exact h.e j hj
  · rw [set_off (by omega)]; exact h.h j hj
  · rw [set_off (by omega)]; exact h.t j hj
  · by_cases e : j = i
    · subst e; rw [set_at (by omega)]; unfold putX; dsimp only; rw [rput_same]
    · rw [set_off (by omega)]; unfold putX; dsimp only; rw [rput_other e]; exact h.x j hj
  · rw [set_off (by omega)]; exact h.vl j hj
  · rw [set_off (by omega)]; exact h.nx j hj
theorem Cel.setVl (h : Cel cs n v) {i : Nat} (hi : i < 40) (z : Int) : Cel (cs.setIfInBounds (2 + i * 2) (.int .i64 (z))) n (putVl v i z) := by
  have hs := h.size
  refine ⟨by simpa using hs, by rw [set_off (by omega)]; exact h.num, ?_, ?_, ?_, fun j hj => ?_, fun j hj => ?_, fun j hj => ?_, fun j hj => ?_, fun j hj => ?_, fun j hj => ?_, fun j hj => ?_⟩
  · rw [set_off (by omega)]; exact h.ct
  · rw [set_off (by omega)]; exact h.hd
  · rw [set_off (by omega)]; exact h.tl
  · rw [set_off (by omega)]; exact h.a j hj
  · rw [set_off (by omega)]; exact h.e j hj
  · rw [set_off (by omega)]; exact h.h j hj
  · rw [set_off (by omega)]; exact h.t j hj
  · rw [set_off (by omega)]; exact h.x j hj
  · by_cases e : j = i
    · subst e; rw [set_at (by omega)]; unfold putVl; dsimp only; rw [rput_same]
    · rw [set_off (by omega)]; unfold putVl; dsimp only; rw [rput_other e]; exact h.vl j hj
  · rw [set_off (by omega)]; exact h.nx j hj
theorem Cel.setNx (h : Cel cs n v) {i : Nat} (hi : i < 40) (z : Int) : Cel (cs.setIfInBounds (2 + i * 2 + 1) (.int .i64 (z))) n (putNx v i z) := by
  have hs := h.size
  refine ⟨by simpa using hs, by rw [set_off (by omega)]; exact h.num, ?_, ?_, ?_, fun j hj => ?_, fun j hj => ?_, fun j hj => ?_, fun j hj => ?_, fun j hj => ?_, fun j hj => ?_, fun j hj => ?_⟩
  · rw [set_off (by omega)]; exact h.ct
  · rw [set_off (by omega)]; exact h.hd
  · rw [set_off (by omega)]; exact h.tl
  · rw [set_off (by omega)]; exact h.a j hj
  · rw [set_off (by omega)]; exact h.e j hj
  · rw [set_off (by omega)]; exact h.h j hj
  · rw [set_off (by omega)]; exact h.t j hj
  · rw [set_off (by omega)]; exact h.x j hj
  · rw [set_off (by omega)]; exact h.vl j hj
  · by_cases e : j = i
    · subst e; rw [set_at (by omega)]; unfold putNx; dsimp only; rw [rput_same]
    · rw [set_off (by omega)]; unfold putNx; dsimp only; rw [rput_other e]; exact h.nx j hj
end
/-- The thing in block g, its cells as v says. -/
def Lk (w : World) (g : Nat) (n : Nat) (v : QF) : Prop := ∃ cs, Block w g 80 cs ∧ Cel cs n v
section
variable {w : World} {g : Nat} {n : Nat} {v : QF}
theorem Lk.lt (h : Lk w g n v) : g < w.heap.size := by
  obtain ⟨cs, h, _⟩ := h
  exact h.lt
theorem Lk.xnum (h : Lk w g n v) : w.cell? ⟨g, 0, none⟩ = some (.int .i64 n) := by
  obtain ⟨cs, h, c⟩ := h
  rw [h.cell]; exact c.num
theorem Lk.xct (h : Lk w g n v) : w.cell? ⟨g, 1, none⟩ = some (.int .i64 ((v.ct : Nat) : Int)) := by
  obtain ⟨cs, h, c⟩ := h
  rw [h.cell]; exact c.ct
theorem Lk.xhd (h : Lk w g n v) : w.cell? ⟨g, 82, none⟩ = some (.int .i64 ((v.hd : Nat) : Int)) := by
  obtain ⟨cs, h, c⟩ := h
  rw [h.cell]; exact c.hd
theorem Lk.xtl (h : Lk w g n v) : w.cell? ⟨g, 83, none⟩ = some (.int .i64 ((v.tl : Nat) : Int)) := by
  obtain ⟨cs, h, c⟩ := h
  rw [h.cell]; exact c.tl
theorem Lk.xa (h : Lk w g n v) {i : Nat} (hi : i < 4) : w.cell? ⟨g, 84 + i * 5, none⟩ = some (.int .i64 ((v.a i : Nat) : Int)) := by
  obtain ⟨cs, h, c⟩ := h
  rw [h.cell]; exact c.a i hi
theorem Lk.xe (h : Lk w g n v) {i : Nat} (hi : i < 4) : w.cell? ⟨g, 84 + i * 5 + 1, none⟩ = some (.int .i64 ((v.e i : Nat) : Int)) := by
  obtain ⟨cs, h, c⟩ := h
  rw [h.cell]; exact c.e i hi
theorem Lk.xh (h : Lk w g n v) {i : Nat} (hi : i < 4) : w.cell? ⟨g, 84 + i * 5 + 2, none⟩ = some (.int .i64 ((v.h i : Nat) : Int)) := by
  obtain ⟨cs, h, c⟩ := h
  rw [h.cell]; exact c.h i hi
theorem Lk.xt (h : Lk w g n v) {i : Nat} (hi : i < 4) : w.cell? ⟨g, 84 + i * 5 + 3, none⟩ = some (.int .i64 ((v.t i : Nat) : Int)) := by
  obtain ⟨cs, h, c⟩ := h
  rw [h.cell]; exact c.t i hi
theorem Lk.xx (h : Lk w g n v) {i : Nat} (hi : i < 4) : w.cell? ⟨g, 84 + i * 5 + 4, none⟩ = some (.int .i64 (v.x i)) := by
  obtain ⟨cs, h, c⟩ := h
  rw [h.cell]; exact c.x i hi
theorem Lk.xvl (h : Lk w g n v) {i : Nat} (hi : i < 40) : w.cell? ⟨g, 2 + i * 2, none⟩ = some (.int .i64 (v.vl i)) := by
  obtain ⟨cs, h, c⟩ := h
  rw [h.cell]; exact c.vl i hi
theorem Lk.xnx (h : Lk w g n v) {i : Nat} (hi : i < 40) : w.cell? ⟨g, 2 + i * 2 + 1, none⟩ = some (.int .i64 (v.nx i)) := by
  obtain ⟨cs, h, c⟩ := h
  rw [h.cell]; exact c.nx i hi
theorem Lk.free (h : Lk w g n v) (i : Nat) : w.frozen? ⟨g, i, none⟩ = false := by
  obtain ⟨cs, h, _⟩ := h
  exact h.free i
theorem Lk.drewN (h : Lk w g n v) (i : Nat) : Lk (w.drewN i) g n v := h
theorem Lk.drew (h : Lk w g n v) : Lk w.drew g n v := h
theorem Lk.below {w' : World} (h : Lk w g n v) {B : Nat} (hb : Below B w w') (hg : g < B) : Lk w' g n v := by
  obtain ⟨cs, h, c⟩ := h
  exact ⟨cs, h.below hb hg, c⟩
theorem Lk.far (h : Lk w g n v) {p : Addr} (hp : g ≠ p.block) (u : Value) : Lk (w.setCell p u) g n v := by
  obtain ⟨cs, h, c⟩ := h
  exact ⟨cs, h.far hp u, c⟩
theorem Lk.alloc (h : Lk w g n v) (o : Obj) : Lk (w.alloc o) g n v := by
  obtain ⟨cs, h, c⟩ := h
  exact ⟨cs, h.alloc o, c⟩
theorem Lk.touch {O : Nat → Prop} {w' : World} (h : Lk w g n v) (k : Touch O w w') (hn : ¬ O g) : Lk w' g n v := by
  obtain ⟨cs, h, c⟩ := h
  exact ⟨cs, h.touch k hn, c⟩
theorem Lk.setCt (h : Lk w g n v) (z : Nat) : Lk (w.setCell ⟨g, 1, none⟩ (.int .i64 ((z : Nat) : Int))) g n (putCt v z) := by
  obtain ⟨cs, h, c⟩ := h
  exact ⟨_, h.put _ _, c.setCt z⟩
theorem Lk.setHd (h : Lk w g n v) (z : Nat) : Lk (w.setCell ⟨g, 82, none⟩ (.int .i64 ((z : Nat) : Int))) g n (putHd v z) := by
  obtain ⟨cs, h, c⟩ := h
  exact ⟨_, h.put _ _, c.setHd z⟩
theorem Lk.setTl (h : Lk w g n v) (z : Nat) : Lk (w.setCell ⟨g, 83, none⟩ (.int .i64 ((z : Nat) : Int))) g n (putTl v z) := by
  obtain ⟨cs, h, c⟩ := h
  exact ⟨_, h.put _ _, c.setTl z⟩
theorem Lk.setA (h : Lk w g n v) {i : Nat} (hi : i < 4) (z : Nat) : Lk (w.setCell ⟨g, 84 + i * 5, none⟩ (.int .i64 ((z : Nat) : Int))) g n (putA v i z) := by
  obtain ⟨cs, h, c⟩ := h
  exact ⟨_, h.put _ _, c.setA hi z⟩
theorem Lk.setE (h : Lk w g n v) {i : Nat} (hi : i < 4) (z : Nat) : Lk (w.setCell ⟨g, 84 + i * 5 + 1, none⟩ (.int .i64 ((z : Nat) : Int))) g n (putE v i z) := by
  obtain ⟨cs, h, c⟩ := h
  exact ⟨_, h.put _ _, c.setE hi z⟩
theorem Lk.setH (h : Lk w g n v) {i : Nat} (hi : i < 4) (z : Nat) : Lk (w.setCell ⟨g, 84 + i * 5 + 2, none⟩ (.int .i64 ((z : Nat) : Int))) g n (putH v i z) := by
  obtain ⟨cs, h, c⟩ := h
  exact ⟨_, h.put _ _, c.setH hi z⟩
theorem Lk.setT (h : Lk w g n v) {i : Nat} (hi : i < 4) (z : Nat) : Lk (w.setCell ⟨g, 84 + i * 5 + 3, none⟩ (.int .i64 ((z : Nat) : Int))) g n (putT v i z) := by
  obtain ⟨cs, h, c⟩ := h
  exact ⟨_, h.put _ _, c.setT hi z⟩
theorem Lk.setX (h : Lk w g n v) {i : Nat} (hi : i < 4) (z : Int) : Lk (w.setCell ⟨g, 84 + i * 5 + 4, none⟩ (.int .i64 (z))) g n (putX v i z) := by
  obtain ⟨cs, h, c⟩ := h
  exact ⟨_, h.put _ _, c.setX hi z⟩
theorem Lk.setVl (h : Lk w g n v) {i : Nat} (hi : i < 40) (z : Int) : Lk (w.setCell ⟨g, 2 + i * 2, none⟩ (.int .i64 (z))) g n (putVl v i z) := by
  obtain ⟨cs, h, c⟩ := h
  exact ⟨_, h.put _ _, c.setVl hi z⟩
theorem Lk.setNx (h : Lk w g n v) {i : Nat} (hi : i < 40) (z : Int) : Lk (w.setCell ⟨g, 2 + i * 2 + 1, none⟩ (.int .i64 (z))) g n (putNx v i z) := by
  obtain ⟨cs, h, c⟩ := h
  exact ⟨_, h.put _ _, c.setNx hi z⟩
end
theorem touch_one (w : World) (g i : Nat) (u : Value) : Touch (fun k => k = g) w (w.setCell ⟨g, i, none⟩ u) := (Touch.refl (fun k => k = g) w).setCell (Or.inl rfl) u
theorem below_undrew {B : Nat} {a b : World} (h : Below B a.drew b) : Below B a b := ⟨h.os, h.tape, h.output, h.size, h.block⟩
theorem isHand_any {g n : Nat} (p : Int) (w : World) (hc : w.cell? ⟨g, 0, none⟩ = some (.int .i64 n)) : Calls Try.prog 39 #[.pointer (some ⟨g, 0, none⟩), .int .i64 p] w fun e w' => e = .returned (.bool (decide (0 ≤ p ∧ p < n))) ∧ w = w' := by
  by_cases h0 : 0 ≤ p
  · by_cases h1 : p < n
    · rw [decide_eq_true (show 0 ≤ p ∧ p < n from ⟨h0, h1⟩)]
      go_enter Try.func39, Try.ntmps39
      go_wp2
      go_ret
      exact ⟨rfl, rfl⟩
    · rw [decide_eq_false (show ¬ (0 ≤ p ∧ p < n) from fun h => h1 h.2)]
      go_enter Try.func39, Try.ntmps39
      go_wp2
      go_ret
      exact ⟨rfl, rfl⟩
  · rw [decide_eq_false (show ¬ (0 ≤ p ∧ p < n) from fun h => h0 h.1)]
    go_enter Try.func39, Try.ntmps39
    go_wp2
    go_ret
    exact ⟨rfl, rfl⟩

/-- The error of a beginning. -/
def mayE (n : Nat) (v : QF) (p : Int) : Int := if ¬ (0 ≤ p ∧ p < n) then 1 else if v.a p.toNat ≠ 0 then 7 else 0
set_option maxHeartbeats 2000000 in
theorem may_any {g n : Nat} {v : QF} (w : World) (hk : Lk w g n v) (hn : n ≤ 4) (p : Int) :
    Calls Try.prog 38 #[.pointer (some ⟨g, 0, none⟩), .int .i64 p] w fun e w' => e = .returned (errV 55 (mayE n v p)) ∧ w = w' := by
  have HI := Lib.hid (isHand_any p w hk.xnum)
  by_cases hp : 0 ≤ p ∧ p < n
  · rw [decide_eq_true hp] at HI
    obtain ⟨q, rfl⟩ := Int.eq_ofNat_of_zero_le hp.1
    have hq4 : q < 4 := by omega
    have hp4 : (q : Int) < 4 := by omega
    have hca := hk.xa hq4
    have he : mayE n v q = if v.a q ≠ 0 then 7 else 0 := by unfold mayE; rw [if_neg (by omega)]; rfl
    by_cases ha : v.a q = 0
    · rw [if_neg (by omega)] at he
      rw [he]
      rw [ha] at hca
      clear hp he ha hk
      go_enter Try.func38, Try.ntmps38
      go_wp2_with (go_at_call 39; refine HI.out.mono ?_; rintro e w' ⟨rfl, rfl⟩)
      go_ret
      exact ⟨rfl, rfl⟩
    · rw [if_pos ha] at he
      rw [he]
      have hI : ((v.a q : Int) != 0) = true := by simp; omega
      clear hp he ha hk
      go_enter Try.func38, Try.ntmps38
      go_wp2_with (go_at_call 39; refine HI.out.mono ?_; rintro e w' ⟨rfl, rfl⟩)
      go_ret
      exact ⟨rfl, rfl⟩
  · rw [decide_eq_false hp] at HI
    have he : mayE n v p = 1 := by unfold mayE; rw [if_pos hp]
    rw [he]
    clear hp he hk
    go_enter Try.func38, Try.ntmps38
    go_wp2_with (go_at_call 39; refine HI.out.mono ?_; rintro e w' ⟨rfl, rfl⟩)
    go_ret
    exact ⟨rfl, rfl⟩
/-- A word is changed, if it is as it was seen. -/
theorem change_yes {p : Addr} {c z : Int} (w : World) (hc : w.cell? p = some (.int .i64 c)) (hf : w.frozen? p = false) :
    Calls Try.prog 56 #[.pointer (some p), .int .i64 c, .int .i64 z] w fun e w' => e = .returned (.bool true) ∧ w.setCell p (.int .i64 z) = w' := by
  go_enter Try.func56, Try.ntmps56
  go_wp2
  go_ret
  exact ⟨rfl, rfl⟩
theorem change_no {p : Addr} {c s z : Int} (w : World) (hc : w.cell? p = some (.int .i64 c)) (hs : c ≠ s) :
    Calls Try.prog 56 #[.pointer (some p), .int .i64 s, .int .i64 z] w fun e w' => e = .returned (.bool false) ∧ w = w' := by
  have hb : (c != s) = true := by simp [hs]
  clear hs
  go_enter Try.func56, Try.ntmps56
  go_wp2
  go_ret
  exact ⟨rfl, rfl⟩
/-- The next node, with a value. -/
def ktake (v : QF) (x : Int) : QF := { v with vl := rput v.vl v.ct x, nx := rput v.nx v.ct (-1), ct := v.ct + 1 }
set_option maxHeartbeats 2000000 in
theorem take_any {g n : Nat} {v : QF} (w : World) (hk : Lk w g n v) (hc : v.ct < 40) (x : Int) :
    Calls Try.prog 37 #[.pointer (some ⟨g, 0, none⟩), .int .i64 x] w fun e w' => e = .returned (.int .i64 (v.ct : Nat)) ∧ Lk w' g n (ktake v x) ∧ Touch (fun k => k = g) w w' := by
  have q1 := hk.xct
  have q2 := hk.xvl hc
  have q3 := hk.xnx hc
  have f1 := hk.free 1
  have f2 := hk.free (2 + v.ct * 2)
  have f3 := hk.free (2 + v.ct * 2 + 1)
  have hcI : (v.ct : Int) < 40 := by omega
  have hw1 : IntKind.i64.wrap ((v.ct : Int) + 1) = ((v.ct + 1 : Nat) : Int) := IntWalk.i64_in _ (by omega)
  have hw2 : IntKind.i64.wrap (((v.ct + 1 : Nat) : Int) - 1) = (v.ct : Int) := by rw [show (((v.ct + 1 : Nat) : Int) - 1) = (v.ct : Int) by omega]; exact IntWalk.i64_in _ (by omega)
  have H1 := Lib.hid (show Lk _ g n (ktake v x) from ((hk.setVl hc x).setNx hc (-1)).setCt (v.ct + 1))
  clear hk hc
  generalize ((v.ct + 1 : Nat) : Int) = m at hw1 hw2 H1
  go_enter Try.func37, Try.ntmps37
  go_wp2_with fail
  go_region_with fail
  all_goals
    go_wp2
    go_ret
    exact ⟨rfl, H1.out.drew, ((((Touch.refl (fun k => k = g) w).drew.setCell (Or.inl rfl) _).setCell (Or.inl rfl) _).setCell (Or.inl rfl) _)⟩
end Go.Proofs.Ytimdhnjkjflbdaa.Fif
