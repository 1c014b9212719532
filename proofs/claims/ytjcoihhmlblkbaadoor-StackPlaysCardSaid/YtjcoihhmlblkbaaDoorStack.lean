/-
  Package stack: its cells, and what its small functions do, by contracts.
-/
import Derived.Test.YtjcoihhmlblkbaaDoorRowsG
import Derived.Deep.QuietTactic
import Derived.BigQuiet
import Derived.LoopTactic
import Derived.Deep.RegionHeld3
import Derived.Deep.DeepCutAuto
import Derived.IntWalk
import Derived.Handy
namespace Go.Proofs.YtjcoihhmlblkbaaDoor.Stk
open Go.RowKit

/-- What a stack has: of each hand its line, its node, the node, the tag and the next one that it saw; of each node whether it is used, its value, its next one; Top's node and tag. -/
structure KS where
  a : Nat → Nat
  m : Nat → Nat
  sn : Nat → Int
  st : Nat → Int
  sx : Nat → Int
  u : Nat → Bool
  x : Nat → Int
  nx : Nat → Int
  tn : Int
  tt : Int
theorem ks_ext {s t : KS} (h1 : s.a = t.a) (h2 : s.m = t.m) (h3 : s.sn = t.sn) (h4 : s.st = t.st) (h5 : s.sx = t.sx) (h6 : s.u = t.u) (h7 : s.x = t.x) (h8 : s.nx = t.nx) (h9 : s.tn = t.tn) (h10 : s.tt = t.tt) : s = t := by
  cases s; cases t; simp_all
/-- The cells. -/
structure Cel (cs : Array Value) (n : Nat) (tg : Bool) (v : KS) : Prop where
  size : cs.size = 36
  num : cs[0]? = some (.int .i64 n)
  tags : cs[1]? = some (.bool tg)
  tn : cs[14]? = some (.int .i64 (v.tn))
  tt : cs[15]? = some (.int .i64 (v.tt))
  a : ∀ i, i < 4 → cs[16 + i * 5]? = some (.int .i64 ((v.a i : Nat) : Int))
  m : ∀ i, i < 4 → cs[16 + i * 5 + 1]? = some (.int .i64 ((v.m i : Nat) : Int))
  sn : ∀ i, i < 4 → cs[16 + i * 5 + 2]? = some (.int .i64 (v.sn i))
  st : ∀ i, i < 4 → cs[16 + i * 5 + 3]? = some (.int .i64 (v.st i))
  sx : ∀ i, i < 4 → cs[16 + i * 5 + 4]? = some (.int .i64 (v.sx i))
  u : ∀ i, i < 4 → cs[2 + i * 3]? = some (.bool (v.u i))
  x : ∀ i, i < 4 → cs[2 + i * 3 + 1]? = some (.int .i64 (v.x i))
  nx : ∀ i, i < 4 → cs[2 + i * 3 + 2]? = some (.int .i64 (v.nx i))
theorem set_at {cs : Array Value} {i : Nat} {u : Value} (h : i < cs.size) : (cs.setIfInBounds i u)[i]? = some u := by simp [h]
theorem set_off {cs : Array Value} {i j : Nat} {u : Value} (h : j ≠ i) : (cs.setIfInBounds i u)[j]? = cs[j]? := Array.getElem?_setIfInBounds_ne (by omega)
def putTn (v : KS) (z : Int) : KS := { v with tn := z }
def putTt (v : KS) (z : Int) : KS := { v with tt := z }
def putA (v : KS) (i : Nat) (z : Nat) : KS := { v with a := rput v.a i z }
def putM (v : KS) (i : Nat) (z : Nat) : KS := { v with m := rput v.m i z }
def putSn (v : KS) (i : Nat) (z : Int) : KS := { v with sn := rput v.sn i z }
def putSt (v : KS) (i : Nat) (z : Int) : KS := { v with st := rput v.st i z }
def putSx (v : KS) (i : Nat) (z : Int) : KS := { v with sx := rput v.sx i z }
def putU (v : KS) (i : Nat) (z : Bool) : KS := { v with u := rput v.u i z }
def putX (v : KS) (i : Nat) (z : Int) : KS := { v with x := rput v.x i z }
def putNx (v : KS) (i : Nat) (z : Int) : KS := { v with nx := rput v.nx i z }
section
variable {cs : Array Value} {n : Nat} {tg : Bool} {v : KS}
theorem Cel.setTn (h : Cel cs n tg v) (z : Int) : Cel (cs.setIfInBounds (14) (.int .i64 (z))) n tg (putTn v z) := by
  have hs := h.size
  refine ⟨by simpa using hs, by rw [set_off (by omega)]; exact h.num, by rw [set_off (by omega)]; exact h.tags, ?_, ?_, fun j hj => ?_, fun j hj => ?_, fun j hj => ?_, fun j hj => ?_, fun j hj => ?_, fun j hj => ?_, fun j hj => ?_, fun j hj => ?_⟩
  · rw [set_at (by omega)]; rfl
  · rw [set_off (by omega)]; exact h.tt
  · rw [set_off (by omega)]; exact h.a j hj
  · rw [set_off (by omega)]; exact h.m j hj
  · rw [set_off (by omega)]; exact h.sn j hj
  · rw [set_off (by omega)]; exact h.st j hj
  · rw [set_off (by omega)]; exact h.sx j hj
  · rw [set_off (by omega)]; exact h.u j hj
  · rw [set_off (by omega)]; exact h.x j hj
  · rw [set_off (by omega)]; exact h.nx j hj
theorem Cel.setTt (h : Cel cs n tg v) (z : Int) : Cel (cs.setIfInBounds (15) (.int .i64 (z))) n tg (putTt v z) := by
  have hs := h.size
  refine ⟨by simpa using hs, by rw [set_off (by omega)]; exact h.num, by rw [set_off (by omega)]; exact h.tags, ?_, ?_, fun j hj => ?_, fun j hj => ?_, fun j hj => ?_, fun j hj => ?_, fun j hj => ?_, fun j hj => ?_, fun j hj => ?_, fun j hj => ?_⟩
  · rw [set_off (by omega)]; exact h.tn
  · rw [set_at (by omega)]; rfl
  · rw [set_off (by omega)]; exact h.a j hj
  · rw [set_off (by omega)]; exact h.m j hj
  · rw [set_off (by omega)]; exact h.sn j hj
  · rw [set_off (by omega)]; exact h.st j hj
  · rw [set_off (by omega)]; exact h.sx j hj
  · rw [set_off (by omega)]; exact h.u j hj
  · rw [set_off (by omega)]; exact h.x j hj
  · rw [set_off (by omega)]; exact h.nx j hj
theorem Cel.setA (h : Cel cs n tg v) {i : Nat} (hi : i < 4) (z : Nat) : Cel (cs.setIfInBounds (16 + i * 5) (.int .i64 ((z : Nat) : Int))) n tg (putA v i z) := by
  have hs := h.size
  refine ⟨by simpa using hs, by rw [set_off (by omega)]; exact h.num, by rw [set_off (by omega)]; exact h.tags, ?_, ?_, fun j hj => ?_, fun j hj => ?_, fun j hj => ?_, fun j hj => ?_, fun j hj => ?_, fun j hj => ?_, fun j hj => ?_, fun j hj => ?_⟩
  · rw [set_off (by omega)]; exact h.tn
  · rw [set_off (by omega)]; exact h.tt
  · by_cases e : j = i
    · subst e; rw [set_at (by omega)]; unfold putA; dsimp only; rw [rput_same]
    · rw [set_off (by omega)]; unfold putA; dsimp only; rw [rput_other e]; exact h.a j hj
  · rw [set_off (by omega)]; exact h.m j hj
  · rw [set_off (by omega)]; exact h.sn j hj
  · rw [set_off (by omega)]; exact h.st j hj
  · rw [set_off (by omega)]; exact h.sx j hj
  · rw [set_off (by omega)]; exact h.u j hj
  · rw [set_off (by omega)]; exact h.x j hj
  · rw [set_off (by omega)]; exact h.nx j hj
theorem Cel.setM (h : Cel cs n tg v) {i : Nat} (hi : i < 4) (z : Nat) : Cel (cs.setIfInBounds (16 + i * 5 + 1) (.int .i64 ((z : Nat) : Int))) n tg (putM v i z) := by
  have hs := h.size
  refine ⟨by simpa using hs, by rw [set_off (by omega)]; exact h.num, by rw [set_off (by omega)]; exact h.tags, ?_, ?_, fun j hj => ?_, fun j hj => ?_, fun j hj => ?_, fun j hj => ?_, fun j hj => ?_, fun j hj => ?_, fun j hj => ?_, fun j hj => ?_⟩
  · rw [set_off (by omega)]; exact h.tn
  · rw [set_off (by omega)]; exact h.tt
  · rw [set_off (by omega)]; exact h.a j hj
  · by_cases e : j = i
    · subst e; rw [set_at (by omega)]; unfold putM; dsimp only; rw [rput_same]
    · rw [set_off (by omega)]; unfold putM; dsimp only; rw [rput_other e]; exact h.m j hj
  · rw [set_off (by omega)]; exact h.sn j hj
  · rw [set_off (by omega)]; exact h.st j hj
  · rw [set_off (by omega)]; exact h.sx j hj
  · rw [set_off (by omega)]; exact h.u j hj
  · rw [set_off (by omega)]; exact h.x j hj
  · rw [set_off (by omega)]; exact h.nx j hj
theorem Cel.setSn (h : Cel cs n tg v) {i : Nat} (hi : i < 4) (z : Int) : Cel (cs.setIfInBounds (16 + i * 5 + 2) (.int .i64 (z))) n tg (putSn v i z) := by
  have hs := h.size
  refine ⟨by simpa using hs, by rw [set_off (by omega)]; exact h.num, by rw [set_off (by omega)]; exact h.tags, ?_, ?_, fun j hj => ?_, fun j hj => ?_, fun j hj => ?_, fun j hj => ?_, fun j hj => ?_, fun j hj => ?_, fun j hj => ?_, fun j hj => ?_⟩
  · rw [set_off (by omega)]; exact h.tn
  · rw [set_off (by omega)]; exact h.tt
  · rw [set_off (by omega)]; exact h.a j hj
  · rw [set_off (by omega)]; exact h.m j hj
  · by_cases e : j = i
    · subst e; rw [set_at (by omega)]; unfold putSn; dsimp only; rw [rput_same]
    · rw [set_off (by omega)]; unfold putSn; dsimp only; rw [rput_other e]; exact h.sn j hj
  · rw [set_off (by omega)]; exact h.st j hj
  · rw [set_off (by omega)]; exact h.sx j hj
  · rw [set_off (by omega)]; exact h.u j hj
  · rw [set_off (by omega)]; exact h.x j hj
  · rw [set_off (by omega)]; exact h.nx j hj
theorem Cel.setSt (h : Cel cs n tg v) {i : Nat} (hi : i < 4) (z : Int) : Cel (cs.setIfInBounds (16 + i * 5 + 3) (.int .i64 (z))) n tg (putSt v i z) := by
  have hs := h.size
  refine ⟨by simpa using hs, by rw [set_off (by omega)]; exact h.num, by rw [set_off (by omega)]; exact h.tags, ?_, ?_, fun j hj => ?_, fun j hj => ?_, fun j hj => ?_, fun j hj => ?_, fun j hj => ?_, fun j hj => ?_, fun j hj => ?_, fun j hj => ?_⟩
  · rw [set_off (by omega)]; exact h.tn
  · rw [set_off (by omega)]; exact h.tt
  · rw [set_off (by omega)]; exact h.a j hj
  · rw [set_off (by omega)]; exact h.m j hj
  · rw [set_off (by omega)]; exact h.sn j hj
  · by_cases e : j = i
    · subst e; rw [set_at (by omega)]; unfold putSt; dsimp only; rw [rput_same]
    · rw [set_off (by omega)]; unfold putSt; dsimp only; rw [rput_other e]; exact h.st j hj
  · rw [set_off (by omega)]; exact h.sx j hj
  · rw [set_off (by omega)]; exact h.u j hj
  · rw [set_off (by omega)]; exact h.x j hj
  · rw [set_off (by omega)]; exact h.nx j hj
theorem Cel.setSx (h : Cel cs n tg v) {i : Nat} (hi : i < 4) (z : Int) : Cel (cs.setIfInBounds (16 + i * 5 + 4) (.int .i64 (z))) n tg (putSx v i z) := by
  have hs := h.size
  refine ⟨by simpa using hs, by rw [set_off (by omega)]; exact h.num, by rw [set_off (by omega)]; exact h.tags, ?_, ?_, fun j hj => ?_, fun j hj => ?_, fun j hj => ?_, fun j hj => ?_, fun j hj => ?_, fun j hj => ?_, fun j hj => ?_, fun j hj => ?_⟩
  · rw [set_off (by omega)]; exact h.tn
  · rw [set_off (by omega)]; exact h.tt
  · rw [set_off (by omega)]; exact h.a j hj
  · rw [set_off (by omega)]; exact h.m j hj
  · rw [set_off (by omega)]; exact h.sn j hj
  · rw [set_off (by omega)]; exact h.st j hj
  · by_cases e : j = i
    · subst e; rw [set_at (by omega)]; unfold putSx; dsimp only; rw [rput_same]
    · rw [set_off (by omega)]; unfold putSx; dsimp only; rw [rput_other e]; exact h.sx j hj
  · rw [set_off (by omega)]; exact h.u j hj
  · rw [set_off (by omega)]; exact h.x j hj
  · rw [set_off (by omega)]; exact h.nx j hj
theorem Cel.setU (h : Cel cs n tg v) {i : Nat} (hi : i < 4) (z : Bool) : Cel (cs.setIfInBounds (2 + i * 3) (.bool (z))) n tg (putU v i z) := by
  have hs := h.size
  refine ⟨by simpa using hs, by rw [set_off (by omega)]; exact h.num, by rw [set_off (by omega)]; exact h.tags, ?_, ?_, fun j hj => ?_, fun j hj => ?_, fun j hj => ?_, fun j hj => ?_, fun j hj => ?_, fun j hj => ?_, fun j hj => ?_, fun j hj => ?_⟩
  · rw [set_off (by omega)]; exact h.tn
  · rw [set_off (by omega)]; exact h.tt
  · rw [set_off (by omega)]; exact h.a j hj
  · rw [set_off (by omega)]; exact h.m j hj
  · rw [set_off (by omega)]; exact h.sn j hj
  · rw [set_off (by omega)]; exact h.st j hj
  · rw [set_off (by omega)]; exact h.sx j hj
  · by_cases e : j = i
    · subst e; rw [set_at (by omega)]; unfold putU; dsimp only; rw [rput_same]
    · rw [set_off (by omega)]; unfold putU; dsimp only; rw [rput_other e]; exact h.u j hj
  · rw [set_off (by omega)]; exact h.x j hj
  · rw [set_off (by omega)]; exact h.nx j hj
theorem Cel.setX (h : Cel cs n tg v) {i : Nat} (hi : i < 4) (z : Int) : Cel (cs.setIfInBounds (2 + i * 3 + 1) (.int .i64 (z))) n tg (putX v i z) := by
  have hs := h.size
  refine ⟨by simpa using hs, by rw [set_off (by omega)]; exact h.num, by rw [set_off (by omega)]; exact h.tags, ?_, ?_, fun j hj => ?_, fun j hj => ?_, fun j hj => ?_, fun j hj => ?_, fun j hj => ?_, fun j hj => ?_, fun j hj => ?_, fun j hj => ?_⟩
  · rw [set_off (by omega)]; exact h.tn
  · rw [set_off (by omega)]; exact h.tt
  · rw [set_off (by omega)]; exact h.a j hj
  · rw [set_off (by omega)]; exact h.m j hj
  · rw [set_off (by omega)]; exact h.sn j hj
  · rw [set_off (by omega)]; exact h.st j hj
  · rw [set_off (by omega)]; exact h.sx j hj
  · rw [set_off (by omega)]; exact h.u j hj
  · by_cases e : j = i
    · subst e; rw [set_at (by omega)]; unfold putX; dsimp only; rw [rput_same]
    · rw [set_off (by omega)]; unfold putX; dsimp only; rw [rput_other e]; exact h.x j hj
  · rw [set_off (by omega)]; exact h.nx j hj
theorem Cel.setNx (h : Cel cs n tg v) {i : Nat} (hi : i < 4) (z : Int) : Cel (cs.setIfInBounds (2 + i * 3 + 2) (.int .i64 (z))) n tg (putNx v i z) := by
  have hs := h.size
  refine ⟨by simpa using hs, by rw [set_off (by omega)]; exact h.num, by rw [set_off (by omega)]; exact h.tags, ?_, ?_, fun j hj => ?_, fun j hj => ?_, fun j hj => ?_, fun j hj => ?_, fun j hj => ?_, fun j hj => ?_, fun j hj => ?_, fun j hj => ?_⟩
  · rw [set_off (by omega)]; exact h.tn
  · rw [set_off (by omega)]; exact h.tt
  · rw [set_off (by omega)]; exact h.a j hj
  · rw [set_off (by omega)]; exact h.m j hj
  · rw [set_off (by omega)]; exact h.sn j hj
  · rw [set_off (by omega)]; exact h.st j hj
  · rw [set_off (by omega)]; exact h.sx j hj
  · rw [set_off (by omega)]; exact h.u j hj
  · rw [set_off (by omega)]; exact h.x j hj
  · by_cases e : j = i
    · subst e; rw [set_at (by omega)]; unfold putNx; dsimp only; rw [rput_same]
    · rw [set_off (by omega)]; unfold putNx; dsimp only; rw [rput_other e]; exact h.nx j hj
end
/-- The thing in block g, its cells as v says. -/
def Lk (w : World) (g : Nat) (n : Nat) (tg : Bool) (v : KS) : Prop := ∃ cs, Block w g 101 cs ∧ Cel cs n tg v
section
variable {w : World} {g : Nat} {n : Nat} {tg : Bool} {v : KS}
theorem Lk.lt (h : Lk w g n tg v) : g < w.heap.size := by
  obtain ⟨cs, h, _⟩ := h
  exact h.lt
theorem Lk.xnum (h : Lk w g n tg v) : w.cell? ⟨g, 0, none⟩ = some (.int .i64 n) := by
  obtain ⟨cs, h, c⟩ := h
  rw [h.cell]; exact c.num
theorem Lk.xtags (h : Lk w g n tg v) : w.cell? ⟨g, 1, none⟩ = some (.bool tg) := by
  obtain ⟨cs, h, c⟩ := h
  rw [h.cell]; exact c.tags
theorem Lk.xtn (h : Lk w g n tg v) : w.cell? ⟨g, 14, none⟩ = some (.int .i64 (v.tn)) := by
  obtain ⟨cs, h, c⟩ := h
  rw [h.cell]; exact c.tn
theorem Lk.xtt (h : Lk w g n tg v) : w.cell? ⟨g, 15, none⟩ = some (.int .i64 (v.tt)) := by
  obtain ⟨cs, h, c⟩ := h
  rw [h.cell]; exact c.tt
theorem Lk.xa (h : Lk w g n tg v) {i : Nat} (hi : i < 4) : w.cell? ⟨g, 16 + i * 5, none⟩ = some (.int .i64 ((v.a i : Nat) : Int)) := by
  obtain ⟨cs, h, c⟩ := h
  rw [h.cell]; exact c.a i hi
theorem Lk.xm (h : Lk w g n tg v) {i : Nat} (hi : i < 4) : w.cell? ⟨g, 16 + i * 5 + 1, none⟩ = some (.int .i64 ((v.m i : Nat) : Int)) := by
  obtain ⟨cs, h, c⟩ := h
  rw [h.cell]; exact c.m i hi
theorem Lk.xsn (h : Lk w g n tg v) {i : Nat} (hi : i < 4) : w.cell? ⟨g, 16 + i * 5 + 2, none⟩ = some (.int .i64 (v.sn i)) := by
  obtain ⟨cs, h, c⟩ := h
  rw [h.cell]; exact c.sn i hi
theorem Lk.xst (h : Lk w g n tg v) {i : Nat} (hi : i < 4) : w.cell? ⟨g, 16 + i * 5 + 3, none⟩ = some (.int .i64 (v.st i)) := by
  obtain ⟨cs, h, c⟩ := h
  rw [h.cell]; exact c.st i hi
theorem Lk.xsx (h : Lk w g n tg v) {i : Nat} (hi : i < 4) : w.cell? ⟨g, 16 + i * 5 + 4, none⟩ = some (.int .i64 (v.sx i)) := by
  obtain ⟨cs, h, c⟩ := h
  rw [h.cell]; exact c.sx i hi
theorem Lk.xu (h : Lk w g n tg v) {i : Nat} (hi : i < 4) : w.cell? ⟨g, 2 + i * 3, none⟩ = some (.bool (v.u i)) := by
  obtain ⟨cs, h, c⟩ := h
  rw [h.cell]; exact c.u i hi
theorem Lk.xx (h : Lk w g n tg v) {i : Nat} (hi : i < 4) : w.cell? ⟨g, 2 + i * 3 + 1, none⟩ = some (.int .i64 (v.x i)) := by
  obtain ⟨cs, h, c⟩ := h
  rw [h.cell]; exact c.x i hi
theorem Lk.xnx (h : Lk w g n tg v) {i : Nat} (hi : i < 4) : w.cell? ⟨g, 2 + i * 3 + 2, none⟩ = some (.int .i64 (v.nx i)) := by
  obtain ⟨cs, h, c⟩ := h
  rw [h.cell]; exact c.nx i hi
theorem Lk.free (h : Lk w g n tg v) (i : Nat) : w.frozen? ⟨g, i, none⟩ = false := by
  obtain ⟨cs, h, _⟩ := h
  exact h.free i
theorem Lk.drewN (h : Lk w g n tg v) (i : Nat) : Lk (w.drewN i) g n tg v := h
theorem Lk.drew (h : Lk w g n tg v) : Lk w.drew g n tg v := h
theorem Lk.below {w' : World} (h : Lk w g n tg v) {B : Nat} (hb : Below B w w') (hg : g < B) : Lk w' g n tg v := by
  obtain ⟨cs, h, c⟩ := h
  exact ⟨cs, h.below hb hg, c⟩
theorem Lk.far (h : Lk w g n tg v) {p : Addr} (hp : g ≠ p.block) (u : Value) : Lk (w.setCell p u) g n tg v := by
  obtain ⟨cs, h, c⟩ := h
  exact ⟨cs, h.far hp u, c⟩
theorem Lk.alloc (h : Lk w g n tg v) (o : Obj) : Lk (w.alloc o) g n tg v := by
  obtain ⟨cs, h, c⟩ := h
  exact ⟨cs, h.alloc o, c⟩
theorem Lk.touch {O : Nat → Prop} {w' : World} (h : Lk w g n tg v) (k : Touch O w w') (hn : ¬ O g) : Lk w' g n tg v := by
  obtain ⟨cs, h, c⟩ := h
  exact ⟨cs, h.touch k hn, c⟩
theorem Lk.setTn (h : Lk w g n tg v) (z : Int) : Lk (w.setCell ⟨g, 14, none⟩ (.int .i64 (z))) g n tg (putTn v z) := by
  obtain ⟨cs, h, c⟩ := h
  exact ⟨_, h.put _ _, c.setTn z⟩
theorem Lk.setTt (h : Lk w g n tg v) (z : Int) : Lk (w.setCell ⟨g, 15, none⟩ (.int .i64 (z))) g n tg (putTt v z) := by
  obtain ⟨cs, h, c⟩ := h
  exact ⟨_, h.put _ _, c.setTt z⟩
theorem Lk.setA (h : Lk w g n tg v) {i : Nat} (hi : i < 4) (z : Nat) : Lk (w.setCell ⟨g, 16 + i * 5, none⟩ (.int .i64 ((z : Nat) : Int))) g n tg (putA v i z) := by
  obtain ⟨cs, h, c⟩ := h
  exact ⟨_, h.put _ _, c.setA hi z⟩
theorem Lk.setM (h : Lk w g n tg v) {i : Nat} (hi : i < 4) (z : Nat) : Lk (w.setCell ⟨g, 16 + i * 5 + 1, none⟩ (.int .i64 ((z : Nat) : Int))) g n tg (putM v i z) := by
  obtain ⟨cs, h, c⟩ := h
  exact ⟨_, h.put _ _, c.setM hi z⟩
theorem Lk.setSn (h : Lk w g n tg v) {i : Nat} (hi : i < 4) (z : Int) : Lk (w.setCell ⟨g, 16 + i * 5 + 2, none⟩ (.int .i64 (z))) g n tg (putSn v i z) := by
  obtain ⟨cs, h, c⟩ := h
  exact ⟨_, h.put _ _, c.setSn hi z⟩
theorem Lk.setSt (h : Lk w g n tg v) {i : Nat} (hi : i < 4) (z : Int) : Lk (w.setCell ⟨g, 16 + i * 5 + 3, none⟩ (.int .i64 (z))) g n tg (putSt v i z) := by
  obtain ⟨cs, h, c⟩ := h
  exact ⟨_, h.put _ _, c.setSt hi z⟩
theorem Lk.setSx (h : Lk w g n tg v) {i : Nat} (hi : i < 4) (z : Int) : Lk (w.setCell ⟨g, 16 + i * 5 + 4, none⟩ (.int .i64 (z))) g n tg (putSx v i z) := by
  obtain ⟨cs, h, c⟩ := h
  exact ⟨_, h.put _ _, c.setSx hi z⟩
theorem Lk.setU (h : Lk w g n tg v) {i : Nat} (hi : i < 4) (z : Bool) : Lk (w.setCell ⟨g, 2 + i * 3, none⟩ (.bool (z))) g n tg (putU v i z) := by
  obtain ⟨cs, h, c⟩ := h
  exact ⟨_, h.put _ _, c.setU hi z⟩
theorem Lk.setX (h : Lk w g n tg v) {i : Nat} (hi : i < 4) (z : Int) : Lk (w.setCell ⟨g, 2 + i * 3 + 1, none⟩ (.int .i64 (z))) g n tg (putX v i z) := by
  obtain ⟨cs, h, c⟩ := h
  exact ⟨_, h.put _ _, c.setX hi z⟩
theorem Lk.setNx (h : Lk w g n tg v) {i : Nat} (hi : i < 4) (z : Int) : Lk (w.setCell ⟨g, 2 + i * 3 + 2, none⟩ (.int .i64 (z))) g n tg (putNx v i z) := by
  obtain ⟨cs, h, c⟩ := h
  exact ⟨_, h.put _ _, c.setNx hi z⟩
end
theorem touch_one (w : World) (g i : Nat) (u : Value) : Touch (fun k => k = g) w (w.setCell ⟨g, i, none⟩ u) := (Touch.refl (fun k => k = g) w).setCell (Or.inl rfl) u
theorem below_undrew {B : Nat} {a b : World} (h : Below B a.drew b) : Below B a b := ⟨h.os, h.tape, h.output, h.size, h.block⟩
theorem isHand_any {g n : Nat} (p : Int) (w : World) (hc : w.cell? ⟨g, 0, none⟩ = some (.int .i64 n)) : Calls Tryd.prog 41 #[.pointer (some ⟨g, 0, none⟩), .int .i64 p] w fun e w' => e = .returned (.bool (decide (0 ≤ p ∧ p < n))) ∧ w = w' := by
  by_cases h0 : 0 ≤ p
  · by_cases h1 : p < n
    · rw [decide_eq_true (show 0 ≤ p ∧ p < n from ⟨h0, h1⟩)]
      go_enter Tryd.func41, Tryd.ntmps41
      go_wp2
      go_ret
      exact ⟨rfl, rfl⟩
    · rw [decide_eq_false (show ¬ (0 ≤ p ∧ p < n) from fun h => h1 h.2)]
      go_enter Tryd.func41, Tryd.ntmps41
      go_wp2
      go_ret
      exact ⟨rfl, rfl⟩
  · rw [decide_eq_false (show ¬ (0 ≤ p ∧ p < n) from fun h => h0 h.1)]
    go_enter Tryd.func41, Tryd.ntmps41
    go_wp2
    go_ret
    exact ⟨rfl, rfl⟩

/-- The error of a beginning. -/
def mayE (n : Nat) (v : KS) (p : Int) : Int := if ¬ (0 ≤ p ∧ p < n) then 1 else if v.a p.toNat ≠ 0 then 7 else 0
set_option maxHeartbeats 2000000 in
theorem may_any {g n : Nat} {tg : Bool} {v : KS} (w : World) (hk : Lk w g n tg v) (hn : n ≤ 4) (p : Int) :
    Calls Tryd.prog 37 #[.pointer (some ⟨g, 0, none⟩), .int .i64 p] w fun e w' => e = .returned (errV 65 (mayE n v p)) ∧ w = w' := by
  have HI := Lib.hid (isHand_any p w hk.xnum)
  by_cases hp : 0 ≤ p ∧ p < n
  · rw [decide_eq_true hp] at HI
    obtain ⟨q, rfl⟩ := Int.eq_ofNat_of_zero_le hp.1
    have hq4 : q < 4 := by omega
    have hp4 : (q : Int) < 4 := by omega
    have hca := hk.xa hq4
    have he : mayE n v q = if v.a q ≠ 0 then 7 else 0 := by unfold mayE; rw [if_neg (by omega)]; rfl
    by_cases ha : v.a q = 0
    · rw [if_neg (by omega)] at he
      rw [he]
      rw [ha] at hca
      clear hp he ha hk
      go_enter Tryd.func37, Tryd.ntmps37
      go_wp2_with (go_at_call 41; refine HI.out.mono ?_; rintro e w' ⟨rfl, rfl⟩)
      go_ret
      exact ⟨rfl, rfl⟩
    · rw [if_pos ha] at he
      rw [he]
      have hI : ((v.a q : Int) != 0) = true := by simp; omega
      clear hp he ha hk
      go_enter Tryd.func37, Tryd.ntmps37
      go_wp2_with (go_at_call 41; refine HI.out.mono ?_; rintro e w' ⟨rfl, rfl⟩)
      go_ret
      exact ⟨rfl, rfl⟩
  · rw [decide_eq_false hp] at HI
    have he : mayE n v p = 1 := by unfold mayE; rw [if_pos hp]
    rw [he]
    clear hp he hk
    go_enter Tryd.func37, Tryd.ntmps37
    go_wp2_with (go_at_call 41; refine HI.out.mono ?_; rintro e w' ⟨rfl, rfl⟩)
    go_ret
    exact ⟨rfl, rfl⟩
/-- The closure of Push, in whose block b1 the stack's address lies. -/
abbrev isV (b1 : Nat) : Value := .func (.func 39) #[] #[.pointer (some ⟨b1, 0, none⟩)]
set_option maxHeartbeats 1000000 in
theorem isSo_any {g n b1 : Nat} {tg : Bool} {v : KS} (w : World) (hk : Lk w g n tg v) (hb : w.cell? ⟨b1, 0, none⟩ = some (.pointer (some ⟨g, 0, none⟩))) {k : Nat} (hk4 : k < 4) :
    Calls Tryd.prog 39 #[.int .i64 k, .pointer (some ⟨b1, 0, none⟩)] w fun e w' => e = .returned (.bool (!v.u k)) ∧ w = w' := by
  have h1 := hk.xu hk4
  have hI : (k : Int) < 4 := by omega
  clear hk hk4
  go_enter Tryd.func39, Tryd.ntmps39
  go_wp2
  go_ret
  exact ⟨rfl, rfl⟩
/-- The least node that is not used; 4: all are. -/
def kfree (u : Nat → Bool) : Nat := if u 0 = false then 0 else if u 1 = false then 1 else if u 2 = false then 2 else if u 3 = false then 3 else 4
theorem kfree_le (u : Nat → Bool) : kfree u ≤ 4 := by
  unfold kfree; repeat' split
  all_goals omega
theorem kfree_min {u : Nat → Bool} {k : Nat} (hk : k < 4) (h : u k = false) : kfree u ≤ k := by
  unfold kfree
  have h4 : k = 0 ∨ k = 1 ∨ k = 2 ∨ k = 3 := by omega
  rcases h4 with rfl | rfl | rfl | rfl <;> (repeat' split) <;> first | omega | (exfalso; simp_all)
theorem kfree_used {u : Nat → Bool} {k : Nat} (hk : k < kfree u) : u k = true := by
  have h1 := kfree_le u
  cases h : u k with
  | true => rfl
  | false => have := kfree_min (show k < 4 by omega) h; omega
theorem kfree_not {u : Nat → Bool} (h : kfree u < 4) : u (kfree u) = false := by
  unfold kfree at h ⊢
  cases h0 : u 0 <;> cases h1 : u 1 <;> cases h2 : u 2 <;> cases h3 : u 3 <;> simp_all
/-- What least answers. -/
def kleast (u : Nat → Bool) : Int := if kfree u = 4 then -1 else kfree u
set_option maxHeartbeats 2000000 in
theorem least_any {g n b1 : Nat} {tg : Bool} {v : KS} (w : World) (hk : Lk w g n tg v) (hb : w.cell? ⟨b1, 0, none⟩ = some (.pointer (some ⟨g, 0, none⟩))) :
    Calls Tryd.prog 38 #[isV b1] w fun e w' => e = .returned (.int .i64 (kleast v.u)) ∧ w = w' := by
  have HS := Lib.hid (fun (k : Nat) (h : k < 4) => isSo_any w hk hb h)
  obtain ⟨K, hK⟩ : ∃ K, K = kfree v.u := ⟨_, rfl⟩
  have hK4 : K ≤ 4 := hK ▸ kfree_le v.u
  have HU := Lib.hid (show ∀ k, k < K → v.u k = true from fun k h => kfree_used (hK ▸ h))
  have HF := Lib.hid (show K < 4 → v.u K = false from fun h => by rw [hK] at h ⊢; exact kfree_not h)
  have HL := Lib.hid (show kleast v.u = if K = 4 then -1 else (K : Int) from by rw [hK]; rfl)
  rw [HL.out]
  clear hk hb hK
  go_enter Tryd.func38, Tryd.ntmps38
  go_upto_region 1 with fail
  go_wp2_with fail
  go_loopw [4] (fun i wr => ∃ k : Nat, k ≤ K ∧ i = .int .i64 k ∧ wr = w) (fun i _ => 4 - (intOf i).toNat)
  case atStart => exact ⟨0, by omega, rfl, by trivial⟩
  case round =>
    obtain ⟨k, hk, rfl, rfl⟩ := hrel
    by_cases h4 : k < 4
    · have hI : (k : Int) < 4 := by omega
      by_cases hkK : k < K
      · have hu := HU.out k hkK
        go_wp2_with (go_at_call 39; refine (HS.out k h4).mono ?_; rw [hu]; rintro e w' ⟨rfl, rfl⟩)
        go_roundw
        case rel => exact ⟨k + 1, by omega, by go_num, by trivial⟩
        case measure => simp [intOf]; omega
      · obtain rfl : k = K := by omega
        have hu := HF.out h4
        go_wp2_with (go_at_call 39; refine (HS.out k h4).mono ?_; rw [hu]; rintro e w' ⟨rfl, rfl⟩)
        go_ret
        exact ⟨rfl, rfl⟩
    · obtain rfl : k = 4 := by omega
      obtain rfl : K = 4 := by omega
      go_wp2
      go_ret
      exact ⟨rfl, rfl⟩
end Go.Proofs.YtjcoihhmlblkbaaDoor.Stk
