/-
  Package ticket: what its functions do, by contracts.
-/
import Derived.Test.YtobfaohcadmopaaTckMath
import Derived.Test.YtobfaohcadmopaaTch
import Derived.Deep.QuietTactic
import Derived.BigQuiet
import Derived.LoopTactic
import Derived.Deep.RegionHeld3
import Derived.IntWalk
namespace Go.Proofs.Ytobfaohcadmopaa.Ticket
open Go.RowKit

/-- The cells of a lock. -/
structure Cel (cs : Array Value) (n : Nat) (s : TS) : Prop where
  size : cs.size = 11
  num : cs[0]? = some (.int .i64 n)
  nx : cs[1]? = some (.int .i64 s.nx)
  nw : cs[2]? = some (.int .i64 s.nw)
  a : ∀ p, p < n → cs[3 + p * 2]? = some (.int .i64 (s.a p))
  t : ∀ p, p < n → cs[3 + p * 2 + 1]? = some (.int .i64 (s.t p))
theorem set_at {cs : Array Value} {i : Nat} {u : Value} (h : i < cs.size) : (cs.setIfInBounds i u)[i]? = some u := by simp [h]
theorem set_off {cs : Array Value} {i j : Nat} {u : Value} (h : j ≠ i) : (cs.setIfInBounds i u)[j]? = cs[j]? := Array.getElem?_setIfInBounds_ne (by omega)
def putA (s : TS) (p z : Nat) : TS := { s with a := tup s.a p z }
def putT (s : TS) (p z : Nat) : TS := { s with t := tup s.t p z }
def putX (s : TS) (z : Nat) : TS := { s with nx := z }
def putW (s : TS) (z : Nat) : TS := { s with nw := z }
section
variable {cs : Array Value} {n : Nat} {s : TS}
theorem Cel.setA (h : Cel cs n s) (hn : n ≤ 4) {p : Nat} (hp : p < n) (z : Nat) : Cel (cs.setIfInBounds (3 + p * 2) (.int .i64 z)) n (putA s p z) := by
  have hs := h.size
  refine ⟨by simpa using hs, by rw [set_off (by omega)]; exact h.num, by rw [set_off (by omega)]; exact h.nx, by rw [set_off (by omega)]; exact h.nw, fun q hq => ?_, fun q hq => ?_⟩
  · by_cases e : q = p
    · subst e; rw [set_at (by omega), putA]; dsimp only; rw [tup_same]
    · rw [set_off (by omega), putA]; dsimp only; rw [tup_other e]; exact h.a q hq
  · rw [set_off (by omega)]; exact h.t q hq
theorem Cel.setT (h : Cel cs n s) (hn : n ≤ 4) {p : Nat} (hp : p < n) (z : Nat) : Cel (cs.setIfInBounds (3 + p * 2 + 1) (.int .i64 z)) n (putT s p z) := by
  have hs := h.size
  refine ⟨by simpa using hs, by rw [set_off (by omega)]; exact h.num, by rw [set_off (by omega)]; exact h.nx, by rw [set_off (by omega)]; exact h.nw, fun q hq => ?_, fun q hq => ?_⟩
  · rw [set_off (by omega)]; exact h.a q hq
  · by_cases e : q = p
    · subst e; rw [set_at (by omega), putT]; dsimp only; rw [tup_same]
    · rw [set_off (by omega), putT]; dsimp only; rw [tup_other e]; exact h.t q hq
theorem Cel.setX (h : Cel cs n s) (hn : n ≤ 4) (z : Nat) : Cel (cs.setIfInBounds 1 (.int .i64 z)) n (putX s z) := by
  have hs := h.size
  have _ := hn
  refine ⟨by simpa using hs, by rw [set_off (by omega)]; exact h.num, by rw [set_at (by omega), putX], by rw [set_off (by omega)]; exact h.nw, fun q hq => ?_, fun q hq => ?_⟩
  · rw [set_off (by omega)]; exact h.a q hq
  · rw [set_off (by omega)]; exact h.t q hq
theorem Cel.setW (h : Cel cs n s) (hn : n ≤ 4) (z : Nat) : Cel (cs.setIfInBounds 2 (.int .i64 z)) n (putW s z) := by
  have hs := h.size
  have _ := hn
  refine ⟨by simpa using hs, by rw [set_off (by omega)]; exact h.num, by rw [set_off (by omega)]; exact h.nx, by rw [set_at (by omega), putW], fun q hq => ?_, fun q hq => ?_⟩
  · rw [set_off (by omega)]; exact h.a q hq
  · rw [set_off (by omega)]; exact h.t q hq
end

/-- The lock in block g: n hands, its cells as s says. -/
def Lk0 (w : World) (g n : Nat) (s : TS) : Prop := ∃ cs, Block w g 62 cs ∧ Cel cs n s
section
variable {w : World} {g n : Nat} {s : TS}
theorem Lk0.lt (h : Lk0 w g n s) : g < w.heap.size := by
  obtain ⟨cs, h, _⟩ := h
  exact h.lt
theorem Lk0.num (h : Lk0 w g n s) : w.cell? ⟨g, 0, none⟩ = some (.int .i64 n) := by
  obtain ⟨cs, h, c⟩ := h
  rw [h.cell]; exact c.num
theorem Lk0.xnx (h : Lk0 w g n s) : w.cell? ⟨g, 1, none⟩ = some (.int .i64 s.nx) := by
  obtain ⟨cs, h, c⟩ := h
  rw [h.cell]; exact c.nx
theorem Lk0.xnw (h : Lk0 w g n s) : w.cell? ⟨g, 2, none⟩ = some (.int .i64 s.nw) := by
  obtain ⟨cs, h, c⟩ := h
  rw [h.cell]; exact c.nw
theorem Lk0.xa (h : Lk0 w g n s) {p : Nat} (hp : p < n) : w.cell? ⟨g, 3 + p * 2, none⟩ = some (.int .i64 (s.a p)) := by
  obtain ⟨cs, h, c⟩ := h
  rw [h.cell]; exact c.a p hp
theorem Lk0.xt (h : Lk0 w g n s) {p : Nat} (hp : p < n) : w.cell? ⟨g, 3 + p * 2 + 1, none⟩ = some (.int .i64 (s.t p)) := by
  obtain ⟨cs, h, c⟩ := h
  rw [h.cell]; exact c.t p hp
theorem Lk0.free (h : Lk0 w g n s) (i : Nat) : w.frozen? ⟨g, i, none⟩ = false := by
  obtain ⟨cs, h, _⟩ := h
  exact h.free i
theorem Lk0.drewN (h : Lk0 w g n s) (i : Nat) : Lk0 (w.drewN i) g n s := h
theorem Lk0.drew (h : Lk0 w g n s) : Lk0 w.drew g n s := h
theorem Lk0.below0 {w' : World} (h : Lk0 w g n s) {B : Nat} (hb : Below B w w') (hg : g < B) : Lk0 w' g n s := by
  obtain ⟨cs, h, c⟩ := h
  exact ⟨cs, h.below hb hg, c⟩
theorem Lk0.setA (h : Lk0 w g n s) (hn : n ≤ 4) {p : Nat} (hp : p < n) (z : Nat) : Lk0 (w.setCell ⟨g, 3 + p * 2, none⟩ (.int .i64 z)) g n (putA s p z) := by
  obtain ⟨cs, h, c⟩ := h
  exact ⟨_, h.put _ _, c.setA hn hp z⟩
theorem Lk0.setT (h : Lk0 w g n s) (hn : n ≤ 4) {p : Nat} (hp : p < n) (z : Nat) : Lk0 (w.setCell ⟨g, 3 + p * 2 + 1, none⟩ (.int .i64 z)) g n (putT s p z) := by
  obtain ⟨cs, h, c⟩ := h
  exact ⟨_, h.put _ _, c.setT hn hp z⟩
theorem Lk0.setX (h : Lk0 w g n s) (hn : n ≤ 4) (z : Nat) : Lk0 (w.setCell ⟨g, 1, none⟩ (.int .i64 z)) g n (putX s z) := by
  obtain ⟨cs, h, c⟩ := h
  exact ⟨_, h.put _ _, c.setX hn z⟩
theorem Lk0.setW (h : Lk0 w g n s) (hn : n ≤ 4) (z : Nat) : Lk0 (w.setCell ⟨g, 2, none⟩ (.int .i64 z)) g n (putW s z) := by
  obtain ⟨cs, h, c⟩ := h
  exact ⟨_, h.put _ _, c.setW hn z⟩
end
/-- A hand that stands at line 1 has no ticket: its cell is 0. -/
def traw (s : TS) : TS := { s with t := fun p => if s.a p = 1 then 0 else s.t p }
/-- The lock in block g: n hands, as s says. -/
def Lk (w : World) (g n : Nat) (s : TS) : Prop := Lk0 w g n (traw s)
theorem Lk.num {w : World} {g n : Nat} {s : TS} (h : Lk w g n s) : w.cell? ⟨g, 0, none⟩ = some (.int .i64 n) := Lk0.num h
theorem Lk.lt {w : World} {g n : Nat} {s : TS} (h : Lk w g n s) : g < w.heap.size := Lk0.lt h
theorem Lk.xa {w : World} {g n : Nat} {s : TS} (h : Lk w g n s) {p : Nat} (hp : p < n) : w.cell? ⟨g, 3 + p * 2, none⟩ = some (.int .i64 (s.a p)) := Lk0.xa h hp
theorem Lk.drew {w : World} {g n : Nat} {s : TS} (h : Lk w g n s) : Lk w.drew g n s := h
theorem touch_one (w : World) (g i : Nat) (u : Value) : Touch (fun k => k = g) w (w.setCell ⟨g, i, none⟩ u) := (Touch.refl (fun k => k = g) w).setCell (Or.inl rfl) u
theorem below_undrew {B : Nat} {a b : World} (h : Below B a.drew b) : Below B a b := ⟨h.os, h.tape, h.output, h.size, h.block⟩
theorem cell_far {w : World} {g i j : Nat} {u : Value} (h : j ≠ i) : (w.setCell ⟨g, i, none⟩ u).cell? ⟨g, j, none⟩ = w.cell? ⟨g, j, none⟩ :=
  World.cell?_setCell_other _ _ _ _ fun e => h (by injection e with _ e; exact e.symm)

theorem isHand_any {g n : Nat} (p : Int) (w : World) (hc : w.cell? ⟨g, 0, none⟩ = some (.int .i64 n)) : Calls Try.prog 30 #[.pointer (some ⟨g, 0, none⟩), .int .i64 p] w fun e w' => e = .returned (.bool (decide (0 ≤ p ∧ p < n))) ∧ w = w' := by
  by_cases h0 : 0 ≤ p
  · by_cases h1 : p < n
    · rw [decide_eq_true (show 0 ≤ p ∧ p < n from ⟨h0, h1⟩)]
      go_enter Try.func30, Try.ntmps30
      go_wp2
      go_ret
      exact ⟨rfl, rfl⟩
    · rw [decide_eq_false (show ¬ (0 ≤ p ∧ p < n) from fun h => h1 h.2)]
      go_enter Try.func30, Try.ntmps30
      go_wp2
      go_ret
      exact ⟨rfl, rfl⟩
  · rw [decide_eq_false (show ¬ (0 ≤ p ∧ p < n) from fun h => h0 h.1)]
    go_enter Try.func30, Try.ntmps30
    go_wp2
    go_ret
    exact ⟨rfl, rfl⟩

/-- What a picker has captured: the lock in block g. -/
structure Pk (w : World) (g b : Nat) : Prop where
  lock : w.cell? ⟨b, 0, none⟩ = some (.pointer (some ⟨g, 0, none⟩))
  far : b ≠ g
/-- A picker. -/
abbrev pkV (b : Nat) : Value := .func (.func 47) #[] #[.pointer (some ⟨b, 0, none⟩)]
theorem Pk.drew {w : World} {g b : Nat} (h : Pk w g b) : Pk w.drew g b := ⟨h.lock, h.far⟩
theorem Pk.drewN {w : World} {g b : Nat} (h : Pk w g b) (i : Nat) : Pk (w.drewN i) g b := ⟨h.lock, h.far⟩
theorem Pk.set {w : World} {g b : Nat} (h : Pk w g b) (i : Nat) (u : Value) : Pk (w.setCell ⟨g, i, none⟩ u) g b :=
  ⟨((touch_one w g i u).cell (p := ⟨b, 0, none⟩) (lt_of_cell h.lock) h.far).trans h.lock, h.far⟩

set_option maxHeartbeats 1000000 in
theorem pick_any {g : Nat} (w : World) (hg : g < w.heap.size) :
    Calls Try.prog 39 #[.pointer (some ⟨g, 0, none⟩)] w fun e w' => ∃ b, e = .returned (pkV b) ∧ Pk w' g b ∧ Below w.heap.size w w' := by
  have hmf : ∀ (fn : Fn) (first cap : Array Value) (w : World), (Instr.makeFunc fn first cap).run Try.prog w = .ok (.func fn first cap) w := fun _ _ _ _ => rfl
  go_enter Try.func39, Try.ntmps39
  go_wp2
  go_ret
  exact ⟨_, rfl, ⟨(Block.made w 35 #[Value.pointer (some { block := g, off := 0 })]).cell 0, by omega⟩, (Below.refl _ _).alloc (Nat.le_refl _) _⟩

set_option maxHeartbeats 1000000 in
theorem picked_any {g b d : Nat} (w : World) (h : Pk w g b) (h8 : d < 2) :
    Calls Try.prog 47 #[.int .i64 d, .pointer (some ⟨b, 0, none⟩)] w fun e w' => e = .returned (.pointer (some ⟨g, 1 + d, none⟩)) ∧ w = w' := by
  have h1 := h.lock
  have hd8 : (d : Int) < 2 := by omega
  clear h
  go_enter Try.func47, Try.ntmps47
  go_wp2
  go_ret
  exact ⟨rfl, rfl⟩
/-- Of word 0; of word 1. -/
theorem picked0_any {g b : Nat} (w : World) (h : Pk w g b) :
    Calls Try.prog 47 #[.int .i64 0, .pointer (some ⟨b, 0, none⟩)] w fun e w' => e = .returned (.pointer (some ⟨g, 1, none⟩)) ∧ w = w' := picked_any (d := 0) w h (by omega)
theorem picked1_any {g b : Nat} (w : World) (h : Pk w g b) :
    Calls Try.prog 47 #[.int .i64 1, .pointer (some ⟨b, 0, none⟩)] w fun e w' => e = .returned (.pointer (some ⟨g, 2, none⟩)) ∧ w = w' := picked_any (d := 1) w h (by omega)
end Go.Proofs.Ytobfaohcadmopaa.Ticket
