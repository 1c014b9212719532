/-
  Package mcs: what its functions do, by contracts.
-/
import Derived.Test.YtobfaohcadmopaaMcsMath
import Derived.Test.YtobfaohcadmopaaTch
import Derived.Deep.QuietTactic
import Derived.BigQuiet
import Derived.LoopTactic
import Derived.Deep.RegionHeld3
import Derived.IntWalk
namespace Go.Proofs.Ytobfaohcadmopaa.Mcs
open Go.RowKit

/-- The cells of a lock. -/
structure Cel (cs : Array Value) (n : Nat) (s : QS) : Prop where
  size : cs.size = 18
  num : cs[0]? = some (.int .i64 n)
  T : cs[1]? = some (.int .i64 s.T)
  a : ∀ p, p < n → cs[10 + p * 2]? = some (.int .i64 (s.a p))
  o : ∀ p, p < n → cs[10 + p * 2 + 1]? = some (.int .i64 (s.o p))
  w : ∀ p, p < n → cs[1 + (1 + p)]? = some (.int .i64 (s.w p))
  f : ∀ p, p < n → cs[1 + (1 + n + p)]? = some (.int .i64 (s.f p))
theorem set_at {cs : Array Value} {i : Nat} {u : Value} (h : i < cs.size) : (cs.setIfInBounds i u)[i]? = some u := by simp [h]
theorem set_off {cs : Array Value} {i j : Nat} {u : Value} (h : j ≠ i) : (cs.setIfInBounds i u)[j]? = cs[j]? := Array.getElem?_setIfInBounds_ne (by omega)
def putA (s : QS) (p z : Nat) : QS := { s with a := qup s.a p z }
def putO (s : QS) (p z : Nat) : QS := { s with o := qup s.o p z }
def putW (s : QS) (p z : Nat) : QS := { s with w := qup s.w p z }
def putF (s : QS) (p z : Nat) : QS := { s with f := qup s.f p z }
def putT (s : QS) (z : Nat) : QS := { s with T := z }
section
variable {cs : Array Value} {n : Nat} {s : QS}
theorem Cel.setA (h : Cel cs n s) (hn : n ≤ 4) {p : Nat} (hp : p < n) (z : Nat) : Cel (cs.setIfInBounds (10 + p * 2) (.int .i64 z)) n (putA s p z) := by
  have hs := h.size
  refine ⟨by simpa using hs, by rw [set_off (by omega)]; exact h.num, by rw [set_off (by omega)]; exact h.T, fun q hq => ?_, fun q hq => ?_, fun q hq => ?_, fun q hq => ?_⟩
  · by_cases e : q = p
    · subst e; rw [set_at (by omega), putA]; dsimp only; rw [qup_same]
    · rw [set_off (by omega), putA]; dsimp only; rw [qup_other e]; exact h.a q hq
  · rw [set_off (by omega)]; exact h.o q hq
  · rw [set_off (by omega)]; exact h.w q hq
  · rw [set_off (by omega)]; exact h.f q hq
theorem Cel.setO (h : Cel cs n s) (hn : n ≤ 4) {p : Nat} (hp : p < n) (z : Nat) : Cel (cs.setIfInBounds (10 + p * 2 + 1) (.int .i64 z)) n (putO s p z) := by
  have hs := h.size
  refine ⟨by simpa using hs, by rw [set_off (by omega)]; exact h.num, by rw [set_off (by omega)]; exact h.T, fun q hq => ?_, fun q hq => ?_, fun q hq => ?_, fun q hq => ?_⟩
  · rw [set_off (by omega)]; exact h.a q hq
  · by_cases e : q = p
    · subst e; rw [set_at (by omega), putO]; dsimp only; rw [qup_same]
    · rw [set_off (by omega), putO]; dsimp only; rw [qup_other e]; exact h.o q hq
  · rw [set_off (by omega)]; exact h.w q hq
  · rw [set_off (by omega)]; exact h.f q hq
theorem Cel.setW (h : Cel cs n s) (hn : n ≤ 4) {p : Nat} (hp : p < n) (z : Nat) : Cel (cs.setIfInBounds (1 + (1 + p)) (.int .i64 z)) n (putW s p z) := by
  have hs := h.size
  refine ⟨by simpa using hs, by rw [set_off (by omega)]; exact h.num, by rw [set_off (by omega)]; exact h.T, fun q hq => ?_, fun q hq => ?_, fun q hq => ?_, fun q hq => ?_⟩
  · rw [set_off (by omega)]; exact h.a q hq
  · rw [set_off (by omega)]; exact h.o q hq
  · by_cases e : q = p
    · subst e; rw [set_at (by omega), putW]; dsimp only; rw [qup_same]
    · rw [set_off (by omega), putW]; dsimp only; rw [qup_other e]; exact h.w q hq
  · rw [set_off (by omega)]; exact h.f q hq
theorem Cel.setF (h : Cel cs n s) (hn : n ≤ 4) {p : Nat} (hp : p < n) (z : Nat) : Cel (cs.setIfInBounds (1 + (1 + n + p)) (.int .i64 z)) n (putF s p z) := by
  have hs := h.size
  refine ⟨by simpa using hs, by rw [set_off (by omega)]; exact h.num, by rw [set_off (by omega)]; exact h.T, fun q hq => ?_, fun q hq => ?_, fun q hq => ?_, fun q hq => ?_⟩
  · rw [set_off (by omega)]; exact h.a q hq
  · rw [set_off (by omega)]; exact h.o q hq
  · rw [set_off (by omega)]; exact h.w q hq
  · by_cases e : q = p
    · subst e; rw [set_at (by omega), putF]; dsimp only; rw [qup_same]
    · rw [set_off (by omega), putF]; dsimp only; rw [qup_other e]; exact h.f q hq
theorem Cel.setT (h : Cel cs n s) (hn : n ≤ 4) (z : Nat) : Cel (cs.setIfInBounds 1 (.int .i64 z)) n (putT s z) := by
  have hs := h.size
  have _ := hn
  refine ⟨by simpa using hs, by rw [set_off (by omega)]; exact h.num, by rw [set_at (by omega), putT], fun q hq => ?_, fun q hq => ?_, fun q hq => ?_, fun q hq => ?_⟩
  · rw [set_off (by omega)]; exact h.a q hq
  · rw [set_off (by omega)]; exact h.o q hq
  · rw [set_off (by omega)]; exact h.w q hq
  · rw [set_off (by omega)]; exact h.f q hq
end

/-- The lock in block g: n hands, its cells as s says. -/
def Lk0 (w : World) (g n : Nat) (s : QS) : Prop := ∃ cs, Block w g 74 cs ∧ Cel cs n s
section
variable {w : World} {g n : Nat} {s : QS}
theorem Lk0.lt (h : Lk0 w g n s) : g < w.heap.size := by
  obtain ⟨cs, h, _⟩ := h
  exact h.lt
theorem Lk0.num (h : Lk0 w g n s) : w.cell? ⟨g, 0, none⟩ = some (.int .i64 n) := by
  obtain ⟨cs, h, c⟩ := h
  rw [h.cell]; exact c.num
theorem Lk0.xT (h : Lk0 w g n s) : w.cell? ⟨g, 1, none⟩ = some (.int .i64 s.T) := by
  obtain ⟨cs, h, c⟩ := h
  rw [h.cell]; exact c.T
theorem Lk0.xa (h : Lk0 w g n s) {p : Nat} (hp : p < n) : w.cell? ⟨g, 10 + p * 2, none⟩ = some (.int .i64 (s.a p)) := by
  obtain ⟨cs, h, c⟩ := h
  rw [h.cell]; exact c.a p hp
theorem Lk0.xo (h : Lk0 w g n s) {p : Nat} (hp : p < n) : w.cell? ⟨g, 10 + p * 2 + 1, none⟩ = some (.int .i64 (s.o p)) := by
  obtain ⟨cs, h, c⟩ := h
  rw [h.cell]; exact c.o p hp
theorem Lk0.xw (h : Lk0 w g n s) {p : Nat} (hp : p < n) : w.cell? ⟨g, 1 + (1 + p), none⟩ = some (.int .i64 (s.w p)) := by
  obtain ⟨cs, h, c⟩ := h
  rw [h.cell]; exact c.w p hp
theorem Lk0.xf (h : Lk0 w g n s) {p : Nat} (hp : p < n) : w.cell? ⟨g, 1 + (1 + n + p), none⟩ = some (.int .i64 (s.f p)) := by
  obtain ⟨cs, h, c⟩ := h
  rw [h.cell]; exact c.f p hp
theorem Lk0.free (h : Lk0 w g n s) (i : Nat) : w.frozen? ⟨g, i, none⟩ = false := by
  obtain ⟨cs, h, _⟩ := h
  exact h.free i
theorem Lk0.drewN (h : Lk0 w g n s) (i : Nat) : Lk0 (w.drewN i) g n s := h
theorem Lk0.drew (h : Lk0 w g n s) : Lk0 w.drew g n s := h
theorem Lk0.below0 {w' : World} (h : Lk0 w g n s) {B : Nat} (hb : Below B w w') (hg : g < B) : Lk0 w' g n s := by
  obtain ⟨cs, h, c⟩ := h
  exact ⟨cs, h.below hb hg, c⟩
theorem Lk0.setA (h : Lk0 w g n s) (hn : n ≤ 4) {p : Nat} (hp : p < n) (z : Nat) : Lk0 (w.setCell ⟨g, 10 + p * 2, none⟩ (.int .i64 z)) g n (putA s p z) := by
  obtain ⟨cs, h, c⟩ := h
  exact ⟨_, h.put _ _, c.setA hn hp z⟩
theorem Lk0.setO (h : Lk0 w g n s) (hn : n ≤ 4) {p : Nat} (hp : p < n) (z : Nat) : Lk0 (w.setCell ⟨g, 10 + p * 2 + 1, none⟩ (.int .i64 z)) g n (putO s p z) := by
  obtain ⟨cs, h, c⟩ := h
  exact ⟨_, h.put _ _, c.setO hn hp z⟩
theorem Lk0.setW (h : Lk0 w g n s) (hn : n ≤ 4) {p : Nat} (hp : p < n) (z : Nat) : Lk0 (w.setCell ⟨g, 1 + (1 + p), none⟩ (.int .i64 z)) g n (putW s p z) := by
  obtain ⟨cs, h, c⟩ := h
  exact ⟨_, h.put _ _, c.setW hn hp z⟩
theorem Lk0.setF (h : Lk0 w g n s) (hn : n ≤ 4) {p : Nat} (hp : p < n) (z : Nat) : Lk0 (w.setCell ⟨g, 1 + (1 + n + p), none⟩ (.int .i64 z)) g n (putF s p z) := by
  obtain ⟨cs, h, c⟩ := h
  exact ⟨_, h.put _ _, c.setF hn hp z⟩
theorem Lk0.setT (h : Lk0 w g n s) (hn : n ≤ 4) (z : Nat) : Lk0 (w.setCell ⟨g, 1, none⟩ (.int .i64 z)) g n (putT s z) := by
  obtain ⟨cs, h, c⟩ := h
  exact ⟨_, h.put _ _, c.setT hn z⟩
end
/-- A hand that stands at line 1 or 2 has no s: its cell is 0. -/
def qraw (s : QS) : QS := { s with o := fun p => if s.a p ≤ 2 then 0 else s.o p }
/-- The lock in block g: n hands, as s says. -/
def Lk (w : World) (g n : Nat) (s : QS) : Prop := Lk0 w g n (qraw s)
theorem Lk.num {w : World} {g n : Nat} {s : QS} (h : Lk w g n s) : w.cell? ⟨g, 0, none⟩ = some (.int .i64 n) := Lk0.num h
theorem Lk.lt {w : World} {g n : Nat} {s : QS} (h : Lk w g n s) : g < w.heap.size := Lk0.lt h
theorem Lk.xa {w : World} {g n : Nat} {s : QS} (h : Lk w g n s) {p : Nat} (hp : p < n) : w.cell? ⟨g, 10 + p * 2, none⟩ = some (.int .i64 (s.a p)) := Lk0.xa h hp
theorem Lk.drew {w : World} {g n : Nat} {s : QS} (h : Lk w g n s) : Lk w.drew g n s := h
theorem touch_one (w : World) (g i : Nat) (u : Value) : Touch (fun k => k = g) w (w.setCell ⟨g, i, none⟩ u) := (Touch.refl (fun k => k = g) w).setCell (Or.inl rfl) u
theorem below_undrew {B : Nat} {a b : World} (h : Below B a.drew b) : Below B a b := ⟨h.os, h.tape, h.output, h.size, h.block⟩
theorem cell_far {w : World} {g i j : Nat} {u : Value} (h : j ≠ i) : (w.setCell ⟨g, i, none⟩ u).cell? ⟨g, j, none⟩ = w.cell? ⟨g, j, none⟩ :=
  World.cell?_setCell_other _ _ _ _ fun e => h (by injection e with _ e; exact e.symm)

theorem isHand_any {g n : Nat} (p : Int) (w : World) (hc : w.cell? ⟨g, 0, none⟩ = some (.int .i64 n)) : Calls Try.prog 34 #[.pointer (some ⟨g, 0, none⟩), .int .i64 p] w fun e w' => e = .returned (.bool (decide (0 ≤ p ∧ p < n))) ∧ w = w' := by
  by_cases h0 : 0 ≤ p
  · by_cases h1 : p < n
    · rw [decide_eq_true (show 0 ≤ p ∧ p < n from ⟨h0, h1⟩)]
      go_enter Try.func34, Try.ntmps34
      go_wp2
      go_ret
      exact ⟨rfl, rfl⟩
    · rw [decide_eq_false (show ¬ (0 ≤ p ∧ p < n) from fun h => h1 h.2)]
      go_enter Try.func34, Try.ntmps34
      go_wp2
      go_ret
      exact ⟨rfl, rfl⟩
  · rw [decide_eq_false (show ¬ (0 ≤ p ∧ p < n) from fun h => h0 h.1)]
    go_enter Try.func34, Try.ntmps34
    go_wp2
    go_ret
    exact ⟨rfl, rfl⟩

/-- What a picker has captured: the lock in block g, and a place. -/
structure Pk (w : World) (g b1 b2 f : Nat) : Prop where
  lock : w.cell? ⟨b1, 0, none⟩ = some (.pointer (some ⟨g, 0, none⟩))
  from_ : w.cell? ⟨b2, 0, none⟩ = some (.int .i64 f)
  far1 : b1 ≠ g
  far2 : b2 ≠ g
/-- A picker. -/
abbrev pkV (b1 b2 : Nat) : Value := .func (.func 49) #[] #[.pointer (some ⟨b1, 0, none⟩), .pointer (some ⟨b2, 0, none⟩)]
theorem Pk.drew {w : World} {g b1 b2 f : Nat} (h : Pk w g b1 b2 f) : Pk w.drew g b1 b2 f := ⟨h.lock, h.from_, h.far1, h.far2⟩
theorem Pk.drewN {w : World} {g b1 b2 f : Nat} (h : Pk w g b1 b2 f) (i : Nat) : Pk (w.drewN i) g b1 b2 f := ⟨h.lock, h.from_, h.far1, h.far2⟩
theorem Pk.touch {w w' : World} {g b1 b2 f : Nat} (h : Pk w g b1 b2 f) (k : Touch (fun k => k = g) w w') : Pk w' g b1 b2 f :=
  ⟨(k.cell (p := ⟨b1, 0, none⟩) (lt_of_cell h.lock) h.far1).trans h.lock, (k.cell (p := ⟨b2, 0, none⟩) (lt_of_cell h.from_) h.far2).trans h.from_, h.far1, h.far2⟩
theorem Pk.below {w w' : World} {g b1 b2 f : Nat} (h : Pk w g b1 b2 f) (k : Below w.heap.size w w') : Pk w' g b1 b2 f :=
  ⟨(k.cell (p := ⟨b1, 0, none⟩) (lt_of_cell h.lock)).trans h.lock, (k.cell (p := ⟨b2, 0, none⟩) (lt_of_cell h.from_)).trans h.from_, h.far1, h.far2⟩

set_option maxHeartbeats 1000000 in
theorem pick_any {g f : Nat} (w : World) (hg : g < w.heap.size) :
    Calls Try.prog 43 #[.pointer (some ⟨g, 0, none⟩), .int .i64 f] w fun e w' => ∃ b1 b2, e = .returned (pkV b1 b2) ∧ Pk w' g b1 b2 f ∧ Below w.heap.size w w' := by
  have hmf : ∀ (fn : Fn) (first cap : Array Value) (w : World), (Instr.makeFunc fn first cap).run Try.prog w = .ok (.func fn first cap) w := fun _ _ _ _ => rfl
  go_enter Try.func43, Try.ntmps43
  go_wp2
  go_ret
  have hB : Below w.heap.size w ((w.alloc (Obj.cells #[Value.pointer (some { block := g, off := 0 })] 41)).alloc (Obj.cells #[Value.int IntKind.i64 ↑f] 3)) := ((Below.refl _ _).alloc (Nat.le_refl _) _).alloc (by simp) _
  have h1 : ((w.alloc (Obj.cells #[Value.pointer (some { block := g, off := 0 })] 41)).alloc (Obj.cells #[Value.int IntKind.i64 ↑f] 3)).cell? ⟨w.heap.size, 0, none⟩ = some (.pointer (some ⟨g, 0, none⟩)) :=
    ((Block.made w 41 #[Value.pointer (some { block := g, off := 0 })]).alloc _).cell 0
  have h2 : ((w.alloc (Obj.cells #[Value.pointer (some { block := g, off := 0 })] 41)).alloc (Obj.cells #[Value.int IntKind.i64 ↑f] 3)).cell? ⟨w.heap.size + 1, 0, none⟩ = some (.int .i64 f) := by
    have := (Block.made (w.alloc (Obj.cells #[Value.pointer (some { block := g, off := 0 })] 41)) 3 #[Value.int IntKind.i64 ↑f]).cell 0
    rwa [World.size_alloc] at this
  exact ⟨_, _, rfl, ⟨h1, h2, by omega, by omega⟩, hB⟩
theorem pick0_any {g : Nat} (w : World) (hg : g < w.heap.size) :
    Calls Try.prog 43 #[.pointer (some ⟨g, 0, none⟩), .int .i64 0] w fun e w' => ∃ b1 b2, e = .returned (pkV b1 b2) ∧ Pk w' g b1 b2 0 ∧ Below w.heap.size w w' := pick_any (f := 0) w hg

theorem pick1_any {g : Nat} (w : World) (hg : g < w.heap.size) :
    Calls Try.prog 43 #[.pointer (some ⟨g, 0, none⟩), .int .i64 1] w fun e w' => ∃ b1 b2, e = .returned (pkV b1 b2) ∧ Pk w' g b1 b2 1 ∧ Below w.heap.size w w' := pick_any (f := 1) w hg

set_option maxHeartbeats 1000000 in
theorem picked_any {g b1 b2 f k d : Nat} (w : World) (h : Pk w g b1 b2 f) (hd : f + k = d) (h8 : d < 9) :
    Calls Try.prog 49 #[.int .i64 k, .pointer (some ⟨b1, 0, none⟩), .pointer (some ⟨b2, 0, none⟩)] w fun e w' => e = .returned (.pointer (some ⟨g, 1 + d, none⟩)) ∧ ∃ i, w' = w.drewN i := by
  have h1 := h.lock
  have h2 := h.from_
  have hw : IntKind.i64.wrap ((f : Int) + (k : Int)) = (d : Int) := by rw [IntWalk.i64_in _ (by omega)]; omega
  have hd8 : (d : Int) < 9 := by omega
  clear h hd
  go_enter Try.func49, Try.ntmps49
  go_wp2
  go_quiet (fail)
  go_wp2
  go_ret
  exact ⟨rfl, _, rfl⟩

/-- Of word 0. -/
theorem picked0_any {g b1 b2 : Nat} (w : World) (h : Pk w g b1 b2 0) :
    Calls Try.prog 49 #[.int .i64 0, .pointer (some ⟨b1, 0, none⟩), .pointer (some ⟨b2, 0, none⟩)] w fun e w' => e = .returned (.pointer (some ⟨g, 1, none⟩)) ∧ ∃ i, w' = w.drewN i := picked_any (k := 0) (d := 0) w h rfl (by omega)
end Go.Proofs.Ytobfaohcadmopaa.Mcs
