/-
  Package fast: what its functions do, by contracts.
-/
import Derived.Test.YtjnfecaghkgdpaaDoorFastMath
import Derived.Test.YtjnfecaghkgdpaaDoorTch
import Derived.Deep.QuietTactic
import Derived.BigQuiet
import Derived.LoopTactic
import Derived.Deep.RegionHeld3
import Derived.IntWalk
namespace Go.Proofs.YtjnfecaghkgdpaaDoor.Fast
open Go.RowKit

/-- The cells of a lock. -/
structure Cel (cs : Array Value) (n : Nat) (s : VS) : Prop where
  size : cs.size = 15
  num : cs[0]? = some (.int .i64 n)
  X : cs[1]? = some (.int .i64 s.X)
  Y : cs[2]? = some (.int .i64 s.Y)
  a : ∀ p, p < n → cs[7 + p * 2]? = some (.int .i64 (s.s p).a)
  k : ∀ p, p < n → cs[7 + p * 2 + 1]? = some (.int .i64 (s.s p).k)
  b : ∀ p, p < n → cs[1 + (2 + p)]? = some (.int .i64 (s.s p).b)
theorem set_at {cs : Array Value} {i : Nat} {u : Value} (h : i < cs.size) : (cs.setIfInBounds i u)[i]? = some u := by simp [h]
theorem set_off {cs : Array Value} {i j : Nat} {u : Value} (h : j ≠ i) : (cs.setIfInBounds i u)[j]? = cs[j]? := Array.getElem?_setIfInBounds_ne (by omega)
def putA (s : VS) (p z : Nat) : VS := { s with s := vup s.s p { s.s p with a := z } }
theorem putA_same (s : VS) (p z : Nat) : ((putA s p z).s p).a = z := by unfold putA; dsimp only; rw [vup_same]
theorem putA_off {s : VS} {p q : Nat} (z : Nat) (h : q ≠ p) : (putA s p z).s q = s.s q := by unfold putA; dsimp only; rw [vup_other h]
theorem putA_k (s : VS) (p z q : Nat) : ((putA s p z).s q).k = (s.s q).k := by
  by_cases e : q = p
  · subst e; unfold putA; dsimp only; rw [vup_same]
  · rw [putA_off z e]
theorem putA_b (s : VS) (p z q : Nat) : ((putA s p z).s q).b = (s.s q).b := by
  by_cases e : q = p
  · subst e; unfold putA; dsimp only; rw [vup_same]
  · rw [putA_off z e]
def putK (s : VS) (p z : Nat) : VS := { s with s := vup s.s p { s.s p with k := z } }
theorem putK_same (s : VS) (p z : Nat) : ((putK s p z).s p).k = z := by unfold putK; dsimp only; rw [vup_same]
theorem putK_off {s : VS} {p q : Nat} (z : Nat) (h : q ≠ p) : (putK s p z).s q = s.s q := by unfold putK; dsimp only; rw [vup_other h]
theorem putK_a (s : VS) (p z q : Nat) : ((putK s p z).s q).a = (s.s q).a := by
  by_cases e : q = p
  · subst e; unfold putK; dsimp only; rw [vup_same]
  · rw [putK_off z e]
theorem putK_b (s : VS) (p z q : Nat) : ((putK s p z).s q).b = (s.s q).b := by
  by_cases e : q = p
  · subst e; unfold putK; dsimp only; rw [vup_same]
  · rw [putK_off z e]
def putB (s : VS) (p z : Nat) : VS := { s with s := vup s.s p { s.s p with b := z } }
theorem putB_same (s : VS) (p z : Nat) : ((putB s p z).s p).b = z := by unfold putB; dsimp only; rw [vup_same]
theorem putB_off {s : VS} {p q : Nat} (z : Nat) (h : q ≠ p) : (putB s p z).s q = s.s q := by unfold putB; dsimp only; rw [vup_other h]
theorem putB_a (s : VS) (p z q : Nat) : ((putB s p z).s q).a = (s.s q).a := by
  by_cases e : q = p
  · subst e; unfold putB; dsimp only; rw [vup_same]
  · rw [putB_off z e]
theorem putB_k (s : VS) (p z q : Nat) : ((putB s p z).s q).k = (s.s q).k := by
  by_cases e : q = p
  · subst e; unfold putB; dsimp only; rw [vup_same]
  · rw [putB_off z e]
def putX (s : VS) (z : Nat) : VS := { s with X := z }
def putY (s : VS) (z : Nat) : VS := { s with Y := z }
section
variable {cs : Array Value} {n : Nat} {s : VS}
theorem Cel.setA (h : Cel cs n s) (hn : n ≤ 4) {p : Nat} (hp : p < n) (z : Nat) : Cel (cs.setIfInBounds (7 + p * 2) (.int .i64 z)) n (putA s p z) := by
  have hs := h.size
  refine ⟨by simpa using hs, by rw [set_off (by omega)]; exact h.num, by rw [set_off (by omega)]; exact h.X, by rw [set_off (by omega)]; exact h.Y, fun q hq => ?_, fun q hq => ?_, fun q hq => ?_⟩
  · by_cases e : q = p
    · subst e; rw [set_at (by omega), putA_same]
    · rw [set_off (by omega), putA_off z e]; exact h.a q hq
  · rw [set_off (by omega), putA_k]; exact h.k q hq
  · rw [set_off (by omega), putA_b]; exact h.b q hq
theorem Cel.setK (h : Cel cs n s) (hn : n ≤ 4) {p : Nat} (hp : p < n) (z : Nat) : Cel (cs.setIfInBounds (7 + p * 2 + 1) (.int .i64 z)) n (putK s p z) := by
  have hs := h.size
  refine ⟨by simpa using hs, by rw [set_off (by omega)]; exact h.num, by rw [set_off (by omega)]; exact h.X, by rw [set_off (by omega)]; exact h.Y, fun q hq => ?_, fun q hq => ?_, fun q hq => ?_⟩
  · rw [set_off (by omega), putK_a]; exact h.a q hq
  · by_cases e : q = p
    · subst e; rw [set_at (by omega), putK_same]
    · rw [set_off (by omega), putK_off z e]; exact h.k q hq
  · rw [set_off (by omega), putK_b]; exact h.b q hq
theorem Cel.setB (h : Cel cs n s) (hn : n ≤ 4) {p : Nat} (hp : p < n) (z : Nat) : Cel (cs.setIfInBounds (1 + (2 + p)) (.int .i64 z)) n (putB s p z) := by
  have hs := h.size
  refine ⟨by simpa using hs, by rw [set_off (by omega)]; exact h.num, by rw [set_off (by omega)]; exact h.X, by rw [set_off (by omega)]; exact h.Y, fun q hq => ?_, fun q hq => ?_, fun q hq => ?_⟩
  · rw [set_off (by omega), putB_a]; exact h.a q hq
  · rw [set_off (by omega), putB_k]; exact h.k q hq
  · by_cases e : q = p
    · subst e; rw [set_at (by omega), putB_same]
    · rw [set_off (by omega), putB_off z e]; exact h.b q hq
theorem Cel.setX (h : Cel cs n s) (hn : n ≤ 4) (z : Nat) : Cel (cs.setIfInBounds 1 (.int .i64 z)) n (putX s z) := by
  have hs := h.size
  have _ := hn
  refine ⟨by simpa using hs, by rw [set_off (by omega)]; exact h.num, by rw [set_at (by omega), putX], by rw [set_off (by omega)]; exact h.Y, fun q hq => ?_, fun q hq => ?_, fun q hq => ?_⟩
  · rw [set_off (by omega)]; exact h.a q hq
  · rw [set_off (by omega)]; exact h.k q hq
  · rw [set_off (by omega)]; exact h.b q hq
theorem Cel.setY (h : Cel cs n s) (hn : n ≤ 4) (z : Nat) : Cel (cs.setIfInBounds 2 (.int .i64 z)) n (putY s z) := by
  have hs := h.size
  have _ := hn
  refine ⟨by simpa using hs, by rw [set_off (by omega)]; exact h.num, by rw [set_off (by omega)]; exact h.X, by rw [set_at (by omega), putY], fun q hq => ?_, fun q hq => ?_, fun q hq => ?_⟩
  · rw [set_off (by omega)]; exact h.a q hq
  · rw [set_off (by omega)]; exact h.k q hq
  · rw [set_off (by omega)]; exact h.b q hq
end

/-- The lock in block g: n hands, its cells as s says. -/
def Lk0 (w : World) (g n : Nat) (s : VS) : Prop := ∃ cs, Block w g 47 cs ∧ Cel cs n s
section
variable {w : World} {g n : Nat} {s : VS}
theorem Lk0.lt (h : Lk0 w g n s) : g < w.heap.size := by
  obtain ⟨cs, h, _⟩ := h
  exact h.lt
theorem Lk0.num (h : Lk0 w g n s) : w.cell? ⟨g, 0, none⟩ = some (.int .i64 n) := by
  obtain ⟨cs, h, c⟩ := h
  rw [h.cell]; exact c.num
theorem Lk0.xX (h : Lk0 w g n s) : w.cell? ⟨g, 1, none⟩ = some (.int .i64 s.X) := by
  obtain ⟨cs, h, c⟩ := h
  rw [h.cell]; exact c.X
theorem Lk0.xY (h : Lk0 w g n s) : w.cell? ⟨g, 2, none⟩ = some (.int .i64 s.Y) := by
  obtain ⟨cs, h, c⟩ := h
  rw [h.cell]; exact c.Y
theorem Lk0.xa (h : Lk0 w g n s) {p : Nat} (hp : p < n) : w.cell? ⟨g, 7 + p * 2, none⟩ = some (.int .i64 (s.s p).a) := by
  obtain ⟨cs, h, c⟩ := h
  rw [h.cell]; exact c.a p hp
theorem Lk0.xk (h : Lk0 w g n s) {p : Nat} (hp : p < n) : w.cell? ⟨g, 7 + p * 2 + 1, none⟩ = some (.int .i64 (s.s p).k) := by
  obtain ⟨cs, h, c⟩ := h
  rw [h.cell]; exact c.k p hp
theorem Lk0.xb (h : Lk0 w g n s) {p : Nat} (hp : p < n) : w.cell? ⟨g, 1 + (2 + p), none⟩ = some (.int .i64 (s.s p).b) := by
  obtain ⟨cs, h, c⟩ := h
  rw [h.cell]; exact c.b p hp
theorem Lk0.free (h : Lk0 w g n s) (i : Nat) : w.frozen? ⟨g, i, none⟩ = false := by
  obtain ⟨cs, h, _⟩ := h
  exact h.free i
theorem Lk0.drewN (h : Lk0 w g n s) (i : Nat) : Lk0 (w.drewN i) g n s := h
theorem Lk0.drew (h : Lk0 w g n s) : Lk0 w.drew g n s := h
theorem Lk0.below0 {w' : World} (h : Lk0 w g n s) {B : Nat} (hb : Below B w w') (hg : g < B) : Lk0 w' g n s := by
  obtain ⟨cs, h, c⟩ := h
  exact ⟨cs, h.below hb hg, c⟩
theorem Lk0.setA (h : Lk0 w g n s) (hn : n ≤ 4) {p : Nat} (hp : p < n) (z : Nat) : Lk0 (w.setCell ⟨g, 7 + p * 2, none⟩ (.int .i64 z)) g n (putA s p z) := by
  obtain ⟨cs, h, c⟩ := h
  exact ⟨_, h.put _ _, c.setA hn hp z⟩
theorem Lk0.setK (h : Lk0 w g n s) (hn : n ≤ 4) {p : Nat} (hp : p < n) (z : Nat) : Lk0 (w.setCell ⟨g, 7 + p * 2 + 1, none⟩ (.int .i64 z)) g n (putK s p z) := by
  obtain ⟨cs, h, c⟩ := h
  exact ⟨_, h.put _ _, c.setK hn hp z⟩
theorem Lk0.setB (h : Lk0 w g n s) (hn : n ≤ 4) {p : Nat} (hp : p < n) (z : Nat) : Lk0 (w.setCell ⟨g, 1 + (2 + p), none⟩ (.int .i64 z)) g n (putB s p z) := by
  obtain ⟨cs, h, c⟩ := h
  exact ⟨_, h.put _ _, c.setB hn hp z⟩
theorem Lk0.setX (h : Lk0 w g n s) (hn : n ≤ 4) (z : Nat) : Lk0 (w.setCell ⟨g, 1, none⟩ (.int .i64 z)) g n (putX s z) := by
  obtain ⟨cs, h, c⟩ := h
  exact ⟨_, h.put _ _, c.setX hn z⟩
theorem Lk0.setY (h : Lk0 w g n s) (hn : n ≤ 4) (z : Nat) : Lk0 (w.setCell ⟨g, 2, none⟩ (.int .i64 z)) g n (putY s z) := by
  obtain ⟨cs, h, c⟩ := h
  exact ⟨_, h.put _ _, c.setY hn z⟩
end
/-- What the cells have of a hand: its k is 0 till it comes to line 9, and if it is in by the quick way. -/
def vrawH (h : VH) : VH := ⟨h.a, if h.a ≤ 8 ∨ (12 ≤ h.a ∧ h.b = 1) then 0 else h.k, h.b⟩
def vraw (s : VS) : VS := ⟨fun p => vrawH (s.s p), s.X, s.Y⟩
/-- The lock in block g: n hands, as s says. -/
def Lk (w : World) (g n : Nat) (s : VS) : Prop := Lk0 w g n (vraw s)
theorem Lk.num {w : World} {g n : Nat} {s : VS} (h : Lk w g n s) : w.cell? ⟨g, 0, none⟩ = some (.int .i64 n) := Lk0.num h
theorem Lk.lt {w : World} {g n : Nat} {s : VS} (h : Lk w g n s) : g < w.heap.size := Lk0.lt h
theorem Lk.xa {w : World} {g n : Nat} {s : VS} (h : Lk w g n s) {p : Nat} (hp : p < n) : w.cell? ⟨g, 7 + p * 2, none⟩ = some (.int .i64 (s.s p).a) := Lk0.xa h hp
theorem Lk.drew {w : World} {g n : Nat} {s : VS} (h : Lk w g n s) : Lk w.drew g n s := h
theorem touch_one (w : World) (g i : Nat) (u : Value) : Touch (fun k => k = g) w (w.setCell ⟨g, i, none⟩ u) := (Touch.refl (fun k => k = g) w).setCell (Or.inl rfl) u
theorem below_undrew {B : Nat} {a b : World} (h : Below B a.drew b) : Below B a b := ⟨h.os, h.tape, h.output, h.size, h.block⟩
theorem cell_far {w : World} {g i j : Nat} {u : Value} (h : j ≠ i) : (w.setCell ⟨g, i, none⟩ u).cell? ⟨g, j, none⟩ = w.cell? ⟨g, j, none⟩ :=
  World.cell?_setCell_other _ _ _ _ fun e => h (by injection e with _ e; exact e.symm)

theorem isHand_any {g n : Nat} (p : Int) (w : World) (hc : w.cell? ⟨g, 0, none⟩ = some (.int .i64 n)) : Calls Tryd.prog 19 #[.pointer (some ⟨g, 0, none⟩), .int .i64 p] w fun e w' => e = .returned (.bool (decide (0 ≤ p ∧ p < n))) ∧ w = w' := by
  by_cases h0 : 0 ≤ p
  · by_cases h1 : p < n
    · rw [decide_eq_true (show 0 ≤ p ∧ p < n from ⟨h0, h1⟩)]
      go_enter Tryd.func19, Tryd.ntmps19
      go_wp2
      go_ret
      exact ⟨rfl, rfl⟩
    · rw [decide_eq_false (show ¬ (0 ≤ p ∧ p < n) from fun h => h1 h.2)]
      go_enter Tryd.func19, Tryd.ntmps19
      go_wp2
      go_ret
      exact ⟨rfl, rfl⟩
  · rw [decide_eq_false (show ¬ (0 ≤ p ∧ p < n) from fun h => h0 h.1)]
    go_enter Tryd.func19, Tryd.ntmps19
    go_wp2
    go_ret
    exact ⟨rfl, rfl⟩

/-- What a picker has captured: the lock in block g, and a place. -/
structure Pk (w : World) (g b1 b2 f : Nat) : Prop where
  lock : w.cell? ⟨b1, 0, none⟩ = some (.pointer (some ⟨g, 0, none⟩))
  from_ : w.cell? ⟨b2, 0, none⟩ = some (.int .i64 f)
  far1 : b1 ≠ g
  far2 : b2 ≠ g
/-- A picker. -/
abbrev pkV (b1 b2 : Nat) : Value := .func (.func 29) #[] #[.pointer (some ⟨b1, 0, none⟩), .pointer (some ⟨b2, 0, none⟩)]
theorem Pk.drew {w : World} {g b1 b2 f : Nat} (h : Pk w g b1 b2 f) : Pk w.drew g b1 b2 f := ⟨h.lock, h.from_, h.far1, h.far2⟩
theorem Pk.drewN {w : World} {g b1 b2 f : Nat} (h : Pk w g b1 b2 f) (i : Nat) : Pk (w.drewN i) g b1 b2 f := ⟨h.lock, h.from_, h.far1, h.far2⟩
theorem Pk.touch {w w' : World} {g b1 b2 f : Nat} (h : Pk w g b1 b2 f) (k : Touch (fun k => k = g) w w') : Pk w' g b1 b2 f :=
  ⟨(k.cell (p := ⟨b1, 0, none⟩) (lt_of_cell h.lock) h.far1).trans h.lock, (k.cell (p := ⟨b2, 0, none⟩) (lt_of_cell h.from_) h.far2).trans h.from_, h.far1, h.far2⟩
theorem Pk.below {w w' : World} {g b1 b2 f : Nat} (h : Pk w g b1 b2 f) (k : Below w.heap.size w w') : Pk w' g b1 b2 f :=
  ⟨(k.cell (p := ⟨b1, 0, none⟩) (lt_of_cell h.lock)).trans h.lock, (k.cell (p := ⟨b2, 0, none⟩) (lt_of_cell h.from_)).trans h.from_, h.far1, h.far2⟩

set_option maxHeartbeats 1000000 in
theorem pick_any {g f : Nat} (w : World) (hg : g < w.heap.size) :
    Calls Tryd.prog 24 #[.pointer (some ⟨g, 0, none⟩), .int .i64 f] w fun e w' => ∃ b1 b2, e = .returned (pkV b1 b2) ∧ Pk w' g b1 b2 f ∧ Below w.heap.size w w' := by
  have hmf : ∀ (fn : Fn) (first cap : Array Value) (w : World), (Instr.makeFunc fn first cap).run Tryd.prog w = .ok (.func fn first cap) w := fun _ _ _ _ => rfl
  go_enter Tryd.func24, Tryd.ntmps24
  go_wp2
  go_ret
  have hB : Below w.heap.size w ((w.alloc (Obj.cells #[Value.pointer (some { block := g, off := 0 })] 23)).alloc (Obj.cells #[Value.int IntKind.i64 ↑f] 3)) := ((Below.refl _ _).alloc (Nat.le_refl _) _).alloc (by simp) _
  have h1 : ((w.alloc (Obj.cells #[Value.pointer (some { block := g, off := 0 })] 23)).alloc (Obj.cells #[Value.int IntKind.i64 ↑f] 3)).cell? ⟨w.heap.size, 0, none⟩ = some (.pointer (some ⟨g, 0, none⟩)) :=
    ((Block.made w 23 #[Value.pointer (some { block := g, off := 0 })]).alloc _).cell 0
  have h2 : ((w.alloc (Obj.cells #[Value.pointer (some { block := g, off := 0 })] 23)).alloc (Obj.cells #[Value.int IntKind.i64 ↑f] 3)).cell? ⟨w.heap.size + 1, 0, none⟩ = some (.int .i64 f) := by
    have := (Block.made (w.alloc (Obj.cells #[Value.pointer (some { block := g, off := 0 })] 23)) 3 #[Value.int IntKind.i64 ↑f]).cell 0
    rwa [World.size_alloc] at this
  exact ⟨_, _, rfl, ⟨h1, h2, by omega, by omega⟩, hB⟩
theorem pick0_any {g : Nat} (w : World) (hg : g < w.heap.size) :
    Calls Tryd.prog 24 #[.pointer (some ⟨g, 0, none⟩), .int .i64 0] w fun e w' => ∃ b1 b2, e = .returned (pkV b1 b2) ∧ Pk w' g b1 b2 0 ∧ Below w.heap.size w w' := pick_any (f := 0) w hg

theorem pick2_any {g : Nat} (w : World) (hg : g < w.heap.size) :
    Calls Tryd.prog 24 #[.pointer (some ⟨g, 0, none⟩), .int .i64 2] w fun e w' => ∃ b1 b2, e = .returned (pkV b1 b2) ∧ Pk w' g b1 b2 2 ∧ Below w.heap.size w w' := pick_any (f := 2) w hg

set_option maxHeartbeats 1000000 in
theorem picked_any {g b1 b2 f k d : Nat} (w : World) (h : Pk w g b1 b2 f) (hd : f + k = d) (h8 : d < 6) :
    Calls Tryd.prog 29 #[.int .i64 k, .pointer (some ⟨b1, 0, none⟩), .pointer (some ⟨b2, 0, none⟩)] w fun e w' => e = .returned (.pointer (some ⟨g, 1 + d, none⟩)) ∧ ∃ i, w' = w.drewN i := by
  have h1 := h.lock
  have h2 := h.from_
  have hw : IntKind.i64.wrap ((f : Int) + (k : Int)) = (d : Int) := by rw [IntWalk.i64_in _ (by omega)]; omega
  have hd8 : (d : Int) < 6 := by omega
  clear h hd
  go_enter Tryd.func29, Tryd.ntmps29
  go_wp2
  go_quiet (fail)
  go_wp2
  go_ret
  exact ⟨rfl, _, rfl⟩

/-- Of word 0. -/
theorem picked0_any {g b1 b2 : Nat} (w : World) (h : Pk w g b1 b2 0) :
    Calls Tryd.prog 29 #[.int .i64 0, .pointer (some ⟨b1, 0, none⟩), .pointer (some ⟨b2, 0, none⟩)] w fun e w' => e = .returned (.pointer (some ⟨g, 1, none⟩)) ∧ ∃ i, w' = w.drewN i := picked_any (k := 0) (d := 0) w h rfl (by omega)
/-- Of word 1. -/
theorem picked1_any {g b1 b2 : Nat} (w : World) (h : Pk w g b1 b2 0) :
    Calls Tryd.prog 29 #[.int .i64 1, .pointer (some ⟨b1, 0, none⟩), .pointer (some ⟨b2, 0, none⟩)] w fun e w' => e = .returned (.pointer (some ⟨g, 2, none⟩)) ∧ ∃ i, w' = w.drewN i := picked_any (k := 1) (d := 1) w h rfl (by omega)
end Go.Proofs.YtjnfecaghkgdpaaDoor.Fast
