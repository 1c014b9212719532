/-
  Package split: what its functions do, by contracts.
-/
import Derived.Test.YthainkgpafbjcaaDoorSplEnd
import Derived.Test.YthainkgpafbjcaaDoorTch
import Derived.Deep.QuietTactic
import Derived.BigQuiet
import Derived.LoopTactic
import Derived.Deep.RegionHeld3
import Derived.IntWalk
namespace Go.Proofs.YthainkgpafbjcaaDoor.Split
open Go.RowKit

/-- A place's number. -/
def pn (i j : Nat) : Nat := trn (i + j) + i
theorem pn_lt {i j : Nat} (h : i + j < 4) : pn i j < 10 := trn_lt (s := i + j) (r := i) (k := 4) h (by omega)
theorem pn_lt' {i j n : Nat} (h : i + j < n) : pn i j < trn n := trn_lt (s := i + j) (r := i) (k := n) h (by omega)
theorem pn_inj {i j a b : Nat} (h : pn i j = pn a b) : i = a ∧ j = b := by
  have := trn_inj (s := i + j) (r := i) (s' := a + b) (r' := a) (by omega) (by omega) h
  omega
/-- The cells of a grid. -/
structure Cel (cs : Array Value) (n : Nat) (s : SPS) : Prop where
  size : cs.size = 33
  num : cs[0]? = some (.int .i64 n)
  X : ∀ i j, i + j < 4 → cs[1 + pn i j * 2]? = some (.int .i64 (s.X i j))
  Y : ∀ i j, i + j < 4 → cs[1 + pn i j * 2 + 1]? = some (.int .i64 (s.Y i j))
  a : ∀ p, p < n → cs[21 + p * 3]? = some (.int .i64 (s.s p).a)
  r : ∀ p, p < n → cs[21 + p * 3 + 1]? = some (.int .i64 (s.s p).r)
  c : ∀ p, p < n → cs[21 + p * 3 + 2]? = some (.int .i64 (s.s p).c)
theorem set_at {cs : Array Value} {i : Nat} {u : Value} (h : i < cs.size) : (cs.setIfInBounds i u)[i]? = some u := by simp [h]
theorem set_off {cs : Array Value} {i j : Nat} {u : Value} (h : j ≠ i) : (cs.setIfInBounds i u)[j]? = cs[j]? := Array.getElem?_setIfInBounds_ne (by omega)
def putA (s : SPS) (p z : Nat) : SPS := { s with s := sup' s.s p { s.s p with a := z } }
theorem putA_same (s : SPS) (p z : Nat) : ((putA s p z).s p).a = z := by unfold putA; dsimp only; rw [sup_same]
theorem putA_off {s : SPS} {p q : Nat} (z : Nat) (h : q ≠ p) : (putA s p z).s q = s.s q := by unfold putA; dsimp only; rw [sup_other h]
theorem putA_r (s : SPS) (p z q : Nat) : ((putA s p z).s q).r = (s.s q).r := by
  by_cases e : q = p
  · subst e; unfold putA; dsimp only; rw [sup_same]
  · rw [putA_off z e]
theorem putA_c (s : SPS) (p z q : Nat) : ((putA s p z).s q).c = (s.s q).c := by
  by_cases e : q = p
  · subst e; unfold putA; dsimp only; rw [sup_same]
  · rw [putA_off z e]
def putR (s : SPS) (p z : Nat) : SPS := { s with s := sup' s.s p { s.s p with r := z } }
theorem putR_same (s : SPS) (p z : Nat) : ((putR s p z).s p).r = z := by unfold putR; dsimp only; rw [sup_same]
theorem putR_off {s : SPS} {p q : Nat} (z : Nat) (h : q ≠ p) : (putR s p z).s q = s.s q := by unfold putR; dsimp only; rw [sup_other h]
theorem putR_a (s : SPS) (p z q : Nat) : ((putR s p z).s q).a = (s.s q).a := by
  by_cases e : q = p
  · subst e; unfold putR; dsimp only; rw [sup_same]
  · rw [putR_off z e]
theorem putR_c (s : SPS) (p z q : Nat) : ((putR s p z).s q).c = (s.s q).c := by
  by_cases e : q = p
  · subst e; unfold putR; dsimp only; rw [sup_same]
  · rw [putR_off z e]
def putC (s : SPS) (p z : Nat) : SPS := { s with s := sup' s.s p { s.s p with c := z } }
theorem putC_same (s : SPS) (p z : Nat) : ((putC s p z).s p).c = z := by unfold putC; dsimp only; rw [sup_same]
theorem putC_off {s : SPS} {p q : Nat} (z : Nat) (h : q ≠ p) : (putC s p z).s q = s.s q := by unfold putC; dsimp only; rw [sup_other h]
theorem putC_a (s : SPS) (p z q : Nat) : ((putC s p z).s q).a = (s.s q).a := by
  by_cases e : q = p
  · subst e; unfold putC; dsimp only; rw [sup_same]
  · rw [putC_off z e]
theorem putC_r (s : SPS) (p z q : Nat) : ((putC s p z).s q).r = (s.s q).r := by
  by_cases e : q = p
  · subst e; unfold putC; dsimp only; rw [sup_same]
  · rw [putC_off z e]
def putX (s : SPS) (i j z : Nat) : SPS := { s with X := pup s.X i j z }
def putY (s : SPS) (i j z : Nat) : SPS := { s with Y := pup s.Y i j z }
section
variable {cs : Array Value} {n : Nat} {s : SPS}
theorem Cel.setA (h : Cel cs n s) (hn : n ≤ 4) {p : Nat} (hp : p < n) (z : Nat) : Cel (cs.setIfInBounds (21 + p * 3) (.int .i64 z)) n (putA s p z) := by
  have hs := h.size
  refine ⟨by simpa using hs, by rw [set_off (by omega)]; exact h.num, fun a b hab => by have := pn_lt hab; rw [set_off (by omega)]; exact h.X a b hab, fun a b hab => by have := pn_lt hab; rw [set_off (by omega)]; exact h.Y a b hab, fun q hq => ?_, fun q hq => ?_, fun q hq => ?_⟩
  · by_cases e : q = p
    · subst e; rw [set_at (by omega), putA_same]
    · rw [set_off (by omega), putA_off z e]; exact h.a q hq
  · rw [set_off (by omega), putA_r]; exact h.r q hq
  · rw [set_off (by omega), putA_c]; exact h.c q hq
theorem Cel.setR (h : Cel cs n s) (hn : n ≤ 4) {p : Nat} (hp : p < n) (z : Nat) : Cel (cs.setIfInBounds (21 + p * 3 + 1) (.int .i64 z)) n (putR s p z) := by
  have hs := h.size
  refine ⟨by simpa using hs, by rw [set_off (by omega)]; exact h.num, fun a b hab => by have := pn_lt hab; rw [set_off (by omega)]; exact h.X a b hab, fun a b hab => by have := pn_lt hab; rw [set_off (by omega)]; exact h.Y a b hab, fun q hq => ?_, fun q hq => ?_, fun q hq => ?_⟩
  · rw [set_off (by omega), putR_a]; exact h.a q hq
  · by_cases e : q = p
    · subst e; rw [set_at (by omega), putR_same]
    · rw [set_off (by omega), putR_off z e]; exact h.r q hq
  · rw [set_off (by omega), putR_c]; exact h.c q hq
theorem Cel.setC (h : Cel cs n s) (hn : n ≤ 4) {p : Nat} (hp : p < n) (z : Nat) : Cel (cs.setIfInBounds (21 + p * 3 + 2) (.int .i64 z)) n (putC s p z) := by
  have hs := h.size
  refine ⟨by simpa using hs, by rw [set_off (by omega)]; exact h.num, fun a b hab => by have := pn_lt hab; rw [set_off (by omega)]; exact h.X a b hab, fun a b hab => by have := pn_lt hab; rw [set_off (by omega)]; exact h.Y a b hab, fun q hq => ?_, fun q hq => ?_, fun q hq => ?_⟩
  · rw [set_off (by omega), putC_a]; exact h.a q hq
  · rw [set_off (by omega), putC_r]; exact h.r q hq
  · by_cases e : q = p
    · subst e; rw [set_at (by omega), putC_same]
    · rw [set_off (by omega), putC_off z e]; exact h.c q hq
theorem Cel.setX (h : Cel cs n s) (hn : n ≤ 4) {i j : Nat} (hij : i + j < 4) (z : Nat) : Cel (cs.setIfInBounds (1 + pn i j * 2) (.int .i64 z)) n (putX s i j z) := by
  have hs := h.size
  have hl := pn_lt hij
  have _ := hn
  refine ⟨by simpa using hs, by rw [set_off (by omega)]; exact h.num, fun a b hab => ?_, fun a b hab => ?_, fun q hq => ?_, fun q hq => ?_, fun q hq => ?_⟩
  · by_cases e : a = i ∧ b = j
    · obtain ⟨rfl, rfl⟩ := e; rw [set_at (by omega)]; unfold putX; dsimp only; rw [pup_same]
    · have hne : pn a b ≠ pn i j := fun h => e (pn_inj h)
      rw [set_off (by omega)]; unfold putX; dsimp only; rw [pup_other e]; exact h.X a b hab
  · rw [set_off (by omega)]; exact h.Y a b hab
  · rw [set_off (by omega)]; exact h.a q hq
  · rw [set_off (by omega)]; exact h.r q hq
  · rw [set_off (by omega)]; exact h.c q hq
theorem Cel.setY (h : Cel cs n s) (hn : n ≤ 4) {i j : Nat} (hij : i + j < 4) (z : Nat) : Cel (cs.setIfInBounds (1 + pn i j * 2 + 1) (.int .i64 z)) n (putY s i j z) := by
  have hs := h.size
  have hl := pn_lt hij
  have _ := hn
  refine ⟨by simpa using hs, by rw [set_off (by omega)]; exact h.num, fun a b hab => ?_, fun a b hab => ?_, fun q hq => ?_, fun q hq => ?_, fun q hq => ?_⟩
  · rw [set_off (by omega)]; exact h.X a b hab
  · by_cases e : a = i ∧ b = j
    · obtain ⟨rfl, rfl⟩ := e; rw [set_at (by omega)]; unfold putY; dsimp only; rw [pup_same]
    · have hne : pn a b ≠ pn i j := fun h => e (pn_inj h)
      rw [set_off (by omega)]; unfold putY; dsimp only; rw [pup_other e]; exact h.Y a b hab
  · rw [set_off (by omega)]; exact h.a q hq
  · rw [set_off (by omega)]; exact h.r q hq
  · rw [set_off (by omega)]; exact h.c q hq
end

/-- The grid in block g: n hands, its cells as s says. -/
def Lk0 (w : World) (g n : Nat) (s : SPS) : Prop := ∃ cs, Block w g 48 cs ∧ Cel cs n s
section
variable {w : World} {g n : Nat} {s : SPS}
theorem Lk0.lt (h : Lk0 w g n s) : g < w.heap.size := by
  obtain ⟨cs, h, _⟩ := h
  exact h.lt
theorem Lk0.num (h : Lk0 w g n s) : w.cell? ⟨g, 0, none⟩ = some (.int .i64 n) := by
  obtain ⟨cs, h, c⟩ := h
  rw [h.cell]; exact c.num
theorem Lk0.xX (h : Lk0 w g n s) {i j : Nat} (hij : i + j < 4) : w.cell? ⟨g, 1 + pn i j * 2, none⟩ = some (.int .i64 (s.X i j)) := by
  obtain ⟨cs, h, c⟩ := h
  rw [h.cell]; exact c.X i j hij
theorem Lk0.xY (h : Lk0 w g n s) {i j : Nat} (hij : i + j < 4) : w.cell? ⟨g, 1 + pn i j * 2 + 1, none⟩ = some (.int .i64 (s.Y i j)) := by
  obtain ⟨cs, h, c⟩ := h
  rw [h.cell]; exact c.Y i j hij
theorem Lk0.xa (h : Lk0 w g n s) {p : Nat} (hp : p < n) : w.cell? ⟨g, 21 + p * 3, none⟩ = some (.int .i64 (s.s p).a) := by
  obtain ⟨cs, h, c⟩ := h
  rw [h.cell]; exact c.a p hp
theorem Lk0.xr (h : Lk0 w g n s) {p : Nat} (hp : p < n) : w.cell? ⟨g, 21 + p * 3 + 1, none⟩ = some (.int .i64 (s.s p).r) := by
  obtain ⟨cs, h, c⟩ := h
  rw [h.cell]; exact c.r p hp
theorem Lk0.xc (h : Lk0 w g n s) {p : Nat} (hp : p < n) : w.cell? ⟨g, 21 + p * 3 + 2, none⟩ = some (.int .i64 (s.s p).c) := by
  obtain ⟨cs, h, c⟩ := h
  rw [h.cell]; exact c.c p hp
theorem Lk0.free (h : Lk0 w g n s) (i : Nat) : w.frozen? ⟨g, i, none⟩ = false := by
  obtain ⟨cs, h, _⟩ := h
  exact h.free i
theorem Lk0.drewN (h : Lk0 w g n s) (i : Nat) : Lk0 (w.drewN i) g n s := h
theorem Lk0.drew (h : Lk0 w g n s) : Lk0 w.drew g n s := h
theorem Lk0.below0 {w' : World} (h : Lk0 w g n s) {B : Nat} (hb : Below B w w') (hg : g < B) : Lk0 w' g n s := by
  obtain ⟨cs, h, c⟩ := h
  exact ⟨cs, h.below hb hg, c⟩
theorem Lk0.setA (h : Lk0 w g n s) (hn : n ≤ 4) {p : Nat} (hp : p < n) (z : Nat) : Lk0 (w.setCell ⟨g, 21 + p * 3, none⟩ (.int .i64 z)) g n (putA s p z) := by
  obtain ⟨cs, h, c⟩ := h
  exact ⟨_, h.put _ _, c.setA hn hp z⟩
theorem Lk0.setR (h : Lk0 w g n s) (hn : n ≤ 4) {p : Nat} (hp : p < n) (z : Nat) : Lk0 (w.setCell ⟨g, 21 + p * 3 + 1, none⟩ (.int .i64 z)) g n (putR s p z) := by
  obtain ⟨cs, h, c⟩ := h
  exact ⟨_, h.put _ _, c.setR hn hp z⟩
theorem Lk0.setC (h : Lk0 w g n s) (hn : n ≤ 4) {p : Nat} (hp : p < n) (z : Nat) : Lk0 (w.setCell ⟨g, 21 + p * 3 + 2, none⟩ (.int .i64 z)) g n (putC s p z) := by
  obtain ⟨cs, h, c⟩ := h
  exact ⟨_, h.put _ _, c.setC hn hp z⟩
theorem Lk0.setX (h : Lk0 w g n s) (hn : n ≤ 4) {i j : Nat} (hij : i + j < 4) (z : Nat) : Lk0 (w.setCell ⟨g, 1 + pn i j * 2, none⟩ (.int .i64 z)) g n (putX s i j z) := by
  obtain ⟨cs, h, c⟩ := h
  exact ⟨_, h.put _ _, c.setX hn hij z⟩
theorem Lk0.setY (h : Lk0 w g n s) (hn : n ≤ 4) {i j : Nat} (hij : i + j < 4) (z : Nat) : Lk0 (w.setCell ⟨g, 1 + pn i j * 2 + 1, none⟩ (.int .i64 z)) g n (putY s i j z) := by
  obtain ⟨cs, h, c⟩ := h
  exact ⟨_, h.put _ _, c.setY hn hij z⟩
end
theorem touch_one (w : World) (g i : Nat) (u : Value) : Touch (fun k => k = g) w (w.setCell ⟨g, i, none⟩ u) := (Touch.refl (fun k => k = g) w).setCell (Or.inl rfl) u
theorem below_undrew {B : Nat} {a b : World} (h : Below B a.drew b) : Below B a b := ⟨h.os, h.tape, h.output, h.size, h.block⟩
theorem cell_far {w : World} {g i j : Nat} {u : Value} (h : j ≠ i) : (w.setCell ⟨g, i, none⟩ u).cell? ⟨g, j, none⟩ = w.cell? ⟨g, j, none⟩ :=
  World.cell?_setCell_other _ _ _ _ fun e => h (by injection e with _ e; exact e.symm)

theorem isHand_any {g n : Nat} (p : Int) (w : World) (hc : w.cell? ⟨g, 0, none⟩ = some (.int .i64 n)) : Calls Tryd.prog 18 #[.pointer (some ⟨g, 0, none⟩), .int .i64 p] w fun e w' => e = .returned (.bool (decide (0 ≤ p ∧ p < n))) ∧ w = w' := by
  by_cases h0 : 0 ≤ p
  · by_cases h1 : p < n
    · rw [decide_eq_true (show 0 ≤ p ∧ p < n from ⟨h0, h1⟩)]
      go_enter Tryd.func18, Tryd.ntmps18
      go_wp2
      go_ret
      exact ⟨rfl, rfl⟩
    · rw [decide_eq_false (show ¬ (0 ≤ p ∧ p < n) from fun h => h1 h.2)]
      go_enter Tryd.func18, Tryd.ntmps18
      go_wp2
      go_ret
      exact ⟨rfl, rfl⟩
  · rw [decide_eq_false (show ¬ (0 ≤ p ∧ p < n) from fun h => h0 h.1)]
    go_enter Tryd.func18, Tryd.ntmps18
    go_wp2
    go_ret
    exact ⟨rfl, rfl⟩


set_option maxHeartbeats 2000000 in
/-- What number answers, of a hand that stands at row i and column j. -/
theorem number_any {i j : Nat} (a : Int) (hij : i + j < 4) (w : World) : Calls Tryd.prog 20 #[.agg #[.int .i64 a, .int .i64 i, .int .i64 j]] w fun e w' => e = .returned (.int .i64 (pn i j)) ∧ Below w.heap.size w w' := by
  obtain ⟨s, hs⟩ : ∃ s, s = i + j := ⟨_, rfl⟩
  obtain ⟨s1, hs1⟩ : ∃ s1, s1 = s + 1 := ⟨_, rfl⟩
  obtain ⟨m, hm⟩ : ∃ m, m = s * s1 := ⟨_, rfl⟩
  obtain ⟨t, ht⟩ : ∃ t, t = trn s := ⟨_, rfl⟩
  obtain ⟨d, hd⟩ : ∃ d, d = pn i j := ⟨_, rfl⟩
  have hm12 : m ≤ 3 * 4 := by rw [hm]; exact Nat.mul_le_mul (by omega) (by omega)
  have htm : t = m / 2 := by rw [ht, trn, hm, hs1]
  have hdt : d = t + i := by rw [hd, ht, hs, pn]
  have hw1 : IntKind.i64.wrap ((i : Int) + (j : Int)) = (s : Int) := (IntWalk.i64_in _ (by omega)).trans (by omega)
  have hw2 : IntKind.i64.wrap ((s : Int) + 1) = (s1 : Int) := (IntWalk.i64_in _ (by omega)).trans (by omega)
  have hw3 : IntKind.i64.wrap ((s : Int) * (s1 : Int)) = (m : Int) := by
    rw [← Int.natCast_mul, ← hm]; exact IntWalk.i64_in _ (by omega)
  have hdv : (m : Int).tdiv 2 = (t : Int) := by rw [htm]; rfl
  have hw4 : IntKind.i64.wrap (t : Int) = (t : Int) := IntWalk.i64_in _ (by omega)
  have hw5 : IntKind.i64.wrap ((t : Int) + (i : Int)) = (d : Int) := (IntWalk.i64_in _ (by omega)).trans (by omega)
  have HD := Lib.hid hd
  clear hs hs1 hm ht hd hij hm12 htm hdt
  go_enter Tryd.func20, Tryd.ntmps20
  go_wp2
  go_ret
  rw [← HD.out]
  exact ⟨rfl, (Below.refl _ _).alloc (Nat.le_refl _) _⟩
end Go.Proofs.YthainkgpafbjcaaDoor.Split
