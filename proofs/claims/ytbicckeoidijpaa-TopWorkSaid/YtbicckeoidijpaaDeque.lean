/-
  Package deque: its cells, and what Push, Pop, Steal and New do, by contracts. The state is that of XDqPlain; in it the program's own numbers (a hand that is done has none).
-/
import Derived.Test.YtbicckeoidijpaaRowsG
import Derived.Test.YtbicckeoidijpaaDqPlain
import Derived.Deep.QuietTactic
import Derived.BigQuiet
import Derived.LoopTactic
import Derived.Deep.RegionHeld3
import Derived.Deep.DeepCutAuto
import Derived.IntWalk
import Derived.Handy
import Derived.StillTailTactics
import Derived.Deep.WholeRow
namespace Go.Proofs.Ytbicckeoidijpaa.Dq
open Go.RowKit

/-- The cells. -/
structure Cel (cs : Array Value) (n : Nat) (v : DV) : Prop where
  size : cs.size = 27
  num : cs[0]? = some (.int .i64 n)
  T : cs[9]? = some (.int .i64 ((v.T : Nat) : Int))
  B : cs[10]? = some (.int .i64 (v.B))
  a : ∀ i, i < 4 → cs[11 + i * 4]? = some (.int .i64 ((v.a i : Nat) : Int))
  t : ∀ i, i < 4 → cs[11 + i * 4 + 1]? = some (.int .i64 ((v.t i : Nat) : Int))
  b : ∀ i, i < 4 → cs[11 + i * 4 + 2]? = some (.int .i64 (v.b i))
  pl : ∀ i, i < 8 → cs[1 + i]? = some (.int .i64 (v.pl i))
  v : ∀ i, i < 4 → cs[11 + i * 4 + 3]? = some (.int .i64 (v.v i))
theorem set_at {cs : Array Value} {i : Nat} {u : Value} (h : i < cs.size) : (cs.setIfInBounds i u)[i]? = some u := by simp [h]
theorem set_off {cs : Array Value} {i j : Nat} {u : Value} (h : j ≠ i) : (cs.setIfInBounds i u)[j]? = cs[j]? := Array.getElem?_setIfInBounds_ne (by omega)
def putT (v : DV) (z : Nat) : DV := { v with T := z }
def putB (v : DV) (z : Int) : DV := { v with B := z }
def putA (v : DV) (i : Nat) (z : Nat) : DV := { v with a := rput v.a i z }
def putTt (v : DV) (i : Nat) (z : Nat) : DV := { v with t := rput v.t i z }
def putBb (v : DV) (i : Nat) (z : Int) : DV := { v with b := rput v.b i z }
def putPl (v : DV) (i : Nat) (z : Int) : DV := { v with pl := rput v.pl i z }
def putV (v : DV) (i : Nat) (z : Int) : DV := { v with v := rput v.v i z }
section
variable {cs : Array Value} {n : Nat} {v : DV}
theorem Cel.setT (h : Cel cs n v) (z : Nat) : Cel (cs.setIfInBounds (9) (.int .i64 ((z : Nat) : Int))) n (putT v z) := by
  have hs := h.size
  refine ⟨by simpa using hs, by rw [set_off (by omega)]; exact h.num, ?_, ?_, fun j hj => ?_, fun j hj => ?_, fun j hj => ?_, fun j hj => ?_, fun j hj => ?_⟩
  · rw [set_at (by omega)]; rfl
  · rw [set_off (by omega)]; exact h.B
  · rw [set_off (by omega)]; exact h.a j hj
  · rw [set_off (by omega)]; exact h.t j hj
  · rw [set_off (by omega)]; exact h.b j hj
  · rw [set_off (by omega)]; exact h.pl j hj
  · rw [set_off (by omega)]; exact h.v j hj
theorem Cel.setB (h : Cel cs n v) (z : Int) : Cel (cs.setIfInBounds (10) (.int .i64 (z))) n (putB v z) := by
  have hs := h.size
  refine ⟨by simpa using hs, by rw [set_off (by omega)]; exact h.num, ?_, ?_, fun j hj => ?_, fun j hj => ?_, fun j hj => ?_, fun j hj => ?_, fun j hj => ?_⟩
  · rw [set_off (by omega)]; exact h.T
  · rw [set_at (by omega)]; rfl
  · rw [set_off (by omega)]; exact h.a j hj
  · rw [set_off (by omega)]; exact h.t j hj
  · rw [set_off (by omega)]; exact h.b j hj
  · rw [set_off (by omega)]; exact h.pl j hj
  · rw [set_off (by omega)]; exact h.v j hj
theorem Cel.setA (h : Cel cs n v) {i : Nat} (hi : i < 4) (z : Nat) : Cel (cs.setIfInBounds (11 + i * 4) (.int .i64 ((z : Nat) : Int))) n (putA v i z) := by
  have hs := h.size
  refine ⟨by simpa using hs, by rw [set_off (by omega)]; exact h.num, ?_, ?_, fun j hj => ?_, fun j hj => ?_, fun j hj => ?_, fun j hj => ?_, fun j hj => ?_⟩
  · rw [set_off (by omega)]; exact h.T
  · rw [set_off (by omega)]; exact h.B
  · by_cases e : j = i
    · subst e; rw [set_at (by omega)]; unfold putA; dsimp only; rw [rput_same]
    · rw [set_off (by omega)]; unfold putA; dsimp only; rw [rput_other e]; exact h.a j hj
  · rw [set_off (by omega)]; exact h.t j hj
  · rw [set_off (by omega)]; exact h.b j hj
  · rw [set_off (by omega)]; exact h.pl j hj
  · rw [set_off (by omega)]; exact h.v j hj
theorem Cel.setTt (h : Cel cs n v) {i : Nat} (hi : i < 4) (z : Nat) : Cel (cs.setIfInBounds (11 + i * 4 + 1) (.int .i64 ((z : Nat) : Int))) n (putTt v i z) := by
  have hs := h.size
  refine ⟨by simpa using hs, by rw [set_off (by omega)]; exact h.num, ?_, ?_, fun j hj => ?_, fun j hj => ?_, fun j hj => ?_, fun j hj => ?_, fun j hj => ?_⟩
  · rw [set_off (by omega)]; exact h.T
  · rw [set_off (by omega)]; exact h.B
  · rw [set_off (by omega)]; exact h.a j hj
  · by_cases e : j = i
    · subst e; rw [set_at (by omega)]; unfold putTt; dsimp only; rw [rput_same]
    · rw [set_off (by omega)]; unfold putTt; dsimp only; rw [rput_other e]; exact h.t j hj
  · rw [set_off (by omega)]; exact h.b j hj
  · rw [set_off (by omega)]; exact h.pl j hj
  · rw [set_off (by omega)]; exact h.v j hj
theorem Cel.setBb (h : Cel cs n v) {i : Nat} (hi : i < 4) (z : Int) : Cel (cs.setIfInBounds (11 + i * 4 + 2) (.int .i64 (z))) n (putBb v i z) := by
  have hs := h.size
  refine ⟨by simpa using hs, by rw [set_off (by omega)]; exact h.num, ?_, ?_, fun j hj => ?_, fun j hj => ?_, fun j hj => ?_, fun j hj => ?_, fun j hj => ?_⟩
  · rw [set_off (by omega)]; exact h.T
  · rw [set_off (by omega)]; exact h.B
  · rw [set_off (by omega)]; exact h.a j hj
  · rw [set_off (by omega)]; exact h.t j hj
  · by_cases e : j = i
    · subst e; rw [set_at (by omega)]; unfold putBb; dsimp only; rw [rput_same]
    · rw [set_off (by omega)]; unfold putBb; dsimp only; rw [rput_other e]; exact h.b j hj
  · rw [set_off (by omega)]; exact h.pl j hj
  · rw [set_off (by omega)]; exact h.v j hj
theorem Cel.setPl (h : Cel cs n v) {i : Nat} (hi : i < 8) (z : Int) : Cel (cs.setIfInBounds (1 + i) (.int .i64 (z))) n (putPl v i z) := by
  have hs := h.size
  refine ⟨by simpa using hs, by rw [set_off (by omega)]; exact h.num, ?_, ?_, fun j hj => ?_, fun j hj => ?_, fun j hj => ?_, fun j hj => ?_, fun j hj => ?_⟩
  · rw [set_off (by omega)]; exact h.T
  · rw [set_off (by omega)]; exact h.B
  · rw [set_off (by omega)]; exact h.a j hj
  · rw [set_off (by omega)]; exact h.t j hj
  · rw [set_off (by omega)]; exact h.b j hj
  · by_cases e : j = i
    · subst e; rw [set_at (by omega)]; unfold putPl; dsimp only; rw [rput_same]
    · rw [set_off (by omega)]; unfold putPl; dsimp only; rw [rput_other e]; exact h.pl j hj
  · rw [set_off (by omega)]; exact h.v j hj
theorem Cel.setV (h : Cel cs n v) {i : Nat} (hi : i < 4) (z : Int) : Cel (cs.setIfInBounds (11 + i * 4 + 3) (.int .i64 (z))) n (putV v i z) := by
  have hs := h.size
  refine ⟨by simpa using hs, by rw [set_off (by omega)]; exact h.num, ?_, ?_, fun j hj => ?_, fun j hj => ?_, fun j hj => ?_, fun j hj => ?_, fun j hj => ?_⟩
  · rw [set_off (by omega)]; exact h.T
  · rw [set_off (by omega)]; exact h.B
  · rw [set_off (by omega)]; exact h.a j hj
  · rw [set_off (by omega)]; exact h.t j hj
  · rw [set_off (by omega)]; exact h.b j hj
  · rw [set_off (by omega)]; exact h.pl j hj
  · by_cases e : j = i
    · subst e; rw [set_at (by omega)]; unfold putV; dsimp only; rw [rput_same]
    · rw [set_off (by omega)]; unfold putV; dsimp only; rw [rput_other e]; exact h.v j hj
end
/-- The thing in block g, its cells as v says. -/
def Lk (w : World) (g : Nat) (n : Nat) (v : DV) : Prop := ∃ cs, Block w g 49 cs ∧ Cel cs n v
section
variable {w : World} {g : Nat} {n : Nat} {v : DV}
theorem Lk.lt (h : Lk w g n v) : g < w.heap.size := by
  obtain ⟨cs, h, _⟩ := h
  exact h.lt
theorem Lk.xnum (h : Lk w g n v) : w.cell? ⟨g, 0, none⟩ = some (.int .i64 n) := by
  obtain ⟨cs, h, c⟩ := h
  rw [h.cell]; exact c.num
theorem Lk.xT (h : Lk w g n v) : w.cell? ⟨g, 9, none⟩ = some (.int .i64 ((v.T : Nat) : Int)) := by
  obtain ⟨cs, h, c⟩ := h
  rw [h.cell]; exact c.T
theorem Lk.xB (h : Lk w g n v) : w.cell? ⟨g, 10, none⟩ = some (.int .i64 (v.B)) := by
  obtain ⟨cs, h, c⟩ := h
  rw [h.cell]; exact c.B
theorem Lk.xa (h : Lk w g n v) {i : Nat} (hi : i < 4) : w.cell? ⟨g, 11 + i * 4, none⟩ = some (.int .i64 ((v.a i : Nat) : Int)) := by
  obtain ⟨cs, h, c⟩ := h
  rw [h.cell]; exact c.a i hi
theorem Lk.xt (h : Lk w g n v) {i : Nat} (hi : i < 4) : w.cell? ⟨g, 11 + i * 4 + 1, none⟩ = some (.int .i64 ((v.t i : Nat) : Int)) := by
  obtain ⟨cs, h, c⟩ := h
  rw [h.cell]; exact c.t i hi
theorem Lk.xb (h : Lk w g n v) {i : Nat} (hi : i < 4) : w.cell? ⟨g, 11 + i * 4 + 2, none⟩ = some (.int .i64 (v.b i)) := by
  obtain ⟨cs, h, c⟩ := h
  rw [h.cell]; exact c.b i hi
theorem Lk.xpl (h : Lk w g n v) {i : Nat} (hi : i < 8) : w.cell? ⟨g, 1 + i, none⟩ = some (.int .i64 (v.pl i)) := by
  obtain ⟨cs, h, c⟩ := h
  rw [h.cell]; exact c.pl i hi
theorem Lk.xv (h : Lk w g n v) {i : Nat} (hi : i < 4) : w.cell? ⟨g, 11 + i * 4 + 3, none⟩ = some (.int .i64 (v.v i)) := by
  obtain ⟨cs, h, c⟩ := h
  rw [h.cell]; exact c.v i hi
theorem Lk.free (h : Lk w g n v) (i : Nat) : w.frozen? ⟨g, i, none⟩ = false := by
  obtain ⟨cs, h, _⟩ := h
  exact h.free i
theorem Lk.drewN (h : Lk w g n v) (i : Nat) : Lk (w.drewN i) g n v := h
theorem Lk.drew (h : Lk w g n v) : Lk w.drew g n v := h
theorem Lk.below {w' : World} (h : Lk w g n v) {B : Nat} (hb : Below B w w') (hg : g < B) : Lk w' g n v := by
  obtain ⟨cs, h, c⟩ := h
  exact ⟨cs, h.below hb hg, c⟩
theorem Lk.far (h : Lk w g n v) {p : Addr} (hp : g ≠ p.block) (u : Value) : Lk (w.setCell p u) g n v := by
  obtain ⟨cs, h, c⟩ := h
  exact ⟨cs, h.far hp u, c⟩
theorem Lk.alloc (h : Lk w g n v) (o : Obj) : Lk (w.alloc o) g n v := by
  obtain ⟨cs, h, c⟩ := h
  exact ⟨cs, h.alloc o, c⟩
theorem Lk.touch {O : Nat → Prop} {w' : World} (h : Lk w g n v) (k : Touch O w w') (hn : ¬ O g) : Lk w' g n v := by
  obtain ⟨cs, h, c⟩ := h
  exact ⟨cs, h.touch k hn, c⟩
theorem Lk.setT (h : Lk w g n v) (z : Nat) : Lk (w.setCell ⟨g, 9, none⟩ (.int .i64 ((z : Nat) : Int))) g n (putT v z) := by
  obtain ⟨cs, h, c⟩ := h
  exact ⟨_, h.put _ _, c.setT z⟩
theorem Lk.setB (h : Lk w g n v) (z : Int) : Lk (w.setCell ⟨g, 10, none⟩ (.int .i64 (z))) g n (putB v z) := by
  obtain ⟨cs, h, c⟩ := h
  exact ⟨_, h.put _ _, c.setB z⟩
theorem Lk.setA (h : Lk w g n v) {i : Nat} (hi : i < 4) (z : Nat) : Lk (w.setCell ⟨g, 11 + i * 4, none⟩ (.int .i64 ((z : Nat) : Int))) g n (putA v i z) := by
  obtain ⟨cs, h, c⟩ := h
  exact ⟨_, h.put _ _, c.setA hi z⟩
theorem Lk.setTt (h : Lk w g n v) {i : Nat} (hi : i < 4) (z : Nat) : Lk (w.setCell ⟨g, 11 + i * 4 + 1, none⟩ (.int .i64 ((z : Nat) : Int))) g n (putTt v i z) := by
  obtain ⟨cs, h, c⟩ := h
  exact ⟨_, h.put _ _, c.setTt hi z⟩
theorem Lk.setBb (h : Lk w g n v) {i : Nat} (hi : i < 4) (z : Int) : Lk (w.setCell ⟨g, 11 + i * 4 + 2, none⟩ (.int .i64 (z))) g n (putBb v i z) := by
  obtain ⟨cs, h, c⟩ := h
  exact ⟨_, h.put _ _, c.setBb hi z⟩
theorem Lk.setPl (h : Lk w g n v) {i : Nat} (hi : i < 8) (z : Int) : Lk (w.setCell ⟨g, 1 + i, none⟩ (.int .i64 (z))) g n (putPl v i z) := by
  obtain ⟨cs, h, c⟩ := h
  exact ⟨_, h.put _ _, c.setPl hi z⟩
theorem Lk.setV (h : Lk w g n v) {i : Nat} (hi : i < 4) (z : Int) : Lk (w.setCell ⟨g, 11 + i * 4 + 3, none⟩ (.int .i64 (z))) g n (putV v i z) := by
  obtain ⟨cs, h, c⟩ := h
  exact ⟨_, h.put _ _, c.setV hi z⟩
end
theorem touch_one (w : World) (g i : Nat) (u : Value) : Touch (fun k => k = g) w (w.setCell ⟨g, i, none⟩ u) := (Touch.refl (fun k => k = g) w).setCell (Or.inl rfl) u
theorem below_undrew {B : Nat} {a b : World} (h : Below B a.drew b) : Below B a b := ⟨h.os, h.tape, h.output, h.size, h.block⟩
theorem isHand_any {g n : Nat} (p : Int) (w : World) (hc : w.cell? ⟨g, 0, none⟩ = some (.int .i64 n)) : Calls Try.prog 18 #[.pointer (some ⟨g, 0, none⟩), .int .i64 p] w fun e w' => e = .returned (.bool (decide (0 ≤ p ∧ p < n))) ∧ w = w' := by
  by_cases h0 : 0 ≤ p
  · by_cases h1 : p < n
    · rw [decide_eq_true (show 0 ≤ p ∧ p < n from ⟨h0, h1⟩)]
      go_enter Try.func18, Try.ntmps18
      go_wp2
      go_ret
      exact ⟨rfl, rfl⟩
    · rw [decide_eq_false (show ¬ (0 ≤ p ∧ p < n) from fun h => h1 h.2)]
      go_enter Try.func18, Try.ntmps18
      go_wp2
      go_ret
      exact ⟨rfl, rfl⟩
  · rw [decide_eq_false (show ¬ (0 ≤ p ∧ p < n) from fun h => h0 h.1)]
    go_enter Try.func18, Try.ntmps18
    go_wp2
    go_ret
    exact ⟨rfl, rfl⟩

theorem err1 : errV 43 1 = .iface 43 (.int .i64 1) := rfl
theorem err7 : errV 43 7 = .iface 43 (.int .i64 7) := rfl
theorem err0 : errV 43 0 = .nilIface := rfl
/-- A hand is at a line, with a value, and nothing else; what the program makes of one that begins. -/
def dclr (v : DV) (p l : Nat) (x : Int) : DV := { v with a := rput v.a p l, t := rput v.t p 0, b := rput v.b p 0, v := rput v.v p x }
def begE (v : DV) (p : Nat) : Int := if v.a p = 0 then 0 else 7
def begS (v : DV) (p l : Nat) (x : Int) : DV := if v.a p = 0 then dclr v p l x else v
section
variable {g n : Nat} {v : DV}
theorem Lk.setHand {w : World} (h : Lk w g n v) {p : Nat} (hp : p < 4) (l : Nat) (x : Int) : Lk ((((w.setCell ⟨g, 11 + p * 4, none⟩ (.int .i64 (l : Nat))).setCell ⟨g, 11 + p * 4 + 1, none⟩ (.int .i64 ((0 : Nat) : Int))).setCell ⟨g, 11 + p * 4 + 2, none⟩ (.int .i64 0)).setCell ⟨g, 11 + p * 4 + 3, none⟩ (.int .i64 x)) g n (dclr v p l x) :=
  ((((h.setA hp l).setTt hp 0).setBb hp 0).setV hp x)
set_option maxHeartbeats 4000000 in
theorem begin_any (w : World) (hk : Lk w g n v) {p : Nat} (hp : p < 4) (l : Nat) (x : Int) :
    Calls Try.prog 17 #[.pointer (some ⟨g, 0, none⟩), .int .i64 (p : Int), .agg #[.int .i64 (l : Int), .int .i64 0, .int .i64 0, .int .i64 x]] w fun e w' =>
      e = .returned (errV 43 (begE v p)) ∧ Lk w' g n (begS v p l x) ∧ Touch (fun k => k = g) w w' := by
  have hpI : (p : Int) < 4 := by omega
  have hlt := hk.lt
  have g1 := hk.xa hp
  have f1 := hk.free (11 + p * 4)
  have f2 := hk.free (11 + p * 4 + 1)
  have f3 := hk.free (11 + p * 4 + 2)
  have f4 := hk.free (11 + p * 4 + 3)
  have g2 := hk.xt hp
  have g3 := hk.xb hp
  have g4 := hk.xv hp
  by_cases ha : v.a p = 0
  · have e1 : begE v p = 0 := if_pos ha
    have e2 : begS v p l x = dclr v p l x := if_pos ha
    rw [e1, e2]
    rw [ha] at g1
    have H3 := Lib.hid (show Lk _ g n (dclr v p l x) from (hk.setHand hp l x))
    clear hk ha e1 e2
    go_enter Try.func17, Try.ntmps17
    go_wp2_with fail
    go_region_with fail
    all_goals
      go_wp2
      go_ret
      exact ⟨rfl, (H3.out.alloc _).drew, ((((((Touch.refl (fun k => k = g) w).setCell (Or.inl rfl) _).setCell (Or.inl rfl) _).setCell (Or.inl rfl) _).setCell (Or.inl rfl) _).alloc _).drew⟩
  · have e1 : begE v p = 7 := if_neg ha
    have e2 : begS v p l x = v := if_neg ha
    rw [e1, e2, err7]
    have hI : ((v.a p : Int) != 0) = true := by simp; omega
    have HK := Lib.hid hk
    clear hk ha e1 e2
    go_enter Try.func17, Try.ntmps17
    go_wp2
    go_ret
    exact ⟨rfl, HK.out.alloc _, (Touch.refl _ _).alloc _⟩
set_option maxHeartbeats 4000000 in
theorem push_any (w : World) (hk : Lk w g n v) (x : Nat) (hx : x ≤ 1000) :
    Calls Try.prog 11 #[.pointer (some ⟨g, 0, none⟩), .int .i64 (x : Int)] w fun e w' =>
      e = .returned (errV 43 (begE v 0)) ∧ Lk w' g n (begS v 0 1 x) ∧ Touch (fun k => k = g) w w' := by
  have hx0 : ¬ (x : Int) < 0 := by omega
  have hx1 : ¬ 1000 < (x : Int) := by omega
  have HC := Lib.hid (show Calls Try.prog 17 #[.pointer (some ⟨g, 0, none⟩), .int .i64 0, .agg #[.int .i64 1, .int .i64 0, .int .i64 0, .int .i64 (x : Int)]] w _ from begin_any w hk (p := 0) (by decide) 1 (x : Int))
  clear hk hx
  go_enter Try.func11, Try.ntmps11
  go_wp2_with (go_at_call 17; (with_reducible refine HC.out.mono ?_); rintro e w2 ⟨rfl, hk2, ht2⟩; have HK2 := Lib.hid hk2; have HT2 := Lib.hid ht2; clear hk2 ht2)
  go_ret
  exact ⟨rfl, HK2.out, HT2.out⟩
set_option maxHeartbeats 4000000 in
/-- A value that may not be pushed. -/
theorem push_far (w : World) (hk : Lk w g n v) (x : Int) (hx : ¬ (0 ≤ x ∧ x ≤ 1000)) :
    Calls Try.prog 11 #[.pointer (some ⟨g, 0, none⟩), .int .i64 x] w fun e w' =>
      e = .returned (errV 43 1) ∧ Lk w' g n v ∧ Touch (fun k => k = g) w w' := by
  rw [err1]
  have HK := Lib.hid hk
  clear hk
  by_cases hx0 : x < 0
  · clear hx
    go_enter Try.func11, Try.ntmps11
    go_wp2
    go_ret
    exact ⟨rfl, HK.out, Touch.refl _ w⟩
  · have hx1 : 1000 < x := by omega
    clear hx
    go_enter Try.func11, Try.ntmps11
    go_wp2
    go_ret
    exact ⟨rfl, HK.out, Touch.refl _ w⟩
set_option maxHeartbeats 4000000 in
theorem pop_any (w : World) (hk : Lk w g n v) :
    Calls Try.prog 12 #[.pointer (some ⟨g, 0, none⟩)] w fun e w' =>
      e = .returned (errV 43 (begE v 0)) ∧ Lk w' g n (begS v 0 4 0) ∧ Touch (fun k => k = g) w w' := by
  have HC := Lib.hid (show Calls Try.prog 17 #[.pointer (some ⟨g, 0, none⟩), .int .i64 0, .agg #[.int .i64 4, .int .i64 0, .int .i64 0, .int .i64 0]] w _ from begin_any w hk (p := 0) (by decide) 4 0)
  clear hk
  go_enter Try.func12, Try.ntmps12
  go_wp2_with (go_at_call 17; (with_reducible refine HC.out.mono ?_); rintro e w2 ⟨rfl, hk2, ht2⟩; have HK2 := Lib.hid hk2; have HT2 := Lib.hid ht2; clear hk2 ht2)
  go_ret
  exact ⟨rfl, HK2.out, HT2.out⟩
/-- What Steal answers, and makes of a deque. -/
def stlE (n : Nat) (v : DV) (p : Int) : Int := if 1 ≤ p ∧ p < n then begE v p.toNat else 1
def stlS (n : Nat) (v : DV) (p : Int) : DV := if 1 ≤ p ∧ p < n then begS v p.toNat 9 0 else v
set_option maxHeartbeats 4000000 in
theorem steal_any (w : World) (hk : Lk w g n v) (hn : n ≤ 4) (p : Int) :
    Calls Try.prog 16 #[.pointer (some ⟨g, 0, none⟩), .int .i64 p] w fun e w' =>
      e = .returned (errV 43 (stlE n v p)) ∧ Lk w' g n (stlS n v p) ∧ Touch (fun k => k = g) w w' := by
  have HI := Lib.hid (isHand_any p w hk.xnum)
  by_cases hp : 1 ≤ p ∧ p < n
  · have e1 : stlE n v p = begE v p.toNat := if_pos hp
    have e2 : stlS n v p = begS v p.toNat 9 0 := if_pos hp
    rw [e1, e2]
    rw [decide_eq_true (show 0 ≤ p ∧ p < n by omega)] at HI
    obtain ⟨q, rfl⟩ := Int.eq_ofNat_of_zero_le (show 0 ≤ p by omega)
    have hq4 : q < 4 := by omega
    have h0 : ((q : Int) == 0) = false := by simp; omega
    have h0' : (q == 0) = false := by simp; omega
    have HC := Lib.hid (show Calls Try.prog 17 #[.pointer (some ⟨g, 0, none⟩), .int .i64 (q : Int), .agg #[.int .i64 9, .int .i64 0, .int .i64 0, .int .i64 0]] w _ from begin_any w hk hq4 9 0)
    rw [show (q : Int).toNat = q from rfl]
    clear hk hp e1 e2
    go_enter Try.func16, Try.ntmps16
    go_wp2_with (first | (go_at_call 18; refine HI.out.mono ?_; rintro e w' ⟨rfl, rfl⟩) | (go_at_call 17; (with_reducible refine HC.out.mono ?_); rintro e w2 ⟨rfl, hk2, ht2⟩; have HK2 := Lib.hid hk2; have HT2 := Lib.hid ht2; clear hk2 ht2))
    go_ret
    exact ⟨rfl, HK2.out, HT2.out⟩
  · have e1 : stlE n v p = 1 := if_neg hp
    have e2 : stlS n v p = v := if_neg hp
    rw [e1, e2, err1]
    have HK := Lib.hid hk
    by_cases h0 : p = 0
    · subst h0
      clear hk hp e1 e2
      go_enter Try.func16, Try.ntmps16
      go_wp2
      go_ret
      exact ⟨rfl, HK.out, Touch.refl _ w⟩
    · rw [decide_eq_false (show ¬ (0 ≤ p ∧ p < n) by omega)] at HI
      have h0 : (p == 0) = false := by simp [h0]
      clear hk hp e1 e2
      go_enter Try.func16, Try.ntmps16
      go_wp2_with (go_at_call 18; refine HI.out.mono ?_; rintro e w' ⟨rfl, rfl⟩)
      go_ret
      exact ⟨rfl, HK.out, Touch.refl _ _⟩
end

theorem zero_row : (Try.prog.info? 49).map (fun i => (i.zero, i.size)) = some (some (.agg (row (List.replicate 27 0))), 27) := by kernel_rfl
theorem new_cel (n : Nat) : Cel ((row (List.replicate 27 0)).setIfInBounds 0 (.int .i64 n)) n dvnew := by
  have h : ∀ k, k < 27 → (List.replicate 27 (0 : Int))[k]? = some 0 := by decide
  have hs : (row (List.replicate 27 0)).size = 27 := by rw [row_size]; rfl
  have hz : ∀ k, 1 ≤ k → k < 27 → ((row (List.replicate 27 0)).setIfInBounds 0 (.int .i64 n))[k]? = some (.int .i64 0) := fun k h1 h2 => by
    rw [set_off (by omega)]
    exact row_get (h k h2)
  exact ⟨by simpa using hs, set_at (by omega), hz _ (by omega) (by omega), hz _ (by omega) (by omega), fun i hi => hz _ (by omega) (by omega), fun i hi => hz _ (by omega) (by omega), fun i hi => hz _ (by omega) (by omega), fun i hi => hz _ (by omega) (by omega), fun i hi => hz _ (by omega) (by omega)⟩
set_option maxHeartbeats 4000000 in
theorem new_bad (n : Int) (h : ¬ (1 ≤ n ∧ n ≤ 4)) (w : World) : Calls Try.prog 7 #[.int .i64 n] w fun e w' => e = .returned (.tuple #[.pointer none, errV 43 1]) ∧ Below w.heap.size w w' := by
  by_cases h1 : n < 1
  · go_enter Try.func7, Try.ntmps7
    go_wp2
    go_ret2
    exact ⟨rfl, Below.refl _ _⟩
  · have h2 : 4 < n := by omega
    go_enter Try.func7, Try.ntmps7
    go_wp2
    go_ret2
    exact ⟨rfl, Below.refl _ _⟩
set_option maxHeartbeats 4000000 in
theorem new_any (n : Nat) (h1 : 1 ≤ n) (h4 : n ≤ 4) (w : World) : Calls Try.prog 7 #[.int .i64 n] w fun e w' => e = .returned (.tuple #[.pointer (some ⟨w.heap.size, 0, none⟩), .nilIface]) ∧ Lk w' w.heap.size n dvnew ∧ Below w.heap.size w w' := by
  have h1I : ¬ (n : Int) < 1 := by omega
  have h4I : ¬ 4 < (n : Int) := by omega
  obtain ⟨zs, hzs⟩ : ∃ zs, zs = row (List.replicate 27 0) := ⟨_, rfl⟩
  have hz := (zero_of_info zero_row).1
  rw [← hzs] at hz
  have hs : zs.size = 27 := by rw [hzs, row_size]; rfl
  have hne : ¬ zs = #[] := fun e => by rw [e] at hs; cases hs
  have hc := new_cel n
  rw [← hzs] at hc
  have HC := Lib.hid hc
  clear hc hzs
  go_enter Try.func7, Try.ntmps7
  go_wp2
  go_ret2
  exact ⟨rfl, ⟨_, Block.made w _ _, HC.out⟩, (Below.refl w.heap.size w).alloc (Nat.le_refl _) _⟩
end Go.Proofs.Ytbicckeoidijpaa.Dq
