/-
  Package bakery: what its functions do, by contracts.
-/
import Derived.Test.YtobfaohcadmopaaBakMath
import Derived.Test.YtobfaohcadmopaaTch
import Derived.Deep.QuietTactic
import Derived.BigQuiet
import Derived.LoopTactic
import Derived.Deep.RegionHeld3
import Derived.IntWalk
namespace Go.Proofs.Ytobfaohcadmopaa.Bakery
open Go.RowKit

/-- The cells of a lock. -/
structure Cel (cs : Array Value) (n : Nat) (s : Nat → BH) : Prop where
  size : cs.size = 21
  num : cs[0]? = some (.int .i64 n)
  c : ∀ p, p < n → cs[1 + p]? = some (.int .i64 (s p).c)
  w : ∀ p, p < n → cs[1 + n + p]? = some (.int .i64 (s p).w)
  a : ∀ p, p < n → cs[9 + p * 3]? = some (.int .i64 (s p).a)
  k : ∀ p, p < n → cs[9 + p * 3 + 1]? = some (.int .i64 (s p).k)
  m : ∀ p, p < n → cs[9 + p * 3 + 2]? = some (.int .i64 (s p).m)
theorem set_at {cs : Array Value} {i : Nat} {u : Value} (h : i < cs.size) : (cs.setIfInBounds i u)[i]? = some u := by simp [h]
theorem set_off {cs : Array Value} {i j : Nat} {u : Value} (h : j ≠ i) : (cs.setIfInBounds i u)[j]? = cs[j]? := Array.getElem?_setIfInBounds_ne (by omega)
/-- Another c of a hand. -/
def putC (s : Nat → BH) (p z : Nat) : Nat → BH := bup s p { s p with c := z }
/-- Another w of a hand. -/
def putW (s : Nat → BH) (p z : Nat) : Nat → BH := bup s p { s p with w := z }
/-- Another a of a hand. -/
def putA (s : Nat → BH) (p z : Nat) : Nat → BH := bup s p { s p with a := z }
/-- Another k of a hand. -/
def putK (s : Nat → BH) (p z : Nat) : Nat → BH := bup s p { s p with k := z }
/-- Another m of a hand. -/
def putM (s : Nat → BH) (p z : Nat) : Nat → BH := bup s p { s p with m := z }
section
variable {cs : Array Value} {n : Nat} {s : Nat → BH}
theorem Cel.setC (h : Cel cs n s) (hn : n ≤ 4) {p : Nat} (hp : p < n) (z : Nat) : Cel (cs.setIfInBounds (1 + p) (.int .i64 z)) n (putC s p z) := by
  have hs := h.size
  refine ⟨by simpa using hs, by rw [set_off (by omega)]; exact h.num, fun q hq => ?_, fun q hq => ?_, fun q hq => ?_, fun q hq => ?_, fun q hq => ?_⟩
  · by_cases e : q = p
    · subst e; rw [set_at (by omega), putC, bup_same]
    · rw [set_off (by omega), putC, bup_other e]; exact h.c q hq
  · rw [set_off (by omega)]
    by_cases e : q = p
    · subst e; rw [putC, bup_same]; exact h.w q hq
    · rw [putC, bup_other e]; exact h.w q hq
  · rw [set_off (by omega)]
    by_cases e : q = p
    · subst e; rw [putC, bup_same]; exact h.a q hq
    · rw [putC, bup_other e]; exact h.a q hq
  · rw [set_off (by omega)]
    by_cases e : q = p
    · subst e; rw [putC, bup_same]; exact h.k q hq
    · rw [putC, bup_other e]; exact h.k q hq
  · rw [set_off (by omega)]
    by_cases e : q = p
    · subst e; rw [putC, bup_same]; exact h.m q hq
    · rw [putC, bup_other e]; exact h.m q hq
theorem Cel.setW (h : Cel cs n s) (hn : n ≤ 4) {p : Nat} (hp : p < n) (z : Nat) : Cel (cs.setIfInBounds (1 + n + p) (.int .i64 z)) n (putW s p z) := by
  have hs := h.size
  refine ⟨by simpa using hs, by rw [set_off (by omega)]; exact h.num, fun q hq => ?_, fun q hq => ?_, fun q hq => ?_, fun q hq => ?_, fun q hq => ?_⟩
  · rw [set_off (by omega)]
    by_cases e : q = p
    · subst e; rw [putW, bup_same]; exact h.c q hq
    · rw [putW, bup_other e]; exact h.c q hq
  · by_cases e : q = p
    · subst e; rw [set_at (by omega), putW, bup_same]
    · rw [set_off (by omega), putW, bup_other e]; exact h.w q hq
  · rw [set_off (by omega)]
    by_cases e : q = p
    · subst e; rw [putW, bup_same]; exact h.a q hq
    · rw [putW, bup_other e]; exact h.a q hq
  · rw [set_off (by omega)]
    by_cases e : q = p
    · subst e; rw [putW, bup_same]; exact h.k q hq
    · rw [putW, bup_other e]; exact h.k q hq
  · rw [set_off (by omega)]
    by_cases e : q = p
    · subst e; rw [putW, bup_same]; exact h.m q hq
    · rw [putW, bup_other e]; exact h.m q hq
theorem Cel.setA (h : Cel cs n s) (hn : n ≤ 4) {p : Nat} (hp : p < n) (z : Nat) : Cel (cs.setIfInBounds (9 + p * 3) (.int .i64 z)) n (putA s p z) := by
  have hs := h.size
  refine ⟨by simpa using hs, by rw [set_off (by omega)]; exact h.num, fun q hq => ?_, fun q hq => ?_, fun q hq => ?_, fun q hq => ?_, fun q hq => ?_⟩
  · rw [set_off (by omega)]
    by_cases e : q = p
    · subst e; rw [putA, bup_same]; exact h.c q hq
    · rw [putA, bup_other e]; exact h.c q hq
  · rw [set_off (by omega)]
    by_cases e : q = p
    · subst e; rw [putA, bup_same]; exact h.w q hq
    · rw [putA, bup_other e]; exact h.w q hq
  · by_cases e : q = p
    · subst e; rw [set_at (by omega), putA, bup_same]
    · rw [set_off (by omega), putA, bup_other e]; exact h.a q hq
  · rw [set_off (by omega)]
    by_cases e : q = p
    · subst e; rw [putA, bup_same]; exact h.k q hq
    · rw [putA, bup_other e]; exact h.k q hq
  · rw [set_off (by omega)]
    by_cases e : q = p
    · subst e; rw [putA, bup_same]; exact h.m q hq
    · rw [putA, bup_other e]; exact h.m q hq
theorem Cel.setK (h : Cel cs n s) (hn : n ≤ 4) {p : Nat} (hp : p < n) (z : Nat) : Cel (cs.setIfInBounds (9 + p * 3 + 1) (.int .i64 z)) n (putK s p z) := by
  have hs := h.size
  refine ⟨by simpa using hs, by rw [set_off (by omega)]; exact h.num, fun q hq => ?_, fun q hq => ?_, fun q hq => ?_, fun q hq => ?_, fun q hq => ?_⟩
  · rw [set_off (by omega)]
    by_cases e : q = p
    · subst e; rw [putK, bup_same]; exact h.c q hq
    · rw [putK, bup_other e]; exact h.c q hq
  · rw [set_off (by omega)]
    by_cases e : q = p
    · subst e; rw [putK, bup_same]; exact h.w q hq
    · rw [putK, bup_other e]; exact h.w q hq
  · rw [set_off (by omega)]
    by_cases e : q = p
    · subst e; rw [putK, bup_same]; exact h.a q hq
    · rw [putK, bup_other e]; exact h.a q hq
  · by_cases e : q = p
    · subst e; rw [set_at (by omega), putK, bup_same]
    · rw [set_off (by omega), putK, bup_other e]; exact h.k q hq
  · rw [set_off (by omega)]
    by_cases e : q = p
    · subst e; rw [putK, bup_same]; exact h.m q hq
    · rw [putK, bup_other e]; exact h.m q hq
theorem Cel.setM (h : Cel cs n s) (hn : n ≤ 4) {p : Nat} (hp : p < n) (z : Nat) : Cel (cs.setIfInBounds (9 + p * 3 + 2) (.int .i64 z)) n (putM s p z) := by
  have hs := h.size
  refine ⟨by simpa using hs, by rw [set_off (by omega)]; exact h.num, fun q hq => ?_, fun q hq => ?_, fun q hq => ?_, fun q hq => ?_, fun q hq => ?_⟩
  · rw [set_off (by omega)]
    by_cases e : q = p
    · subst e; rw [putM, bup_same]; exact h.c q hq
    · rw [putM, bup_other e]; exact h.c q hq
  · rw [set_off (by omega)]
    by_cases e : q = p
    · subst e; rw [putM, bup_same]; exact h.w q hq
    · rw [putM, bup_other e]; exact h.w q hq
  · rw [set_off (by omega)]
    by_cases e : q = p
    · subst e; rw [putM, bup_same]; exact h.a q hq
    · rw [putM, bup_other e]; exact h.a q hq
  · rw [set_off (by omega)]
    by_cases e : q = p
    · subst e; rw [putM, bup_same]; exact h.k q hq
    · rw [putM, bup_other e]; exact h.k q hq
  · by_cases e : q = p
    · subst e; rw [set_at (by omega), putM, bup_same]
    · rw [set_off (by omega), putM, bup_other e]; exact h.m q hq
end

/-- The lock in block g: n hands, as s says. -/
def Lk (w : World) (g n : Nat) (s : Nat → BH) : Prop := ∃ cs, Block w g 68 cs ∧ Cel cs n s
section
variable {w : World} {g n : Nat} {s : Nat → BH}
theorem Lk.lt (h : Lk w g n s) : g < w.heap.size := by
  obtain ⟨cs, h, _⟩ := h
  exact h.lt
theorem Lk.num (h : Lk w g n s) : w.cell? ⟨g, 0, none⟩ = some (.int .i64 n) := by
  obtain ⟨cs, h, c⟩ := h
  rw [h.cell]; exact c.num
theorem Lk.xc (h : Lk w g n s) {p : Nat} (hp : p < n) : w.cell? ⟨g, 1 + p, none⟩ = some (.int .i64 (s p).c) := by
  obtain ⟨cs, h, c⟩ := h
  rw [h.cell]; exact c.c p hp
theorem Lk.xw (h : Lk w g n s) {p : Nat} (hp : p < n) : w.cell? ⟨g, 1 + n + p, none⟩ = some (.int .i64 (s p).w) := by
  obtain ⟨cs, h, c⟩ := h
  rw [h.cell]; exact c.w p hp
theorem Lk.xa (h : Lk w g n s) {p : Nat} (hp : p < n) : w.cell? ⟨g, 9 + p * 3, none⟩ = some (.int .i64 (s p).a) := by
  obtain ⟨cs, h, c⟩ := h
  rw [h.cell]; exact c.a p hp
theorem Lk.xk (h : Lk w g n s) {p : Nat} (hp : p < n) : w.cell? ⟨g, 9 + p * 3 + 1, none⟩ = some (.int .i64 (s p).k) := by
  obtain ⟨cs, h, c⟩ := h
  rw [h.cell]; exact c.k p hp
theorem Lk.xm (h : Lk w g n s) {p : Nat} (hp : p < n) : w.cell? ⟨g, 9 + p * 3 + 2, none⟩ = some (.int .i64 (s p).m) := by
  obtain ⟨cs, h, c⟩ := h
  rw [h.cell]; exact c.m p hp
theorem Lk.free (h : Lk w g n s) (i : Nat) : w.frozen? ⟨g, i, none⟩ = false := by
  obtain ⟨cs, h, _⟩ := h
  exact h.free i
theorem Lk.drewN (h : Lk w g n s) (i : Nat) : Lk (w.drewN i) g n s := h
theorem Lk.drew (h : Lk w g n s) : Lk w.drew g n s := h
theorem Lk.touch0 {O : Nat → Prop} {w' : World} (h : Lk w g n s) (k : Touch O w w') (hn : ¬ O g) : Lk w' g n s := by
  obtain ⟨cs, h, c⟩ := h
  exact ⟨cs, h.touch k hn, c⟩
theorem Lk.below0 {w' : World} (h : Lk w g n s) {B : Nat} (hb : Below B w w') (hg : g < B) : Lk w' g n s := by
  obtain ⟨cs, h, c⟩ := h
  exact ⟨cs, h.below hb hg, c⟩
theorem Lk.setC (h : Lk w g n s) (hn : n ≤ 4) {p : Nat} (hp : p < n) (z : Nat) : Lk (w.setCell ⟨g, 1 + p, none⟩ (.int .i64 z)) g n (putC s p z) := by
  obtain ⟨cs, h, c⟩ := h
  exact ⟨_, h.put _ _, c.setC hn hp z⟩
theorem Lk.setW (h : Lk w g n s) (hn : n ≤ 4) {p : Nat} (hp : p < n) (z : Nat) : Lk (w.setCell ⟨g, 1 + n + p, none⟩ (.int .i64 z)) g n (putW s p z) := by
  obtain ⟨cs, h, c⟩ := h
  exact ⟨_, h.put _ _, c.setW hn hp z⟩
theorem Lk.setA (h : Lk w g n s) (hn : n ≤ 4) {p : Nat} (hp : p < n) (z : Nat) : Lk (w.setCell ⟨g, 9 + p * 3, none⟩ (.int .i64 z)) g n (putA s p z) := by
  obtain ⟨cs, h, c⟩ := h
  exact ⟨_, h.put _ _, c.setA hn hp z⟩
theorem Lk.setK (h : Lk w g n s) (hn : n ≤ 4) {p : Nat} (hp : p < n) (z : Nat) : Lk (w.setCell ⟨g, 9 + p * 3 + 1, none⟩ (.int .i64 z)) g n (putK s p z) := by
  obtain ⟨cs, h, c⟩ := h
  exact ⟨_, h.put _ _, c.setK hn hp z⟩
theorem Lk.setM (h : Lk w g n s) (hn : n ≤ 4) {p : Nat} (hp : p < n) (z : Nat) : Lk (w.setCell ⟨g, 9 + p * 3 + 2, none⟩ (.int .i64 z)) g n (putM s p z) := by
  obtain ⟨cs, h, c⟩ := h
  exact ⟨_, h.put _ _, c.setM hn hp z⟩
end
theorem touch_one (w : World) (g i : Nat) (u : Value) : Touch (fun k => k = g) w (w.setCell ⟨g, i, none⟩ u) := (Touch.refl (fun k => k = g) w).setCell (Or.inl rfl) u

theorem isHand_any {g n : Nat} {s : Nat → BH} (p : Int) (w : World) (hk : Lk w g n s) : Calls Try.prog 32 #[.pointer (some ⟨g, 0, none⟩), .int .i64 p] w fun e w' => e = .returned (.bool (decide (0 ≤ p ∧ p < n))) ∧ w = w' := by
  have hc := hk.num
  clear hk
  by_cases h0 : 0 ≤ p
  · by_cases h1 : p < n
    · rw [decide_eq_true (show 0 ≤ p ∧ p < n from ⟨h0, h1⟩)]
      go_enter Try.func32, Try.ntmps32
      go_wp2
      go_ret
      exact ⟨rfl, rfl⟩
    · rw [decide_eq_false (show ¬ (0 ≤ p ∧ p < n) from fun h => h1 h.2)]
      go_enter Try.func32, Try.ntmps32
      go_wp2
      go_ret
      exact ⟨rfl, rfl⟩
  · rw [decide_eq_false (show ¬ (0 ≤ p ∧ p < n) from fun h => h0 h.1)]
    go_enter Try.func32, Try.ntmps32
    go_wp2
    go_ret
    exact ⟨rfl, rfl⟩

/-- What a picker has captured: the lock in block g, and a place. -/
structure Pk (w : World) (g b1 b2 f : Nat) : Prop where
  lock : w.cell? ⟨b1, 0, none⟩ = some (.pointer (some ⟨g, 0, none⟩))
  from_ : w.cell? ⟨b2, 0, none⟩ = some (.int .i64 f)
  far1 : b1 ≠ g
  far2 : b2 ≠ g
/-- A picker. -/
abbrev pkV (b1 b2 : Nat) : Value := .func (.func 48) #[] #[.pointer (some ⟨b1, 0, none⟩), .pointer (some ⟨b2, 0, none⟩)]
theorem Pk.drew {w : World} {g b1 b2 f : Nat} (h : Pk w g b1 b2 f) : Pk w.drew g b1 b2 f := ⟨h.lock, h.from_, h.far1, h.far2⟩
theorem Pk.drewN {w : World} {g b1 b2 f : Nat} (h : Pk w g b1 b2 f) (i : Nat) : Pk (w.drewN i) g b1 b2 f := ⟨h.lock, h.from_, h.far1, h.far2⟩
theorem Pk.touch {w w' : World} {g b1 b2 f : Nat} (h : Pk w g b1 b2 f) (k : Touch (fun k => k = g) w w') : Pk w' g b1 b2 f :=
  ⟨(k.cell (p := ⟨b1, 0, none⟩) (lt_of_cell h.lock) h.far1).trans h.lock, (k.cell (p := ⟨b2, 0, none⟩) (lt_of_cell h.from_) h.far2).trans h.from_, h.far1, h.far2⟩
theorem Pk.below {w w' : World} {g b1 b2 f : Nat} (h : Pk w g b1 b2 f) (k : Below w.heap.size w w') : Pk w' g b1 b2 f :=
  ⟨(k.cell (p := ⟨b1, 0, none⟩) (lt_of_cell h.lock)).trans h.lock, (k.cell (p := ⟨b2, 0, none⟩) (lt_of_cell h.from_)).trans h.from_, h.far1, h.far2⟩

set_option maxHeartbeats 1000000 in
theorem pick_any {g f : Nat} (w : World) (hg : g < w.heap.size) :
    Calls Try.prog 40 #[.pointer (some ⟨g, 0, none⟩), .int .i64 f] w fun e w' => ∃ b1 b2, e = .returned (pkV b1 b2) ∧ Pk w' g b1 b2 f ∧ Below w.heap.size w w' := by
  have hmf : ∀ (fn : Fn) (first cap : Array Value) (w : World), (Instr.makeFunc fn first cap).run Try.prog w = .ok (.func fn first cap) w := fun _ _ _ _ => rfl
  go_enter Try.func40, Try.ntmps40
  go_wp2
  go_ret
  have hB : Below w.heap.size w ((w.alloc (Obj.cells #[Value.pointer (some { block := g, off := 0 })] 38)).alloc (Obj.cells #[Value.int IntKind.i64 ↑f] 3)) := ((Below.refl _ _).alloc (Nat.le_refl _) _).alloc (by simp) _
  have h1 : ((w.alloc (Obj.cells #[Value.pointer (some { block := g, off := 0 })] 38)).alloc (Obj.cells #[Value.int IntKind.i64 ↑f] 3)).cell? ⟨w.heap.size, 0, none⟩ = some (.pointer (some ⟨g, 0, none⟩)) :=
    ((Block.made w 38 #[Value.pointer (some { block := g, off := 0 })]).alloc _).cell 0
  have h2 : ((w.alloc (Obj.cells #[Value.pointer (some { block := g, off := 0 })] 38)).alloc (Obj.cells #[Value.int IntKind.i64 ↑f] 3)).cell? ⟨w.heap.size + 1, 0, none⟩ = some (.int .i64 f) := by
    have := (Block.made (w.alloc (Obj.cells #[Value.pointer (some { block := g, off := 0 })] 38)) 3 #[Value.int IntKind.i64 ↑f]).cell 0
    rwa [World.size_alloc] at this
  exact ⟨_, _, rfl, ⟨h1, h2, by omega, by omega⟩, hB⟩
theorem pick0_any {g : Nat} (w : World) (hg : g < w.heap.size) :
    Calls Try.prog 40 #[.pointer (some ⟨g, 0, none⟩), .int .i64 0] w fun e w' => ∃ b1 b2, e = .returned (pkV b1 b2) ∧ Pk w' g b1 b2 0 ∧ Below w.heap.size w w' := pick_any (f := 0) w hg

set_option maxHeartbeats 1000000 in
theorem picked_any {g b1 b2 f k d : Nat} (w : World) (h : Pk w g b1 b2 f) (hd : f + k = d) (h8 : d < 8) :
    Calls Try.prog 48 #[.int .i64 k, .pointer (some ⟨b1, 0, none⟩), .pointer (some ⟨b2, 0, none⟩)] w fun e w' => e = .returned (.pointer (some ⟨g, 1 + d, none⟩)) ∧ ∃ i, w' = w.drewN i := by
  have h1 := h.lock
  have h2 := h.from_
  have hw : IntKind.i64.wrap ((f : Int) + (k : Int)) = (d : Int) := by rw [IntWalk.i64_in _ (by omega)]; omega
  have hd8 : (d : Int) < 8 := by omega
  clear h hd
  go_enter Try.func48, Try.ntmps48
  go_wp2
  go_quiet (fail)
  go_wp2
  go_ret
  exact ⟨rfl, _, rfl⟩

theorem touch_drewN {O : Nat → Prop} {a b : World} (h : Touch O a b) (n : Nat) : Touch O a (b.drewN n) := h.drewN n

/-- Where it stands when it has looked at hand k. -/
def lookAt (n k : Nat) (more done : Int) : Int := if k + 1 = n then done else more
set_option maxHeartbeats 1000000 in
theorem lookOn_any {g n : Nat} {s : Nat → BH} (w : World) (hk : Lk w g n s) (hn : n ≤ 4) {p : Nat} (hp : p < n) (hkn : (s p).k < n) (more done : Int) :
    Calls Try.prog 41 #[.pointer (some ⟨g, 0, none⟩), .pointer (some ⟨g, 9 + p * 3, none⟩), .int .i64 more, .int .i64 done] w fun e w' =>
      e = .returned (.int .i64 (lookAt n (s p).k more done)) ∧ Lk w' g n (putK s p ((s p).k + 1)) ∧ Touch (fun k => k = g) w w' := by
  have hcn := hk.num
  have hck := hk.xk hp
  have f1 := hk.free (9 + p * 3 + 1)
  have HK := Lib.hid hk
  have hwr : IntKind.i64.wrap (((s p).k : Int) + 1) = ((s p).k : Int) + 1 := IntWalk.i64_in _ (by omega)
  clear hk
  by_cases hge : (s p).k + 1 = n
  · rw [lookAt, if_pos hge]
    have hgI : ¬ ((s p).k : Int) + 1 < (n : Int) := by omega
    clear hge hkn
    go_enter Try.func41, Try.ntmps41
    go_wp2
    go_quiet (fail)
    go_wp2
    go_ret
    exact ⟨rfl, (HK.out.setK hn hp ((s p).k + 1)).drewN _, (touch_one w g _ _).drewN _⟩
  · rw [lookAt, if_neg hge]
    have hgI : ((s p).k : Int) + 1 < (n : Int) := by omega
    clear hge hkn
    go_enter Try.func41, Try.ntmps41
    go_wp2
    go_quiet (fail)
    go_wp2
    go_ret
    exact ⟨rfl, (HK.out.setK hn hp ((s p).k + 1)).drewN _, (touch_one w g _ _).drewN _⟩

/-- Hand k comes in ahead of hand p. -/
def bahd (p k : Nat) (hp hk : BH) : Bool := decide (¬ BBehind p k hp hk)
set_option maxHeartbeats 1000000 in
theorem isAhead_any {g n b1 b2 : Nat} {s : Nat → BH} (w : World) (hk : Lk w g n s) (hn : n ≤ 4) (hP : Pk w g b1 b2 n) {p k : Nat} (hp : p < n) (hkn : k < n) :
    Calls Try.prog 42 #[pkV b1 b2, .int .i64 k, .int .i64 p] w fun e w' =>
      e = .returned (.bool (bahd p k (s p) (s k))) ∧ ∃ i, w' = w.drewN i := by
  have h1 := hk.xw hkn
  have h2 := hk.xw hp
  rw [Nat.add_assoc] at h1 h2
  have HS := Lib.hid (show w.drew.cell? ⟨g, 1 + (n + k), none⟩ = some (.int .i64 (s k).w) ∧ w.drew.cell? ⟨g, 1 + (n + p), none⟩ = some (.int .i64 (s p).w) from ⟨h1, h2⟩)
  have HP := Lib.hid hP.drew
  have HP0 := Lib.hid hP
  clear hk hP h1 h2
  unfold pkV
  go_enter Try.func42, Try.ntmps42
  go_wp2_with fail
  go_region_held3 (fun W : World => W.cell? ⟨g, 1 + (n + k), none⟩ = some (.int .i64 (s k).w) ∧ W.cell? ⟨g, 1 + (n + p), none⟩ = some (.int .i64 (s p).w)) (exact HS.out) ((first | (go_at_call 48; (with_reducible refine (picked_any (k := k) (f := n) _ HP.out rfl (by omega)).mono ?_); rintro e w9 ⟨rfl, i9, rfl⟩) | (go_at_call 48; (with_reducible refine (picked_any (k := p) (f := n) _ (HP0.out.drewN _) rfl (by omega)).mono ?_); rintro e w9 ⟨rfl, i9, rfl⟩)))
  all_goals
    by_cases c0 : (s k).w = 0
    · have hr : bahd p k (s p) (s k) = false := decide_eq_false fun h => h (Or.inl c0)
      have hI : (((s k).w : Int) != 0) = false := by simp; omega
      have HR := Lib.hid hr
      clear hr c0
      go_wp2
      go_ret
      exact ⟨congrArg (fun b => Ending.returned (.bool b)) HR.out.symm, _, rfl⟩
    · have hI : (((s k).w : Int) != 0) = true := by simp; omega
      by_cases c1 : (s k).w < (s p).w
      · have hr : bahd p k (s p) (s k) = true := decide_eq_true fun h => by unfold BBehind at h; omega
        have hI1 : ((s k).w : Int) < ((s p).w : Int) := by omega
        have HR := Lib.hid hr
        clear hr c0 c1
        go_wp2
        go_ret
        exact ⟨congrArg (fun b => Ending.returned (.bool b)) HR.out.symm, _, rfl⟩
      · have hI1 : ¬ ((s k).w : Int) < ((s p).w : Int) := by omega
        by_cases c2 : (s k).w = (s p).w
        · have hI2 : (((s k).w : Int) == ((s p).w : Int)) = true := by simp; omega
          by_cases c3 : k < p
          · have hr : bahd p k (s p) (s k) = true := decide_eq_true fun h => by unfold BBehind at h; omega
            have hI3 : (k : Int) < (p : Int) := by omega
            have HR := Lib.hid hr
            clear hr c0 c1 c2 c3
            go_wp2
            go_ret
            exact ⟨congrArg (fun b => Ending.returned (.bool b)) HR.out.symm, _, rfl⟩
          · have hr : bahd p k (s p) (s k) = false := decide_eq_false fun h => h (by unfold BBehind; omega)
            have hI3 : ¬ (k : Int) < (p : Int) := by omega
            have HR := Lib.hid hr
            clear hr c0 c1 c2 c3
            go_wp2
            go_ret
            exact ⟨congrArg (fun b => Ending.returned (.bool b)) HR.out.symm, _, rfl⟩
        · have hI2 : (((s k).w : Int) == ((s p).w : Int)) = false := by simp; omega
          have hr : bahd p k (s p) (s k) = false := decide_eq_false fun h => h (by unfold BBehind; omega)
          have HR := Lib.hid hr
          clear hr c0 c1 c2
          go_wp2
          go_ret
          exact ⟨congrArg (fun b => Ending.returned (.bool b)) HR.out.symm, _, rfl⟩

/-- Hand p has done its line, but that it stands where it stood. -/
def bdid (n : Nat) (s : Nat → BH) (p : Nat) : Nat → BH := bup s p { bone n s p with a := (s p).a }
theorem bdid_put (n : Nat) (s : Nat → BH) (p : Nat) : putA (bdid n s p) p (bone n s p).a = bstep n s p := by
  funext q
  unfold putA bdid bstep
  by_cases e : q = p
  · subst e; simp only [bup_same]
  · simp only [bup_other e]

theorem below_undrew {B : Nat} {a b : World} (h : Below B a.drew b) : Below B a b := ⟨h.os, h.tape, h.output, h.size, h.block⟩
end Go.Proofs.Ytobfaohcadmopaa.Bakery
