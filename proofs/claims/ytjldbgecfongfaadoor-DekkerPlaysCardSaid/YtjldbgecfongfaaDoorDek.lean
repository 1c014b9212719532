/-
  Package dekker: what its functions do, by contracts.
-/
import Derived.Test.YtjldbgecfongfaaDoorDekMath
import Derived.Test.YtjldbgecfongfaaDoorTch
import Derived.Deep.QuietTactic
import Derived.BigQuiet
import Derived.LoopTactic
import Derived.Deep.RegionHeld3
namespace Go.Proofs.YtjldbgecfongfaaDoor
open Go.RowKit

/-- The lock in block g is as the row says. -/
def Lk (w : World) (g : Nat) (s : List Int) : Prop := Block w g 42 (row s)
theorem Lk.lt {w : World} {g : Nat} {s : List Int} (h : Lk w g s) : g < w.heap.size := Block.lt h
theorem Lk.cells {w : World} {g : Nat} {f0 f1 t a0 a1 : Int} (h : Lk w g [f0, f1, t, a0, a1]) :
    w.cell? ⟨g, 0, none⟩ = some (.int .i64 f0) ∧ w.cell? ⟨g, 1, none⟩ = some (.int .i64 f1) ∧ w.cell? ⟨g, 2, none⟩ = some (.int .i64 t) ∧ w.cell? ⟨g, 3, none⟩ = some (.int .i64 a0) ∧ w.cell? ⟨g, 4, none⟩ = some (.int .i64 a1) :=
  ⟨(Block.cell h 0).trans rfl, (Block.cell h 1).trans rfl, (Block.cell h 2).trans rfl, (Block.cell h 3).trans rfl, (Block.cell h 4).trans rfl⟩
theorem Lk.frees {w : World} {g : Nat} {s : List Int} (h : Lk w g s) :
    w.frozen? ⟨g, 0, none⟩ = false ∧ w.frozen? ⟨g, 1, none⟩ = false ∧ w.frozen? ⟨g, 2, none⟩ = false ∧ w.frozen? ⟨g, 3, none⟩ = false ∧ w.frozen? ⟨g, 4, none⟩ = false :=
  ⟨Block.free h 0, Block.free h 1, Block.free h 2, Block.free h 3, Block.free h 4⟩
theorem row_put (s : List Int) (i : Nat) (z : Int) : (row s).setIfInBounds i (.int .i64 z) = row (s.set i z) := by
  simp [row, List.map_set]
theorem Lk.put {w : World} {g : Nat} {s : List Int} (h : Lk w g s) (i : Nat) (z : Int) : Lk (w.setCell ⟨g, i, none⟩ (.int .i64 z)) g (s.set i z) := by
  have := Block.put h i (.int .i64 z)
  rw [row_put] at this
  exact this
theorem Lk.done {w : World} {g i : Nat} {m s : List Int} {z : Int} (h : Lk w g m) (e : m.set i z = s) : Lk (w.setCell ⟨g, i, none⟩ (.int .i64 z)) g s := e ▸ h.put i z
theorem Lk.drewN {w : World} {g : Nat} {s : List Int} (h : Lk w g s) (n : Nat) : Lk (w.drewN n) g s := h
theorem touch_one (w : World) (g i : Nat) (u : Value) : Touch (fun k => k = g) w (w.setCell ⟨g, i, none⟩ u) := (Touch.refl (fun k => k = g) w).setCell (Or.inl rfl) u
theorem nine {a : Int} (h1 : 1 ≤ a) (h2 : a ≤ 9) : a = 1 ∨ a = 2 ∨ a = 3 ∨ a = 4 ∨ a = 5 ∨ a = 6 ∨ a = 7 ∨ a = 8 ∨ a = 9 := by omega
theorem two {a : Int} (h1 : 0 ≤ a) (h2 : a ≤ 1) : a = 0 ∨ a = 1 := by omega

theorem isHand_any (p : Int) (w : World) : Calls Tryd.prog 18 #[.int .i64 p] w fun e w' => e = .returned (.bool (decide (0 ≤ p ∧ p < 2))) ∧ w = w' := by
  by_cases h0 : 0 ≤ p
  · by_cases h1 : p < 2
    · rw [decide_eq_true (show 0 ≤ p ∧ p < 2 from ⟨h0, h1⟩)]
      go_enter Tryd.func18, Tryd.ntmps18
      go_wp2
      go_ret
      exact ⟨rfl, rfl⟩
    · rw [decide_eq_false (show ¬ (0 ≤ p ∧ p < 2) from fun h => h1 h.2)]
      go_enter Tryd.func18, Tryd.ntmps18
      go_wp2
      go_ret
      exact ⟨rfl, rfl⟩
  · rw [decide_eq_false (show ¬ (0 ≤ p ∧ p < 2) from fun h => h0 h.1)]
    go_enter Tryd.func18, Tryd.ntmps18
    go_wp2
    go_ret
    exact ⟨rfl, rfl⟩

/-- What do leaves: a line, and the row but for it. -/
def DoPost (w : World) (g : Nat) (s : List Int) (p q : Nat) (e : Ending) (w' : World) : Prop :=
  e = .returned (.int .i64 ((pdo s p q).getD (3 + p) 0)) ∧ (∃ b0 b1 b2 b3 b4, [b0, b1, b2, b3, b4].set (3 + p) ((pdo s p q).getD (3 + p) 0) = pdo s p q ∧ Lk w' g [b0, b1, b2, b3, b4]) ∧ Touch (fun k => k = g) w w'

set_option maxHeartbeats 4000000 in
theorem do_zero (s : List Int) (hs : s ∈ pall) (g : Nat) (w : World) (hk : Lk w g s) :
    Calls Tryd.prog 19 #[.pointer (some ⟨g, 0, none⟩), .int .i64 0, .int .i64 1] w (DoPost w g s 0 1) := by
  obtain ⟨f0, f1, t, a0, a1, rfl, h1, h2, h3, h4, h5, h6, h7, h8, h9, h10⟩ := pall_parts hs
  obtain ⟨c0, c1, c2, c3, c4⟩ := hk.cells
  obtain ⟨z0, z1, z2, z3, z4⟩ := hk.frees
  have HK := Lib.hid hk
  clear hs hk h1 h2 h9 h10
  rcases nine h7 h8 with rfl | rfl | rfl | rfl | rfl | rfl | rfl | rfl | rfl
  · clear h3 h4 h5 h6 h7 h8
    go_enter Tryd.func19, Tryd.ntmps19
    go_wp2
    go_ret
    exact ⟨rfl, ⟨_, _, _, _, _, rfl, HK.out.put 0 1⟩, touch_one w g _ _⟩
  · clear h5 h6 h7 h8
    rcases two h3 h4 with rfl | rfl
    · clear h3 h4
      go_enter Tryd.func19, Tryd.ntmps19
      go_wp2
      go_ret
      exact ⟨rfl, ⟨_, _, _, _, _, rfl, HK.out⟩, Touch.refl _ w⟩
    · clear h3 h4
      go_enter Tryd.func19, Tryd.ntmps19
      go_wp2
      go_ret
      exact ⟨rfl, ⟨_, _, _, _, _, rfl, HK.out⟩, Touch.refl _ w⟩
  · clear h3 h4 h7 h8
    rcases two h5 h6 with rfl | rfl
    · clear h5 h6
      go_enter Tryd.func19, Tryd.ntmps19
      go_wp2
      go_ret
      exact ⟨rfl, ⟨_, _, _, _, _, rfl, HK.out⟩, Touch.refl _ w⟩
    · clear h5 h6
      go_enter Tryd.func19, Tryd.ntmps19
      go_wp2
      go_ret
      exact ⟨rfl, ⟨_, _, _, _, _, rfl, HK.out⟩, Touch.refl _ w⟩
  · clear h3 h4 h5 h6 h7 h8
    go_enter Tryd.func19, Tryd.ntmps19
    go_wp2
    go_ret
    exact ⟨rfl, ⟨_, _, _, _, _, rfl, HK.out.put 0 0⟩, touch_one w g _ _⟩
  · clear h3 h4 h7 h8
    rcases two h5 h6 with rfl | rfl
    · clear h5 h6
      go_enter Tryd.func19, Tryd.ntmps19
      go_wp2
      go_ret
      exact ⟨rfl, ⟨_, _, _, _, _, rfl, HK.out⟩, Touch.refl _ w⟩
    · clear h5 h6
      go_enter Tryd.func19, Tryd.ntmps19
      go_wp2
      go_ret
      exact ⟨rfl, ⟨_, _, _, _, _, rfl, HK.out⟩, Touch.refl _ w⟩
  · clear h3 h4 h5 h6 h7 h8
    go_enter Tryd.func19, Tryd.ntmps19
    go_wp2
    go_ret
    exact ⟨rfl, ⟨_, _, _, _, _, rfl, HK.out.put 0 1⟩, touch_one w g _ _⟩
  · clear h3 h4 h5 h6 h7 h8
    go_enter Tryd.func19, Tryd.ntmps19
    go_wp2
    go_ret
    exact ⟨rfl, ⟨_, _, _, _, _, rfl, HK.out⟩, Touch.refl _ w⟩
  · clear h3 h4 h5 h6 h7 h8
    go_enter Tryd.func19, Tryd.ntmps19
    go_wp2
    go_ret
    exact ⟨rfl, ⟨_, _, _, _, _, rfl, HK.out.put 2 1⟩, touch_one w g _ _⟩
  · clear h3 h4 h5 h6 h7 h8
    go_enter Tryd.func19, Tryd.ntmps19
    go_wp2
    go_ret
    exact ⟨rfl, ⟨_, _, _, _, _, rfl, HK.out.put 0 0⟩, touch_one w g _ _⟩

set_option maxHeartbeats 4000000 in
theorem do_one (s : List Int) (hs : s ∈ pall) (g : Nat) (w : World) (hk : Lk w g s) :
    Calls Tryd.prog 19 #[.pointer (some ⟨g, 0, none⟩), .int .i64 1, .int .i64 0] w (DoPost w g s 1 0) := by
  obtain ⟨f0, f1, t, a0, a1, rfl, h1, h2, h3, h4, h5, h6, h7, h8, h9, h10⟩ := pall_parts hs
  obtain ⟨c0, c1, c2, c3, c4⟩ := hk.cells
  obtain ⟨z0, z1, z2, z3, z4⟩ := hk.frees
  have HK := Lib.hid hk
  clear hs hk h3 h4 h7 h8
  rcases nine h9 h10 with rfl | rfl | rfl | rfl | rfl | rfl | rfl | rfl | rfl
  · clear h1 h2 h5 h6 h9 h10
    go_enter Tryd.func19, Tryd.ntmps19
    go_wp2
    go_ret
    exact ⟨rfl, ⟨_, _, _, _, _, rfl, HK.out.put 1 1⟩, touch_one w g _ _⟩
  · clear h5 h6 h9 h10
    rcases two h1 h2 with rfl | rfl
    · clear h1 h2
      go_enter Tryd.func19, Tryd.ntmps19
      go_wp2
      go_ret
      exact ⟨rfl, ⟨_, _, _, _, _, rfl, HK.out⟩, Touch.refl _ w⟩
    · clear h1 h2
      go_enter Tryd.func19, Tryd.ntmps19
      go_wp2
      go_ret
      exact ⟨rfl, ⟨_, _, _, _, _, rfl, HK.out⟩, Touch.refl _ w⟩
  · clear h1 h2 h9 h10
    rcases two h5 h6 with rfl | rfl
    · clear h5 h6
      go_enter Tryd.func19, Tryd.ntmps19
      go_wp2
      go_ret
      exact ⟨rfl, ⟨_, _, _, _, _, rfl, HK.out⟩, Touch.refl _ w⟩
    · clear h5 h6
      go_enter Tryd.func19, Tryd.ntmps19
      go_wp2
      go_ret
      exact ⟨rfl, ⟨_, _, _, _, _, rfl, HK.out⟩, Touch.refl _ w⟩
  · clear h1 h2 h5 h6 h9 h10
    go_enter Tryd.func19, Tryd.ntmps19
    go_wp2
    go_ret
    exact ⟨rfl, ⟨_, _, _, _, _, rfl, HK.out.put 1 0⟩, touch_one w g _ _⟩
  · clear h1 h2 h9 h10
    rcases two h5 h6 with rfl | rfl
    · clear h5 h6
      go_enter Tryd.func19, Tryd.ntmps19
      go_wp2
      go_ret
      exact ⟨rfl, ⟨_, _, _, _, _, rfl, HK.out⟩, Touch.refl _ w⟩
    · clear h5 h6
      go_enter Tryd.func19, Tryd.ntmps19
      go_wp2
      go_ret
      exact ⟨rfl, ⟨_, _, _, _, _, rfl, HK.out⟩, Touch.refl _ w⟩
  · clear h1 h2 h5 h6 h9 h10
    go_enter Tryd.func19, Tryd.ntmps19
    go_wp2
    go_ret
    exact ⟨rfl, ⟨_, _, _, _, _, rfl, HK.out.put 1 1⟩, touch_one w g _ _⟩
  · clear h1 h2 h5 h6 h9 h10
    go_enter Tryd.func19, Tryd.ntmps19
    go_wp2
    go_ret
    exact ⟨rfl, ⟨_, _, _, _, _, rfl, HK.out⟩, Touch.refl _ w⟩
  · clear h1 h2 h5 h6 h9 h10
    go_enter Tryd.func19, Tryd.ntmps19
    go_wp2
    go_ret
    exact ⟨rfl, ⟨_, _, _, _, _, rfl, HK.out.put 2 0⟩, touch_one w g _ _⟩
  · clear h1 h2 h5 h6 h9 h10
    go_enter Tryd.func19, Tryd.ntmps19
    go_wp2
    go_ret
    exact ⟨rfl, ⟨_, _, _, _, _, rfl, HK.out.put 1 0⟩, touch_one w g _ _⟩

/-- The error of Step. -/
def perr (p : Int) : Int := if 0 ≤ p ∧ p < 2 then 0 else 1
set_option maxHeartbeats 4000000 in
theorem step_any (s : List Int) (hs : s ∈ pall) (g : Nat) (w : World) (hk : Lk w g s) (p : Int) :
    Calls Tryd.prog 10 #[.pointer (some ⟨g, 0, none⟩), .int .i64 p] w fun e w' => e = .returned (errV 45 (perr p)) ∧ Lk w' g (pstp s p) ∧ Touch (fun k => k = g) w w' := by
  by_cases hp : 0 ≤ p ∧ p < 2
  · obtain rfl | rfl : p = 0 ∨ p = 1 := by omega
    · have HD := Lib.hid (fun w (hk : Lk w g s) => do_zero s hs g w hk)
      have HK := Lib.hid hk
      have hz := hk.frees.2.2.2.1
      obtain ⟨f0, f1, t, a0, a1, rfl, -⟩ := pall_parts hs
      have hc := hk.cells.2.2.2.1
      have hw1 : IntKind.i64.wrap 1 = 1 := by decide
      clear hs hk hp
      go_enter Tryd.func10, Tryd.ntmps10
      go_wp2_with (go_at_call 18; refine (isHand_any _ _).mono ?_; rw [decide_eq_true (by omega)]; rintro e w' ⟨rfl, rfl⟩)
      go_region_with (go_at_call 19; refine (HD.out w.drew HK.out).mono ?_; rintro e w2 ⟨rfl, ⟨b0, b1, b2, b3, b4, he, hk2⟩, ht2⟩; obtain ⟨-, -, -, hc2, -⟩ := hk2.cells; obtain ⟨-, -, -, hz2, -⟩ := hk2.frees; have HE := Lib.hid he; have HK2 := Lib.hid hk2; have HT2 := Lib.hid ht2; clear he hk2 ht2)
      all_goals (go_wp2; go_ret; exact ⟨rfl, HK2.out.done HE.out, ((Touch.refl _ w).drew.trans HT2.out (fun _ h => Or.inl h)).setCell (Or.inl rfl) _⟩)
    · have HD := Lib.hid (fun w (hk : Lk w g s) => do_one s hs g w hk)
      have HK := Lib.hid hk
      have hz := hk.frees.2.2.2.2
      obtain ⟨f0, f1, t, a0, a1, rfl, -⟩ := pall_parts hs
      have hc := hk.cells.2.2.2.2
      have hw1 : IntKind.i64.wrap 0 = 0 := by decide
      clear hs hk hp
      go_enter Tryd.func10, Tryd.ntmps10
      go_wp2_with (go_at_call 18; refine (isHand_any _ _).mono ?_; rw [decide_eq_true (by omega)]; rintro e w' ⟨rfl, rfl⟩)
      go_region_with (go_at_call 19; refine (HD.out w.drew HK.out).mono ?_; rintro e w2 ⟨rfl, ⟨b0, b1, b2, b3, b4, he, hk2⟩, ht2⟩; obtain ⟨-, -, -, -, hc2⟩ := hk2.cells; obtain ⟨-, -, -, -, hz2⟩ := hk2.frees; have HE := Lib.hid he; have HK2 := Lib.hid hk2; have HT2 := Lib.hid ht2; clear he hk2 ht2)
      all_goals (go_wp2; go_ret; exact ⟨rfl, HK2.out.done HE.out, ((Touch.refl _ w).drew.trans HT2.out (fun _ h => Or.inl h)).setCell (Or.inl rfl) _⟩)
  · have hd : decide (0 ≤ p ∧ p < 2) = false := decide_eq_false hp
    have e1 : pstp s p = s := by rw [pstp, if_neg (by omega), if_neg (by omega)]
    have e2 : errV 45 (perr p) = .iface 45 (.int .i64 1) := by simp [errV, perr, hp]
    rw [e1, e2]
    have HK := Lib.hid hk
    have HI := Lib.hid (show ∀ w, Calls Tryd.prog 18 #[.int .i64 p] w fun e w' => e = .returned (.bool false) ∧ w = w' from fun w => by rw [← hd]; exact isHand_any p w)
    clear hs hk hd e1 e2 hp
    go_enter Tryd.func10, Tryd.ntmps10
    go_wp2_with (go_at_call 18; refine (HI.out _).mono ?_; rintro e w' ⟨rfl, rfl⟩)
    go_ret
    exact ⟨rfl, HK.out, Touch.refl _ _⟩

theorem at_any (s : List Int) (hs : s ∈ pall) (g : Nat) (w : World) (hk : Lk w g s) (q : Nat) (hq : q < 2) :
    Calls Tryd.prog 13 #[.pointer (some ⟨g, 0, none⟩), .int .i64 q] w fun e w' => e = .returned (.int .i64 (s.getD (3 + q) 0)) ∧ w = w' := by
  obtain ⟨f0, f1, t, a0, a1, rfl, -⟩ := pall_parts hs
  obtain ⟨c0, c1, c2, c3, c4⟩ := hk.cells
  clear hs hk
  obtain rfl | rfl : q = 0 ∨ q = 1 := by omega
  · go_enter Tryd.func13, Tryd.ntmps13
    go_wp2_with (go_at_call 18; refine (isHand_any _ _).mono ?_; rw [decide_eq_true (by omega)]; rintro e w' ⟨rfl, rfl⟩)
    go_ret
    exact ⟨rfl, rfl⟩
  · go_enter Tryd.func13, Tryd.ntmps13
    go_wp2_with (go_at_call 18; refine (isHand_any _ _).mono ?_; rw [decide_eq_true (by omega)]; rintro e w' ⟨rfl, rfl⟩)
    go_ret
    exact ⟨rfl, rfl⟩

theorem lnew_any (w : World) : Calls Tryd.prog 4 #[] w fun e w' => e = .returned (.pointer (some ⟨w.heap.size, 0, none⟩)) ∧ Lk w' w.heap.size pnew ∧ Below w.heap.size w w' := by
  have HK := Lib.hid (Block.made w 42 (row pnew))
  have HB := Lib.hid ((Below.refl w.heap.size w).alloc (Nat.le_refl _) (.cells (row pnew) 42))
  go_enter Tryd.func4, Tryd.ntmps4
  go_wp2
  go_ret
  exact ⟨rfl, HK.out, HB.out⟩
end Go.Proofs.YtjldbgecfongfaaDoor
