/-
  Package filter: what New answers.
-/
import Derived.Test.YtobfaohcadmopaaFlt
namespace Go.Proofs.Ytobfaohcadmopaa.Filter
open Go.RowKit

/-- The state, new; what holds of all. -/
abbrev LSt := FS
def lkNew (_n : Nat) : FS := fnew
abbrev lkOk (n : Nat) (s : FS) : Prop := FOk n s
theorem lkNew_ok {n : Nat} (hn : 1 ≤ n) : lkOk n (lkNew n) := fnew_ok n hn
/-- No number grows with the steps. -/
def lkFit (_n : Nat) (_s : LSt) (_A : Nat) : Prop := True
theorem lkFit_new (n : Nat) : lkFit n (lkNew n) 0 := trivial
theorem lkFit_mono {n A B : Nat} {s : LSt} (_h : lkFit n s A) (_hA : A ≤ B) : lkFit n s B := trivial
theorem lkFit_step {n A : Nat} {s : LSt} (_hok : lkOk n s) (_h : lkFit n s A) (p : Int) : lkFit n (lkStep n s p) (A + 1) := trivial
theorem lkStep_any {g n A : Nat} {s : FS} (w : World) (hk : Lk w g n s) (hn : n ≤ 4) (hok : lkOk n s) (_hf : lkFit n s A) (_hA : A ≤ 100000) (p : Int) :
    Calls Try.prog 26 #[.pointer (some ⟨g, 0, none⟩), .int .i64 p] w fun e w' => e = .returned (errV 48 (perr n p)) ∧ Lk w' g n (lkStep n s p) ∧ Touch (fun k => k = g) w w' := step_any w hk hn hok p
theorem lk_one {n : Nat} {s : LSt} (h : lkOk n s) (p q : Nat) (hp : p < n) (hq : q < n) (h1 : lkAt n s p = 5) (h2 : lkAt n s q = 5) : p = q := by
  rw [lkAt_in hp] at h1
  rw [lkAt_in hq] at h2
  exact h.alone hp hq (by omega) (by omega)
theorem lk_comes {n : Nat} {s : LSt} (h : lkOk n s) (h1 : 1 ≤ n) (h4 : n ≤ 4) (S : Nat → LSt) (h0 : S 0 = s) (hs : ∀ t, S (t + 1) = lkStep n (S t) ((t % n : Nat) : Int)) {p : Nat} (hp : p < n) : ∃ t, t < 300 * n ∧ t % n = p ∧ lkAt n (S (t + 1)) p = 5 := by
  have hR : FRun n S := ⟨h1, by rw [h0]; exact h, fun t => by rw [hs, lkStep_in (Nat.mod_lt _ h1)]⟩
  obtain ⟨r, hr, h5⟩ := hR.comes h4 hp
  refine ⟨r * n + p, ?_, by rw [Nat.add_comm, Nat.mul_comm, Nat.add_mul_mod_self_left, Nat.mod_eq_of_lt hp], by rw [lkAt_in hp]; exact h5⟩
  have : (r + 1) * n ≤ 300 * n := Nat.mul_le_mul_right n (by omega)
  rw [Nat.succ_mul] at this
  omega
/-- The cells of a lock that is being made: so many hands stand at line 1. -/
structure Mk (cs : Array Value) (n i : Nat) : Prop where
  size : cs.size = 22
  num : cs[0]? = some (.int .i64 n)
  zero : ∀ k, 1 ≤ k → k < 10 → cs[k]? = some (.int .i64 0)
  one : ∀ q, q < i → cs[10 + q * 3]? = some (.int .i64 1) ∧ cs[10 + q * 3 + 1]? = some (.int .i64 1) ∧ cs[10 + q * 3 + 2]? = some (.int .i64 0)
  off : ∀ q, i ≤ q → q < 4 → cs[10 + q * 3]? = some (.int .i64 0) ∧ cs[10 + q * 3 + 1]? = some (.int .i64 0) ∧ cs[10 + q * 3 + 2]? = some (.int .i64 0)
theorem Mk.done {cs : Array Value} {n : Nat} (h : Mk cs n n) (hn : n ≤ 4) : Cel cs n fnew :=
  ⟨h.size, h.num, fun p hp => h.zero _ (by omega) (by omega), fun d h1 h2 => h.zero _ (by omega) (by omega), fun p hp => (h.one p hp).1, fun p hp => (h.one p hp).2.1, fun p hp => (h.one p hp).2.2⟩
theorem Mk.next {cs : Array Value} {n i : Nat} (h : Mk cs n i) (hi : i < 4) : Mk (((cs.setIfInBounds (10 + i * 3) (.int .i64 1)).setIfInBounds (10 + i * 3 + 1) (.int .i64 1)).setIfInBounds (10 + i * 3 + 2) (.int .i64 0)) n (i + 1) := by
  have hs := h.size
  refine ⟨by simpa using hs, ?_, fun k h1 h2 => ?_, fun q hq => ?_, fun q h1 h2 => ?_⟩
  · rw [set_off (by omega), set_off (by omega), set_off (by omega)]; exact h.num
  · rw [set_off (by omega), set_off (by omega), set_off (by omega)]; exact h.zero k h1 h2
  · by_cases e : q = i
    · subst e
      exact ⟨by rw [set_off (by omega), set_off (by omega), set_at (by omega)], by rw [set_off (by omega), set_at (by simp; omega)], by rw [set_at (by simp; omega)]⟩
    · have := h.one q (by omega)
      exact ⟨by rw [set_off (by omega), set_off (by omega), set_off (by omega)]; exact this.1, by rw [set_off (by omega), set_off (by omega), set_off (by omega)]; exact this.2.1, by rw [set_off (by omega), set_off (by omega), set_off (by omega)]; exact this.2.2⟩
  · have := h.off q (by omega) h2
    exact ⟨by rw [set_off (by omega), set_off (by omega), set_off (by omega)]; exact this.1, by rw [set_off (by omega), set_off (by omega), set_off (by omega)]; exact this.2.1, by rw [set_off (by omega), set_off (by omega), set_off (by omega)]; exact this.2.2⟩
theorem Mk.start (n : Nat) : Mk (row (n :: List.replicate 21 0)) n 0 := by
  refine ⟨rfl, rfl, fun k h1 h2 => ?_, fun q hq => by omega, fun q h1 h2 => ?_⟩
  · obtain rfl | rfl | rfl | rfl | rfl | rfl | rfl | rfl | rfl : k = 1 ∨ k = 2 ∨ k = 3 ∨ k = 4 ∨ k = 5 ∨ k = 6 ∨ k = 7 ∨ k = 8 ∨ k = 9 := by omega
    all_goals rfl
  · obtain rfl | rfl | rfl | rfl : q = 0 ∨ q = 1 ∨ q = 2 ∨ q = 3 := by omega
    all_goals exact ⟨rfl, rfl, rfl⟩

set_option maxHeartbeats 4000000 in
theorem lnew_bad (n : Int) (h : ¬ (1 ≤ n ∧ n ≤ 4)) (w : World) : Calls Try.prog 19 #[.int .i64 n] w fun e w' => e = .returned (.tuple #[.pointer none, errV 48 1]) ∧ Below w.heap.size w w' := by
  by_cases h1 : n < 1
  · go_enter Try.func19, Try.ntmps19
    go_wp2
    go_ret2
    exact ⟨rfl, Below.refl _ _⟩
  · have h2 : 4 < n := by omega
    go_enter Try.func19, Try.ntmps19
    go_wp2
    go_ret2
    exact ⟨rfl, Below.refl _ _⟩

set_option maxHeartbeats 4000000 in
theorem lnew_any (n : Nat) (h1 : 1 ≤ n) (h4 : n ≤ 4) (w : World) : Calls Try.prog 19 #[.int .i64 n] w fun e w' => e = .returned (.tuple #[.pointer (some ⟨w.heap.size, 0, none⟩), .nilIface]) ∧ Lk w' w.heap.size n (lkNew n) ∧ Below w.heap.size w w' := by
  have h1I : ¬ (n : Int) < 1 := by omega
  have h4I : ¬ 4 < (n : Int) := by omega
  have HK := Lib.hid (Block.made w 81 (row (n :: List.replicate 21 0)))
  have HB := Lib.hid ((Below.refl w.heap.size w).alloc (Nat.le_refl _) (.cells (row (n :: List.replicate 21 0)) 81))
  go_enter Try.func19, Try.ntmps19
  go_wp2
  go_loopw [17] (fun i wr => ∃ (k : Nat) (cs : Array Value), k ≤ n ∧ i = .int .i64 k ∧ Block wr w.heap.size 81 cs ∧ Mk cs n k ∧ Below w.heap.size w wr) (fun i _ => n - (intOf i).toNat)
  case atStart => exact ⟨0, _, by omega, rfl, HK.out, Mk.start n, HB.out⟩
  case round =>
    clear HK HB
    obtain ⟨k, cs, hk, rfl, hB, hM, hbel⟩ := hrel
    by_cases hlt : k < n
    · have hI : (k : Int) < n := by omega
      have hI4 : (k : Int) < 4 := by omega
      have x0 := (hB.cell (10 + k * 3)).trans (hM.off k (Nat.le_refl _) (by omega)).1
      have x1 := (hB.cell (10 + k * 3 + 1)).trans (hM.off k (Nat.le_refl _) (by omega)).2.1
      have x2 := (hB.cell (10 + k * 3 + 2)).trans (hM.off k (Nat.le_refl _) (by omega)).2.2
      have f0 := hB.free (10 + k * 3)
      have f1 := hB.free (10 + k * 3 + 1)
      have f2 := hB.free (10 + k * 3 + 2)
      have H3 := Lib.hid (((hB.put (10 + k * 3) (.int .i64 1)).put (10 + k * 3 + 1) (.int .i64 1)).put (10 + k * 3 + 2) (.int .i64 0))
      have HM := Lib.hid (hM.next (by omega))
      have HBB := Lib.hid (((hbel.setCell (p := ⟨w.heap.size, 10 + k * 3, none⟩) (Nat.le_refl _) (.int .i64 1)).setCell (p := ⟨w.heap.size, 10 + k * 3 + 1, none⟩) (Nat.le_refl _) (.int .i64 1)).setCell (p := ⟨w.heap.size, 10 + k * 3 + 2, none⟩) (Nat.le_refl _) (.int .i64 0))
      clear hB hM hbel
      go_wp2
      go_roundw
      case rel => exact ⟨k + 1, _, by omega, by go_num, H3.out, HM.out, HBB.out⟩
      case measure => simp [intOf]; omega
    · obtain rfl : k = n := by omega
      have hI : ¬ (k : Int) < k := by omega
      go_wp2
      go_ret2
      exact ⟨rfl, ⟨_, hB, hM.done h4⟩, hbel⟩
end Go.Proofs.Ytobfaohcadmopaa.Filter
