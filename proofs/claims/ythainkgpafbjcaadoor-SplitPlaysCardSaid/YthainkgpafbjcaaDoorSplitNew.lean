/-
  Package split: what New answers.
-/
import Derived.Test.YthainkgpafbjcaaDoorSplitStep
namespace Go.Proofs.YthainkgpafbjcaaDoor.Split
open Go.RowKit

/-- The state, new; what holds of all. -/
abbrev LSt := SG
def lkNew (_n : Nat) : LSt := sgnew
theorem lkNew_ok {n : Nat} (_hn : 1 ≤ n) : lkOk n (lkNew n) := sgnew_ok n
def lkFit (_n : Nat) (_s : LSt) (_A : Nat) : Prop := True
theorem lkFit_new (n : Nat) : lkFit n (lkNew n) 0 := trivial
theorem lkFit_mono {n A B : Nat} {s : LSt} (_h : lkFit n s A) (_hA : A ≤ B) : lkFit n s B := trivial
theorem lkFit_step {n A : Nat} {s : LSt} (_hok : lkOk n s) (_h : lkFit n s A) (p : Int) : lkFit n (lkStep n s p) (A + 1) := trivial
theorem lkStep_any {g n A : Nat} {s : LSt} (w : World) (hk : Lk w g n s) (hn : n ≤ 4) (hok : lkOk n s) (_hf : lkFit n s A) (_hA : A ≤ 100000) (p : Int) :
    Calls Tryd.prog 10 #[.pointer (some ⟨g, 0, none⟩), .int .i64 p] w fun e w' => e = .returned (errV 40 (perr n p)) ∧ Lk w' g n (lkStep n s p) ∧ Touch (fun k => k = g) w w' :=
  step_any w hk hn hok p
/-- The cells of a lock that is being made: so many hands stand at line 1, all else is 0. -/
structure Mk (cs : Array Value) (n i : Nat) : Prop where
  size : cs.size = 33
  num : cs[0]? = some (.int .i64 n)
  one : ∀ q, q < i → cs[21 + q * 3]? = some (.int .i64 1)
  zero : ∀ k, 1 ≤ k → k < 33 → (∀ q, q < i → k ≠ 21 + q * 3) → cs[k]? = some (.int .i64 0)
theorem Mk.done {cs : Array Value} {n : Nat} (h : Mk cs n n) (hn : n ≤ 4) : Cel cs n sgnew.v :=
  ⟨h.size, h.num, fun i j hij => h.zero _ (by omega) (by have := pn_lt hij; omega) (by intro q hq; have := pn_lt hij; omega), fun i j hij => h.zero _ (by omega) (by have := pn_lt hij; omega) (by intro q hq; have := pn_lt hij; omega), fun p hp => h.one p hp,
    fun p hp => h.zero _ (by omega) (by omega) (by intro q hq; omega), fun p hp => h.zero _ (by omega) (by omega) (by intro q hq; omega)⟩
theorem Mk.next {cs : Array Value} {n i : Nat} (h : Mk cs n i) (hi : i < 4) : Mk (cs.setIfInBounds (21 + i * 3) (.int .i64 1)) n (i + 1) := by
  have hs := h.size
  refine ⟨by simpa using hs, by rw [set_off (by omega)]; exact h.num, fun q hq => ?_, fun k h1 h2 h3 => ?_⟩
  · by_cases e : q = i
    · subst e; rw [set_at (by omega)]
    · rw [set_off (by omega)]; exact h.one q (by omega)
  · rw [set_off (h3 i (by omega))]; exact h.zero k h1 h2 fun q hq => h3 q (by omega)
theorem Mk.start (n : Nat) : Mk (row (n :: List.replicate 32 0)) n 0 := by
  refine ⟨rfl, rfl, fun q hq => by omega, fun k h1 h2 _ => ?_⟩
  have : ∀ k, k < 32 → (List.replicate 32 (0 : Int))[k]? = some 0 := by decide
  obtain ⟨j, rfl⟩ : ∃ j, k = j + 1 := ⟨k - 1, by omega⟩
  exact row_get (by rw [List.getElem?_cons_succ]; exact this j (by omega))

set_option maxHeartbeats 4000000 in
theorem lnew_bad (n : Int) (h : ¬ (1 ≤ n ∧ n ≤ 4)) (w : World) : Calls Tryd.prog 4 #[.int .i64 n] w fun e w' => e = .returned (.tuple #[.pointer none, errV 40 1]) ∧ Below w.heap.size w w' := by
  by_cases h1 : n < 1
  · go_enter Tryd.func4, Tryd.ntmps4
    go_wp2
    go_ret2
    exact ⟨rfl, Below.refl _ _⟩
  · have h2 : 4 < n := by omega
    go_enter Tryd.func4, Tryd.ntmps4
    go_wp2
    go_ret2
    exact ⟨rfl, Below.refl _ _⟩

set_option maxHeartbeats 4000000 in
theorem lnew_any (n : Nat) (h1 : 1 ≤ n) (h4 : n ≤ 4) (w : World) : Calls Tryd.prog 4 #[.int .i64 n] w fun e w' => e = .returned (.tuple #[.pointer (some ⟨w.heap.size, 0, none⟩), .nilIface]) ∧ Lk w' w.heap.size n (lkNew n) ∧ Below w.heap.size w w' := by
  have h1I : ¬ (n : Int) < 1 := by omega
  have h4I : ¬ 4 < (n : Int) := by omega
  have HK := Lib.hid (Block.made w 48 (row (n :: List.replicate 32 0)))
  have HB := Lib.hid ((Below.refl w.heap.size w).alloc (Nat.le_refl _) (.cells (row (n :: List.replicate 32 0)) 48))
  go_enter Tryd.func4, Tryd.ntmps4
  go_wp2
  go_loopw [17] (fun i wr => ∃ (k : Nat) (cs : Array Value), k ≤ n ∧ i = .int .i64 k ∧ Block wr w.heap.size 48 cs ∧ Mk cs n k ∧ Below w.heap.size w wr) (fun i _ => n - (intOf i).toNat)
  case atStart => exact ⟨0, _, by omega, rfl, HK.out, Mk.start n, HB.out⟩
  case round =>
    clear HK HB
    obtain ⟨k, cs, hk, rfl, hB, hM, hbel⟩ := hrel
    by_cases hlt : k < n
    · have hI : (k : Int) < n := by omega
      have hI4 : (k : Int) < 4 := by omega
      have x0 := (hB.cell (21 + k * 3)).trans (hM.zero (21 + k * 3) (by omega) (by omega) (by intro q hq; omega))
      have f0 := hB.free (21 + k * 3)
      have H3 := Lib.hid (hB.put (21 + k * 3) (.int .i64 1))
      have HM := Lib.hid (hM.next (by omega))
      have HBB := Lib.hid (hbel.setCell (p := ⟨w.heap.size, 21 + k * 3, none⟩) (Nat.le_refl _) (.int .i64 1))
      clear hB hM hbel
      go_wp2
      go_roundw
      case rel => exact ⟨k + 1, _, by omega, by go_num, H3.out, HM.out, HBB.out⟩
      case measure => simp [intOf]; omega
    · obtain rfl : k = n := by omega
      have hI : ¬ (k : Int) < k := by omega
      go_wp2
      go_ret2
      exact ⟨rfl, ⟨_, hB, hM.done h4⟩, hbel⟩
end Go.Proofs.YthainkgpafbjcaaDoor.Split
