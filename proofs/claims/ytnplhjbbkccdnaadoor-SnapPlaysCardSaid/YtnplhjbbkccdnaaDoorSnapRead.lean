/-
  Package snap: a hand reads a word.
-/
import Derived.Test.YtnplhjbbkccdnaaDoorSnap
namespace Go.Proofs.YtnplhjbbkccdnaaDoor.Snap
open Go.RowKit
theorem isHand_any {g n : Nat} (p : Int) (w : World) (hc : w.cell? ⟨g, 0, none⟩ = some (.int .i64 n)) : Calls Tryd.prog 32 #[.pointer (some ⟨g, 0, none⟩), .int .i64 p] w fun e w' => e = .returned (.bool (decide (0 ≤ p ∧ p < n))) ∧ w = w' := by
  by_cases h0 : 0 ≤ p
  · by_cases h1 : p < n
    · rw [decide_eq_true (show 0 ≤ p ∧ p < n from ⟨h0, h1⟩)]
      go_enter Tryd.func32, Tryd.ntmps32
      go_wp2
      go_ret
      exact ⟨rfl, rfl⟩
    · rw [decide_eq_false (show ¬ (0 ≤ p ∧ p < n) from fun h => h1 h.2)]
      go_enter Tryd.func32, Tryd.ntmps32
      go_wp2
      go_ret
      exact ⟨rfl, rfl⟩
  · rw [decide_eq_false (show ¬ (0 ≤ p ∧ p < n) from fun h => h0 h.1)]
    go_enter Tryd.func32, Tryd.ntmps32
    go_wp2
    go_ret
    exact ⟨rfl, rfl⟩
/-- Where the next word is. -/
def nx (n k : Nat) : Nat := if k + 1 = n then 0 else k + 1
theorem nx_rem {n k : Nat} (h : k < n) : ((k : Int) + 1) % (n : Int) = ((nx n k : Nat) : Int) := by
  rw [show ((k : Int) + 1) = ((k + 1 : Nat) : Int) from rfl]
  unfold nx
  split
  · rename_i e; rw [e]; simp
  · rw [← Int.natCast_emod, Nat.mod_eq_of_lt (by omega)]
def six (w : World) (g o : Nat) (x : SW) : World := w.setCells g o (cW x)
theorem six_eq (w : World) (g o : Nat) (x : SW) : six w g o x = (((((w.setCell ⟨g, o, none⟩ (.int .i64 x.v)).setCell ⟨g, o + 1, none⟩ (.int .i64 x.t)).setCell ⟨g, o + 2, none⟩ (.int .i64 (x.s 0))).setCell ⟨g, o + 3, none⟩ (.int .i64 (x.s 1))).setCell ⟨g, o + 4, none⟩ (.int .i64 (x.s 2))).setCell ⟨g, o + 5, none⟩ (.int .i64 (x.s 3)) := rfl
set_option maxHeartbeats 4000000 in
theorem read_any {g n o : Nat} {v : SS} (w : World) (hk : Lk w g n v) (hn : n ≤ 4) {p : Nat} (hp : p < 4) (hkn : (v.h p).k < n) (ho : o + 24 ≤ 60) (ho4 : 4 ≤ o) :
    Calls Tryd.prog 33 #[.pointer (some ⟨g, 0, none⟩), .pointer (some ⟨g, 25 + p * 60, none⟩), .pointer (some ⟨g, 25 + p * 60 + o, none⟩)] w fun e w' =>
      e = .returned (.bool (decide ((v.h p).k + 1 = n))) ∧ ∃ i, w' = ((six w g (25 + p * 60 + o + (v.h p).k * 6) (v.wd (v.h p).k)).setCell ⟨g, 25 + p * 60 + 3, none⟩ (.int .i64 (nx n (v.h p).k))).drewN i := by
  have hck : w.cell? ⟨g, 25 + p * 60 + 3, none⟩ = some (.int .i64 (v.h p).k) := hk.hat hp (i := 3) (by omega)
  have hcn := hk.num
  have hk4 : (v.h p).k < 4 := by omega
  have hw : ∀ j, j < 6 → w.cell? ⟨g, 1 + (v.h p).k * 6 + j, none⟩ = some (wc (v.wd (v.h p).k) j) := fun j hj => hk.wat hk4 hj
  have hi : ∀ j, j < 6 → ∃ u, w.cell? ⟨g, 25 + p * 60 + o + (v.h p).k * 6 + j, none⟩ = some u := fun j hj => by
    have := hk.hat hp (i := o + (v.h p).k * 6 + j) (by omega)
    rw [show 25 + p * 60 + (o + (v.h p).k * 6 + j) = 25 + p * 60 + o + (v.h p).k * 6 + j by omega] at this
    exact ⟨_, this⟩
  have hf : ∀ i, w.frozen? ⟨g, i, none⟩ = false := hk.free
  have hr := nx_rem hkn
  have hb : decide ((v.h p).k + 1 = n) = (((nx n (v.h p).k : Nat) : Int) == 0) := by
    unfold nx
    by_cases e : (v.h p).k + 1 = n
    · simp [e]
    · simp [e]; omega
  rw [hb]
  have HR := Lib.hid hr
  clear hr
  have hnx : nx n (v.h p).k < 4 := by unfold nx; split <;> omega
  clear hb
  generalize hX : v.wd (v.h p).k = X at *
  generalize nx n (v.h p).k = N at *
  generalize (v.h p).k = K at *
  clear hX
  have c0 : w.cell? ⟨g, 1 + K * 6, none⟩ = some (.int .i64 X.v) := hw 0 (by omega)
  have c1 : w.cell? ⟨g, 1 + K * 6 + 1, none⟩ = some (.int .i64 X.t) := hw 1 (by omega)
  have c2 : w.cell? ⟨g, 1 + K * 6 + 2, none⟩ = some (.int .i64 (X.s 0)) := hw 2 (by omega)
  have c3 : w.cell? ⟨g, 1 + K * 6 + 3, none⟩ = some (.int .i64 (X.s 1)) := hw 3 (by omega)
  have c4 : w.cell? ⟨g, 1 + K * 6 + 4, none⟩ = some (.int .i64 (X.s 2)) := hw 4 (by omega)
  have c5 : w.cell? ⟨g, 1 + K * 6 + 5, none⟩ = some (.int .i64 (X.s 3)) := hw 5 (by omega)
  obtain ⟨u0, d0⟩ := hi 0 (by omega)
  obtain ⟨u1, d1⟩ := hi 1 (by omega)
  obtain ⟨u2, d2⟩ := hi 2 (by omega)
  obtain ⟨u3, d3⟩ := hi 3 (by omega)
  obtain ⟨u4, d4⟩ := hi 4 (by omega)
  obtain ⟨u5, d5⟩ := hi 5 (by omega)
  rw [Nat.add_zero] at d0
  have f0 := hf (25 + p * 60 + o + K * 6)
  have f1 := hf (25 + p * 60 + o + K * 6 + 1)
  have f2 := hf (25 + p * 60 + o + K * 6 + 2)
  have f3 := hf (25 + p * 60 + o + K * 6 + 3)
  have f4 := hf (25 + p * 60 + o + K * 6 + 4)
  have f5 := hf (25 + p * 60 + o + K * 6 + 5)
  have fk := hf (25 + p * 60 + 3)
  have hKI : (K : Int) < 4 := by omega
  have hwr : IntKind.i64.wrap ((K : Int) + 1) = ((K + 1 : Nat) : Int) := (IntWalk.i64_in _ (by omega)).trans (by omega)
  have hn0 : ((n : Int) == 0) = false := by simp; omega
  have hwN : IntKind.i64.wrap ((N : Nat) : Int) = ((N : Nat) : Int) := IntWalk.i64_in _ (by omega)
  have hout : ∀ j, j < 25 + p * 60 + o + K * 6 → (six w g (25 + p * 60 + o + K * 6) X).cell? ⟨g, j, none⟩ = w.cell? ⟨g, j, none⟩ := fun j hj =>
    World.cell?_setCells_out g (cW X) _ w _ fun _ _ => Or.inl hj
  have HS := Lib.hid (show w.drew.cell? ⟨g, 25 + p * 60 + 3, none⟩ = some (.int .i64 K) ∧ w.drew.cell? ⟨g, 1 + K * 6, none⟩ = some (.int .i64 X.v) ∧ w.drew.cell? ⟨g, 1 + K * 6 + 1, none⟩ = some (.int .i64 X.t) ∧ w.drew.cell? ⟨g, 1 + K * 6 + 2, none⟩ = some (.int .i64 (X.s 0)) ∧ w.drew.cell? ⟨g, 1 + K * 6 + 3, none⟩ = some (.int .i64 (X.s 1)) ∧ w.drew.cell? ⟨g, 1 + K * 6 + 4, none⟩ = some (.int .i64 (X.s 2)) ∧ w.drew.cell? ⟨g, 1 + K * 6 + 5, none⟩ = some (.int .i64 (X.s 3)) from ⟨hck, c0, c1, c2, c3, c4, c5⟩)
  have hT0 : (six w g (25 + p * 60 + o + K * 6) X).cell? ⟨g, 25 + p * 60 + 3, none⟩ = some (.int .i64 K) ∧ (six w g (25 + p * 60 + o + K * 6) X).cell? ⟨g, 1 + K * 6, none⟩ = some (.int .i64 X.v) ∧ (six w g (25 + p * 60 + o + K * 6) X).cell? ⟨g, 1 + K * 6 + 1, none⟩ = some (.int .i64 X.t) ∧ (six w g (25 + p * 60 + o + K * 6) X).cell? ⟨g, 1 + K * 6 + 2, none⟩ = some (.int .i64 (X.s 0)) ∧ (six w g (25 + p * 60 + o + K * 6) X).cell? ⟨g, 1 + K * 6 + 3, none⟩ = some (.int .i64 (X.s 1)) ∧ (six w g (25 + p * 60 + o + K * 6) X).cell? ⟨g, 1 + K * 6 + 4, none⟩ = some (.int .i64 (X.s 2)) ∧ (six w g (25 + p * 60 + o + K * 6) X).cell? ⟨g, 1 + K * 6 + 5, none⟩ = some (.int .i64 (X.s 3)) :=
    ⟨(hout _ (by omega)).trans hck, (hout _ (by omega)).trans c0, (hout _ (by omega)).trans c1, (hout _ (by omega)).trans c2, (hout _ (by omega)).trans c3, (hout _ (by omega)).trans c4, (hout _ (by omega)).trans c5⟩
  have hT : (six w g (25 + p * 60 + o + K * 6) X).drew.cell? ⟨g, 25 + p * 60 + 3, none⟩ = some (.int .i64 K) ∧ (six w g (25 + p * 60 + o + K * 6) X).drew.cell? ⟨g, 1 + K * 6, none⟩ = some (.int .i64 X.v) ∧ (six w g (25 + p * 60 + o + K * 6) X).drew.cell? ⟨g, 1 + K * 6 + 1, none⟩ = some (.int .i64 X.t) ∧ (six w g (25 + p * 60 + o + K * 6) X).drew.cell? ⟨g, 1 + K * 6 + 2, none⟩ = some (.int .i64 (X.s 0)) ∧ (six w g (25 + p * 60 + o + K * 6) X).drew.cell? ⟨g, 1 + K * 6 + 3, none⟩ = some (.int .i64 (X.s 1)) ∧ (six w g (25 + p * 60 + o + K * 6) X).drew.cell? ⟨g, 1 + K * 6 + 4, none⟩ = some (.int .i64 (X.s 2)) ∧ (six w g (25 + p * 60 + o + K * 6) X).drew.cell? ⟨g, 1 + K * 6 + 5, none⟩ = some (.int .i64 (X.s 3)) := by
    simp only [World.cell?_drew]
    exact hT0
  have hn6 : (six w g (25 + p * 60 + o + K * 6) X).cell? ⟨g, 0, none⟩ = some (.int .i64 n) := (hout _ (by omega)).trans hcn
  have hf6 : (six w g (25 + p * 60 + o + K * 6) X).frozen? ⟨g, 25 + p * 60 + 3, none⟩ = false := (World.frozen?_setCells _ _ _ _ _).trans fk
  have hV0 := six_eq w g (25 + p * 60 + o + K * 6) X
  obtain ⟨V, hV⟩ : ∃ V, V = six w g (25 + p * 60 + o + K * 6) X := ⟨_, rfl⟩
  rw [← hV] at hT0 hn6 hf6 hV0 ⊢
  rw [six_eq] at hT
  have HV := Lib.hid hV0.symm
  clear hV hV0
  have HT := Lib.hid hT
  have HN6 := Lib.hid hn6
  have HK6 := Lib.hid hT0.1
  have HF6 := Lib.hid hf6
  clear hw hi hf hk hn hk4 hout hn6 hT hf6 hT0
  go_enter Tryd.func33, Tryd.ntmps33
  go_wp2_with fail
  go_region_held3 (fun W : World => W.cell? ⟨g, 25 + p * 60 + 3, none⟩ = some (.int .i64 K) ∧ W.cell? ⟨g, 1 + K * 6, none⟩ = some (.int .i64 X.v) ∧ W.cell? ⟨g, 1 + K * 6 + 1, none⟩ = some (.int .i64 X.t) ∧ W.cell? ⟨g, 1 + K * 6 + 2, none⟩ = some (.int .i64 (X.s 0)) ∧ W.cell? ⟨g, 1 + K * 6 + 3, none⟩ = some (.int .i64 (X.s 1)) ∧ W.cell? ⟨g, 1 + K * 6 + 4, none⟩ = some (.int .i64 (X.s 2)) ∧ W.cell? ⟨g, 1 + K * 6 + 5, none⟩ = some (.int .i64 (X.s 3))) (first | (with_reducible exact HS.out) | (with_reducible exact HT.out)) (fail)
  all_goals
    rw [HV.out]
    have hn6 := HN6.out
    have hf6 := HF6.out
    have hk6 := HK6.out
    go_wp2_with fail
    go_region_with fail
    all_goals
      go_wp2_with fail
      go_ret
      rw [HR.out]
      exact ⟨rfl, 2, rfl⟩
end Go.Proofs.YtnplhjbbkccdnaaDoor.Snap
