/-
  Package deque: the lines.
-/
import Derived.Test.YtbicckeoidijpaaDeque
namespace Go.Proofs.Ytbicckeoidijpaa.Dq
open Go.RowKit

theorem rput_twice {α : Type} (f : Nat → α) (i : Nat) (x y : α) : rput (rput f i x) i y = rput f i y := funext fun j => by
  by_cases e : j = i
  · rw [e, rput_same, rput_same]
  · rw [rput_other e, rput_other e, rput_other e]
theorem rem_eight (k : Nat) : (k : Int).tmod 8 = ((k % 8 : Nat) : Int) := (Int.ofNat_tmod k 8).symm
/-- Top is raised, if it is as it was seen. -/
def kraise (v : DV) (s : Nat) : DV := if v.T = s then { v with T := s + 1 } else v
section
variable {g n : Nat} {v : DV}
set_option maxHeartbeats 2000000 in
theorem place_any (w : World) (k : Nat) (_hk : k ≤ 2000000) : Calls Try.prog 23 #[.pointer (some ⟨g, 0, none⟩), .int .i64 (k : Int)] w fun e w' => e = .returned (.pointer (some ⟨g, 1 + k % 8, none⟩)) ∧ w = w' := by
  obtain ⟨m, hm⟩ : ∃ m, m = k % 8 := ⟨_, rfl⟩
  have hm8 : m < 8 := by omega
  have hr : (k : Int).tmod 8 = (m : Int) := by rw [hm]; exact rem_eight k
  have hw : IntKind.i64.wrap (m : Int) = (m : Int) := IntWalk.i64_in _ (by omega)
  have hm8I : (m : Int) < 8 := by omega
  rw [← hm]
  clear hm _hk
  go_enter Try.func23, Try.ntmps23
  go_wp2
  go_ret
  exact ⟨rfl, rfl⟩
set_option maxHeartbeats 2000000 in
theorem raise_any (w : World) (hk : Lk w g n v) (s : Nat) (hT : v.T ≤ 1000000) : Calls Try.prog 24 #[.pointer (some ⟨g, 0, none⟩), .int .i64 (s : Int)] w fun e w' => e = .returned (.bool (decide (v.T = s))) ∧ Lk w' g n (kraise v s) ∧ Touch (fun k => k = g) w w' := by
  have c1 := hk.xT
  have f1 := hk.free 9
  by_cases h : v.T = s
  · rw [decide_eq_true h]
    have hw : IntKind.i64.wrap ((s : Int) + 1) = ((s + 1 : Nat) : Int) := (IntWalk.i64_in _ (by omega)).trans (by omega)
    have H1 := Lib.hid (show Lk _ g n (kraise v s) from by rw [kraise, if_pos h]; exact hk.setT (s + 1))
    rw [h] at c1
    clear hk h
    generalize ((s + 1 : Nat) : Int) = m at hw H1
    go_enter Try.func24, Try.ntmps24
    go_wp2
    go_ret
    exact ⟨rfl, H1.out, ((Touch.refl (fun k => k = g) w).setCell (Or.inl rfl) _)⟩
  · rw [decide_eq_false h]
    have hb : ((v.T : Int) != (s : Int)) = true := by simp; omega
    have H1 := Lib.hid (show Lk w g n (kraise v s) from by rw [kraise, if_neg h]; exact hk)
    clear hk h hT
    go_enter Try.func24, Try.ntmps24
    go_wp2
    go_ret
    exact ⟨rfl, H1.out, Touch.refl _ _⟩
set_option maxHeartbeats 4000000 in
theorem p1y_any (w : World) (hk : Lk w g n v) {p : Nat} (hp : p < 4) (ha : v.a p = 1) (hT : v.T ≤ 1000000) (hB : -1000000 ≤ v.B ∧ v.B ≤ 1001000) (hf : (v.T : Int) + 8 ≤ v.B) :
    Calls Try.prog 22 #[.pointer (some ⟨g, 0, none⟩), .pointer (some ⟨g, 11 + p * 4, none⟩)] w fun e w' => e = .returned (.tuple #[.bool true, .int .i64 (-2)]) ∧ Lk w' g n (v) ∧ Touch (fun k => k = g) w w' := by
  have g1 := hk.xa hp
  have g2 := hk.xt hp
  have g3 := hk.xb hp
  have g4 := hk.xv hp
  have f1 := hk.free (11 + p * 4)
  have f2 := hk.free (11 + p * 4 + 1)
  have f3 := hk.free (11 + p * 4 + 2)
  have f4 := hk.free (11 + p * 4 + 3)
  have c1 := hk.xT
  have c2 := hk.xB
  have f9 := hk.free 9
  have f10 := hk.free 10
  rw [ha] at g1
  obtain ⟨d, hd⟩ : ∃ d, d = v.B - (v.T : Int) := ⟨_, rfl⟩
  have hw : IntKind.i64.wrap (v.B - (v.T : Int)) = d := by rw [hd]; exact IntWalk.i64_in _ (by omega)
  have h8 : 8 ≤ d := by omega
  have h8d : decide (8 ≤ d) = true := decide_eq_true h8
  have H3 := Lib.hid (show Lk _ g n (v) from hk)
  clear hk ha hd hf hT hB
  go_enter Try.func22, Try.ntmps22
  go_wp2_with fail
  go_quiet (fail)
  go_wp2
  go_ret2
  exact ⟨rfl, H3.out.drewN _, (Touch.refl (fun k => k = g) w).drewN _⟩
set_option maxHeartbeats 4000000 in
theorem p1n_any (w : World) (hk : Lk w g n v) {p : Nat} (hp : p < 4) (ha : v.a p = 1) (hT : v.T ≤ 1000000) (hB : -1000000 ≤ v.B ∧ v.B ≤ 1001000) (hf : ¬ (v.T : Int) + 8 ≤ v.B) :
    Calls Try.prog 22 #[.pointer (some ⟨g, 0, none⟩), .pointer (some ⟨g, 11 + p * 4, none⟩)] w fun e w' => e = .returned (.tuple #[.bool false, .int .i64 (0)]) ∧ Lk w' g n (dvto v p 2) ∧ Touch (fun k => k = g) w w' := by
  have g1 := hk.xa hp
  have g2 := hk.xt hp
  have g3 := hk.xb hp
  have g4 := hk.xv hp
  have f1 := hk.free (11 + p * 4)
  have f2 := hk.free (11 + p * 4 + 1)
  have f3 := hk.free (11 + p * 4 + 2)
  have f4 := hk.free (11 + p * 4 + 3)
  have c1 := hk.xT
  have c2 := hk.xB
  have f9 := hk.free 9
  have f10 := hk.free 10
  rw [ha] at g1
  obtain ⟨d, hd⟩ : ∃ d, d = v.B - (v.T : Int) := ⟨_, rfl⟩
  have hw : IntKind.i64.wrap (v.B - (v.T : Int)) = d := by rw [hd]; exact IntWalk.i64_in _ (by omega)
  have h8 : ¬ 8 ≤ d := by omega
  have h8d : decide (8 ≤ d) = false := decide_eq_false h8
  have H3 := Lib.hid (show Lk _ g n (dvto v p 2) from (hk.setA hp 2))
  clear hk ha hd hf hT hB
  go_enter Try.func22, Try.ntmps22
  go_wp2_with fail
  go_quiet (fail)
  go_wp2
  go_ret2
  exact ⟨rfl, H3.out, (((Touch.refl (fun k => k = g) w).drewN _).setCell (Or.inl rfl) _)⟩
set_option maxHeartbeats 4000000 in
theorem p2_any (w : World) (hk : Lk w g n v) {p : Nat} (hp : p < 4) (ha : v.a p = 2) {b : Nat} (hb : v.B = b) (hb2 : b ≤ 2000000) :
    Calls Try.prog 22 #[.pointer (some ⟨g, 0, none⟩), .pointer (some ⟨g, 11 + p * 4, none⟩)] w fun e w' => e = .returned (.tuple #[.bool false, .int .i64 (0)]) ∧ Lk w' g n (dvto { v with pl := dput v.pl (b % 8) (v.v p) } p 3) ∧ Touch (fun k => k = g) w w' := by
  have g1 := hk.xa hp
  have g2 := hk.xt hp
  have g3 := hk.xb hp
  have g4 := hk.xv hp
  have f1 := hk.free (11 + p * 4)
  have f2 := hk.free (11 + p * 4 + 1)
  have f3 := hk.free (11 + p * 4 + 2)
  have f4 := hk.free (11 + p * 4 + 3)
  have c1 := hk.xT
  have c2 := hk.xB
  have f9 := hk.free 9
  have f10 := hk.free 10
  rw [ha] at g1
  rw [hb] at c2
  obtain ⟨m, hm⟩ : ∃ m, m = b % 8 := ⟨_, rfl⟩
  have hm8 : m < 8 := by omega
  have HC := Lib.hid (fun W => place_any (g := g) W b hb2)
  rw [← hm] at HC ⊢
  have q1 := hk.xpl hm8
  have f7 := hk.free (1 + m)
  have HS := Lib.hid (show (fun W : World => W.cell? ⟨g, 10, none⟩ = some (.int .i64 (b : Int)) ∧ W.cell? ⟨g, 11 + p * 4 + 3, none⟩ = some (.int .i64 (v.v p))) w.drew from ⟨c2, g4⟩)
  have HS2 := Lib.hid (show (fun W : World => W.cell? ⟨g, 10, none⟩ = some (.int .i64 (b : Int)) ∧ W.cell? ⟨g, 11 + p * 4 + 3, none⟩ = some (.int .i64 (v.v p))) (w.setCell ⟨g, 1 + m, none⟩ (.int .i64 (v.v p))).drew from ⟨by have h := (hk.setPl hm8 (v.v p)).drew.xB; rwa [show (putPl v m (v.v p)).B = (b : Int) from hb] at h, (hk.setPl hm8 (v.v p)).drew.xv hp⟩)
  have H3 := Lib.hid (show Lk _ g n (dvto { v with pl := dput v.pl m (v.v p) } p 3) from ((hk.setPl hm8 (v.v p)).setA hp 3))
  clear hk ha hb hb2 hm
  go_enter Try.func22, Try.ntmps22
  go_wp2_with fail
  go_region_held3 (fun W : World => W.cell? ⟨g, 10, none⟩ = some (.int .i64 (b : Int)) ∧ W.cell? ⟨g, 11 + p * 4 + 3, none⟩ = some (.int .i64 (v.v p))) (first | exact HS.out | exact HS2.out) ((go_at_call 23; (with_reducible refine (HC.out _).mono ?_); rintro e w2 ⟨rfl, rfl⟩))
  all_goals
    go_wp2
    go_ret2
    exact ⟨rfl, H3.out.drew, ((((Touch.refl (fun k => k = g) w).drew).setCell (Or.inl rfl) _).setCell (Or.inl rfl) _)⟩
set_option maxHeartbeats 4000000 in
theorem p3_any (w : World) (hk : Lk w g n v) {p : Nat} (hp : p < 4) (ha : v.a p = 3) (hB : -1000000 ≤ v.B ∧ v.B ≤ 1001000) :
    Calls Try.prog 22 #[.pointer (some ⟨g, 0, none⟩), .pointer (some ⟨g, 11 + p * 4, none⟩)] w fun e w' => e = .returned (.tuple #[.bool true, .int .i64 (-1)]) ∧ Lk w' g n ({ v with B := v.B + 1 }) ∧ Touch (fun k => k = g) w w' := by
  have g1 := hk.xa hp
  have g2 := hk.xt hp
  have g3 := hk.xb hp
  have g4 := hk.xv hp
  have f1 := hk.free (11 + p * 4)
  have f2 := hk.free (11 + p * 4 + 1)
  have f3 := hk.free (11 + p * 4 + 2)
  have f4 := hk.free (11 + p * 4 + 3)
  have c1 := hk.xT
  have c2 := hk.xB
  have f9 := hk.free 9
  have f10 := hk.free 10
  rw [ha] at g1
  obtain ⟨m, hm⟩ : ∃ m, m = v.B + 1 := ⟨_, rfl⟩
  have hw : IntKind.i64.wrap (v.B + 1) = m := by rw [hm]; exact IntWalk.i64_in _ (by omega)
  rw [← hm]
  have H3 := Lib.hid (show Lk _ g n ({ v with B := m }) from (hk.setB m))
  clear hk ha hm hB
  go_enter Try.func22, Try.ntmps22
  go_wp2
  go_ret2
  exact ⟨rfl, H3.out, ((Touch.refl (fun k => k = g) w).setCell (Or.inl rfl) _)⟩
set_option maxHeartbeats 4000000 in
theorem p4_any (w : World) (hk : Lk w g n v) {p : Nat} (hp : p < 4) (ha : v.a p = 4) (hB : -1000000 ≤ v.B ∧ v.B ≤ 1001000) :
    Calls Try.prog 21 #[.pointer (some ⟨g, 0, none⟩), .pointer (some ⟨g, 11 + p * 4, none⟩)] w fun e w' => e = .returned (.tuple #[.bool false, .int .i64 (0)]) ∧ Lk w' g n (dvto { v with B := v.B - 1, b := dput v.b p (v.B - 1) } p 5) ∧ Touch (fun k => k = g) w w' := by
  have g1 := hk.xa hp
  have g2 := hk.xt hp
  have g3 := hk.xb hp
  have g4 := hk.xv hp
  have f1 := hk.free (11 + p * 4)
  have f2 := hk.free (11 + p * 4 + 1)
  have f3 := hk.free (11 + p * 4 + 2)
  have f4 := hk.free (11 + p * 4 + 3)
  have c1 := hk.xT
  have c2 := hk.xB
  have f9 := hk.free 9
  have f10 := hk.free 10
  rw [ha] at g1
  obtain ⟨m, hm⟩ : ∃ m, m = v.B - 1 := ⟨_, rfl⟩
  have hw : IntKind.i64.wrap (v.B - 1) = m := by rw [hm]; exact IntWalk.i64_in _ (by omega)
  rw [← hm]
  have H3 := Lib.hid (show Lk _ g n (dvto { v with B := m, b := dput v.b p m } p 5) from (((hk.setB m).setBb hp m).setA hp 5))
  clear hk ha hm hB
  go_enter Try.func21, Try.ntmps21
  go_wp2
  go_ret2
  exact ⟨rfl, H3.out, ((((Touch.refl (fun k => k = g) w).setCell (Or.inl rfl) _).setCell (Or.inl rfl) _).setCell (Or.inl rfl) _)⟩
set_option maxHeartbeats 4000000 in
theorem p5y_any (w : World) (hk : Lk w g n v) {p : Nat} (hp : p < 4) (ha : v.a p = 5) {b : Nat} (hb : v.b p = b) (hb2 : b ≤ 2000000) (hf : (v.T : Int) < (b : Int)) :
    Calls Try.prog 21 #[.pointer (some ⟨g, 0, none⟩), .pointer (some ⟨g, 11 + p * 4, none⟩)] w fun e w' => e = .returned (.tuple #[.bool true, .int .i64 (v.pl (b % 8))]) ∧ Lk w' g n ({ v with t := dput v.t p v.T }) ∧ Touch (fun k => k = g) w w' := by
  have g1 := hk.xa hp
  have g2 := hk.xt hp
  have g3 := hk.xb hp
  have g4 := hk.xv hp
  have f1 := hk.free (11 + p * 4)
  have f2 := hk.free (11 + p * 4 + 1)
  have f3 := hk.free (11 + p * 4 + 2)
  have f4 := hk.free (11 + p * 4 + 3)
  have c1 := hk.xT
  have c2 := hk.xB
  have f9 := hk.free 9
  have f10 := hk.free 10
  rw [ha] at g1
  rw [hb] at g3
  obtain ⟨m, hm⟩ : ∃ m, m = b % 8 := ⟨_, rfl⟩
  have hm8 : m < 8 := by omega
  have HC := Lib.hid (fun W => place_any (g := g) W b hb2)
  rw [← hm] at HC ⊢
  have q1 := hk.xpl hm8
  have hfd : decide ((v.T : Int) < (b : Int)) = true := decide_eq_true hf
  have hfN : v.T < b := by omega
  have hfNd : decide (v.T < b) = true := decide_eq_true hfN
  have H3 := Lib.hid (show Lk _ g n ({ v with t := dput v.t p v.T }) from (hk.setTt hp v.T))
  clear hk ha hb hb2 hm
  go_enter Try.func21, Try.ntmps21
  go_wp2_with fail
  go_quiet (fail)
  go_wp2_with fail
  go_region_with (go_at_call 23; (with_reducible refine (HC.out _).mono ?_); rintro e w2 ⟨rfl, rfl⟩)
  all_goals
    go_wp2
    go_ret2
    exact ⟨rfl, (H3.out.drewN _).drew, (((Touch.refl (fun k => k = g) w).setCell (Or.inl rfl) _).drewN _).drew⟩
set_option maxHeartbeats 4000000 in
theorem p5e_any (w : World) (hk : Lk w g n v) {p : Nat} (hp : p < 4) (ha : v.a p = 5) (hf : v.b p = (v.T : Int)) :
    Calls Try.prog 21 #[.pointer (some ⟨g, 0, none⟩), .pointer (some ⟨g, 11 + p * 4, none⟩)] w fun e w' => e = .returned (.tuple #[.bool false, .int .i64 (0)]) ∧ Lk w' g n (dvto { v with t := dput v.t p v.T } p 7) ∧ Touch (fun k => k = g) w w' := by
  have g1 := hk.xa hp
  have g2 := hk.xt hp
  have g3 := hk.xb hp
  have g4 := hk.xv hp
  have f1 := hk.free (11 + p * 4)
  have f2 := hk.free (11 + p * 4 + 1)
  have f3 := hk.free (11 + p * 4 + 2)
  have f4 := hk.free (11 + p * 4 + 3)
  have c1 := hk.xT
  have c2 := hk.xB
  have f9 := hk.free 9
  have f10 := hk.free 10
  rw [ha] at g1
  obtain ⟨z, hz⟩ : ∃ z, z = v.b p := ⟨_, rfl⟩
  rw [← hz] at g3 hf
  have k1 : ¬ (v.T : Int) < z := by omega
  have k1d : decide ((v.T : Int) < z) = false := decide_eq_false k1
  have k2 : (z == (v.T : Int)) = true := by simp; omega
  have H3 := Lib.hid (show Lk _ g n (dvto { v with t := dput v.t p v.T } p 7) from ((hk.setTt hp v.T).setA hp 7))
  clear hk ha hz hf
  go_enter Try.func21, Try.ntmps21
  go_wp2_with fail
  go_quiet (fail)
  go_wp2_with fail
  go_quiet (fail)
  go_wp2
  go_ret2
  exact ⟨rfl, H3.out, ((((Touch.refl (fun k => k = g) w).setCell (Or.inl rfl) _).drewN _).setCell (Or.inl rfl) _)⟩
set_option maxHeartbeats 4000000 in
theorem p5n_any (w : World) (hk : Lk w g n v) {p : Nat} (hp : p < 4) (ha : v.a p = 5) (hf : v.b p < (v.T : Int)) :
    Calls Try.prog 21 #[.pointer (some ⟨g, 0, none⟩), .pointer (some ⟨g, 11 + p * 4, none⟩)] w fun e w' => e = .returned (.tuple #[.bool false, .int .i64 (0)]) ∧ Lk w' g n (dvto { v with t := dput v.t p v.T } p 6) ∧ Touch (fun k => k = g) w w' := by
  have g1 := hk.xa hp
  have g2 := hk.xt hp
  have g3 := hk.xb hp
  have g4 := hk.xv hp
  have f1 := hk.free (11 + p * 4)
  have f2 := hk.free (11 + p * 4 + 1)
  have f3 := hk.free (11 + p * 4 + 2)
  have f4 := hk.free (11 + p * 4 + 3)
  have c1 := hk.xT
  have c2 := hk.xB
  have f9 := hk.free 9
  have f10 := hk.free 10
  rw [ha] at g1
  obtain ⟨z, hz⟩ : ∃ z, z = v.b p := ⟨_, rfl⟩
  rw [← hz] at g3 hf
  have k1 : ¬ (v.T : Int) < z := by omega
  have k1d : decide ((v.T : Int) < z) = false := decide_eq_false k1
  have k2 : (z == (v.T : Int)) = false := by simp; omega
  have H3 := Lib.hid (show Lk _ g n (dvto { v with t := dput v.t p v.T } p 6) from ((hk.setTt hp v.T).setA hp 6))
  clear hk ha hz hf
  go_enter Try.func21, Try.ntmps21
  go_wp2_with fail
  go_quiet (fail)
  go_wp2_with fail
  go_quiet (fail)
  go_wp2
  go_ret2
  exact ⟨rfl, H3.out, ((((Touch.refl (fun k => k = g) w).setCell (Or.inl rfl) _).drewN _).setCell (Or.inl rfl) _)⟩
set_option maxHeartbeats 4000000 in
theorem p6_any (w : World) (hk : Lk w g n v) {p : Nat} (hp : p < 4) (ha : v.a p = 6) :
    Calls Try.prog 21 #[.pointer (some ⟨g, 0, none⟩), .pointer (some ⟨g, 11 + p * 4, none⟩)] w fun e w' => e = .returned (.tuple #[.bool true, .int .i64 (-1)]) ∧ Lk w' g n ({ v with B := v.t p }) ∧ Touch (fun k => k = g) w w' := by
  have g1 := hk.xa hp
  have g2 := hk.xt hp
  have g3 := hk.xb hp
  have g4 := hk.xv hp
  have f1 := hk.free (11 + p * 4)
  have f2 := hk.free (11 + p * 4 + 1)
  have f3 := hk.free (11 + p * 4 + 2)
  have f4 := hk.free (11 + p * 4 + 3)
  have c1 := hk.xT
  have c2 := hk.xB
  have f9 := hk.free 9
  have f10 := hk.free 10
  rw [ha] at g1
  have H3 := Lib.hid (show Lk _ g n ({ v with B := v.t p }) from (hk.setB (v.t p)))
  clear hk ha
  go_enter Try.func21, Try.ntmps21
  go_wp2
  go_ret2
  exact ⟨rfl, H3.out, ((Touch.refl (fun k => k = g) w).setCell (Or.inl rfl) _)⟩
set_option maxHeartbeats 4000000 in
theorem p7n_any (w : World) (hk : Lk w g n v) {p : Nat} (hp : p < 4) (ha : v.a p = 7) (hT : v.T ≤ 1000000) (hf : ¬ v.T = v.t p) :
    Calls Try.prog 21 #[.pointer (some ⟨g, 0, none⟩), .pointer (some ⟨g, 11 + p * 4, none⟩)] w fun e w' => e = .returned (.tuple #[.bool false, .int .i64 (0)]) ∧ Lk w' g n (dvto { v with v := dput v.v p (-1) } p 8) ∧ Touch (fun k => k = g) w w' := by
  have g1 := hk.xa hp
  have g2 := hk.xt hp
  have g3 := hk.xb hp
  have g4 := hk.xv hp
  have f1 := hk.free (11 + p * 4)
  have f2 := hk.free (11 + p * 4 + 1)
  have f3 := hk.free (11 + p * 4 + 2)
  have f4 := hk.free (11 + p * 4 + 3)
  have c1 := hk.xT
  have c2 := hk.xB
  have f9 := hk.free 9
  have f10 := hk.free 10
  rw [ha] at g1
  have HC := Lib.hid (raise_any _ (hk.setV hp (-1)) (v.t p) hT)
  rw [show decide ((putV v p (-1)).T = v.t p) = false from decide_eq_false hf, show kraise (putV v p (-1)) (v.t p) = putV v p (-1) from if_neg hf] at HC
  clear hk ha hT hf
  go_enter Try.func21, Try.ntmps21
  go_wp2_with (go_at_call 24; (with_reducible refine HC.out.mono ?_); rintro e w2 ⟨rfl, hk2, ht2⟩; have HK2 := Lib.hid hk2; have HT2 := Lib.hid ht2; have g1 := hk2.xa hp; have f1 := hk2.free (11 + p * 4); clear hk2 ht2)
  have H3 := Lib.hid (show Lk _ g n (dvto { v with v := dput v.v p (-1) } p 8) from HK2.out.setA hp 8)
  go_ret2
  exact ⟨rfl, H3.out, ((((Touch.refl (fun k => k = g) w).setCell (Or.inl rfl) _).trans HT2.out fun _ h => Or.inl h).setCell (Or.inl rfl) _)⟩
set_option maxHeartbeats 4000000 in
theorem p7y_any (w : World) (hk : Lk w g n v) {p : Nat} (hp : p < 4) (ha : v.a p = 7) (hT : v.T ≤ 1000000) (hf : v.T = v.t p) {b : Nat} (hb : v.b p = b) (hb2 : b ≤ 2000000) :
    Calls Try.prog 21 #[.pointer (some ⟨g, 0, none⟩), .pointer (some ⟨g, 11 + p * 4, none⟩)] w fun e w' => e = .returned (.tuple #[.bool false, .int .i64 (0)]) ∧ Lk w' g n (dvto { v with T := v.t p + 1, v := dput v.v p (v.pl (b % 8)) } p 8) ∧ Touch (fun k => k = g) w w' := by
  have g1 := hk.xa hp
  have g2 := hk.xt hp
  have g3 := hk.xb hp
  have g4 := hk.xv hp
  have f1 := hk.free (11 + p * 4)
  have f2 := hk.free (11 + p * 4 + 1)
  have f3 := hk.free (11 + p * 4 + 2)
  have f4 := hk.free (11 + p * 4 + 3)
  have c1 := hk.xT
  have c2 := hk.xB
  have f9 := hk.free 9
  have f10 := hk.free 10
  rw [ha] at g1
  obtain ⟨m, hm⟩ : ∃ m, m = b % 8 := ⟨_, rfl⟩
  have hm8 : m < 8 := by omega
  have HP := Lib.hid (fun W => place_any (g := g) W b hb2)
  rw [← hm] at HP ⊢
  have HC := Lib.hid (raise_any _ (hk.setV hp (-1)) (v.t p) hT)
  rw [show decide ((putV v p (-1)).T = v.t p) = true from decide_eq_true hf, show kraise (putV v p (-1)) (v.t p) = { putV v p (-1) with T := v.t p + 1 } from if_pos hf] at HC
  have HB := Lib.hid hb
  clear hk ha hT hf hb hb2 hm
  go_enter Try.func21, Try.ntmps21
  go_wp2_with (first | (go_at_call 24; (with_reducible refine HC.out.mono ?_); rintro e w2 ⟨rfl, hk2, ht2⟩; have HK2 := Lib.hid hk2; have HT2 := Lib.hid ht2; have g1 := hk2.xa hp; have g3 := hk2.xb hp; rw [show ({ putV v p (-1) with T := v.t p + 1 } : DV).b p = (b : Int) from HB.out] at g3; have g4 := hk2.xv hp; have q1 := hk2.xpl hm8; rw [show ({ putV v p (-1) with T := v.t p + 1 } : DV).pl m = v.pl m from rfl] at q1; have f1 := hk2.free (11 + p * 4); have f4 := hk2.free (11 + p * 4 + 3); clear hk2 ht2) | (go_at_call 23; (with_reducible refine (HP.out _).mono ?_); rintro e w3 ⟨rfl, rfl⟩))
  have H3 := Lib.hid (show Lk _ g n (dvto { v with T := v.t p + 1, v := dput v.v p (v.pl m) } p 8) from by
    have h := (HK2.out.setV hp (v.pl m)).setA hp 8
    have e : putA (putV { putV v p (-1) with T := v.t p + 1 } p (v.pl m)) p 8 = dvto { v with T := v.t p + 1, v := dput v.v p (v.pl m) } p 8 := by
      unfold putA putV; dsimp only; rw [rput_twice]; rfl
    rwa [e] at h)
  go_ret2
  exact ⟨rfl, H3.out, (((((Touch.refl (fun k => k = g) w).setCell (Or.inl rfl) _).trans HT2.out fun _ h => Or.inl h).setCell (Or.inl rfl) _).setCell (Or.inl rfl) _)⟩
set_option maxHeartbeats 4000000 in
theorem p8_any (w : World) (hk : Lk w g n v) {p : Nat} (hp : p < 4) (ha : v.a p = 8) (ht : v.t p ≤ 1000000) :
    Calls Try.prog 21 #[.pointer (some ⟨g, 0, none⟩), .pointer (some ⟨g, 11 + p * 4, none⟩)] w fun e w' => e = .returned (.tuple #[.bool true, .int .i64 (v.v p)]) ∧ Lk w' g n ({ v with B := (v.t p : Int) + 1 }) ∧ Touch (fun k => k = g) w w' := by
  have g1 := hk.xa hp
  have g2 := hk.xt hp
  have g3 := hk.xb hp
  have g4 := hk.xv hp
  have f1 := hk.free (11 + p * 4)
  have f2 := hk.free (11 + p * 4 + 1)
  have f3 := hk.free (11 + p * 4 + 2)
  have f4 := hk.free (11 + p * 4 + 3)
  have c1 := hk.xT
  have c2 := hk.xB
  have f9 := hk.free 9
  have f10 := hk.free 10
  rw [ha] at g1
  obtain ⟨m, hm⟩ : ∃ m, m = (v.t p : Int) + 1 := ⟨_, rfl⟩
  have hw : IntKind.i64.wrap ((v.t p : Int) + 1) = m := by rw [hm]; exact IntWalk.i64_in _ (by omega)
  rw [← hm]
  have H3 := Lib.hid (show Lk _ g n ({ v with B := m }) from (hk.setB m))
  clear hk ha hm ht
  go_enter Try.func21, Try.ntmps21
  go_wp2_with fail
  go_quiet (fail)
  go_wp2
  go_ret2
  exact ⟨rfl, H3.out.drewN _, ((Touch.refl (fun k => k = g) w).setCell (Or.inl rfl) _).drewN _⟩
set_option maxHeartbeats 4000000 in
theorem s9_any (w : World) (hk : Lk w g n v) {p : Nat} (hp : p < 4) (ha : v.a p = 9) :
    Calls Try.prog 20 #[.pointer (some ⟨g, 0, none⟩), .pointer (some ⟨g, 11 + p * 4, none⟩)] w fun e w' => e = .returned (.tuple #[.bool false, .int .i64 (0)]) ∧ Lk w' g n (dvto { v with t := dput v.t p v.T } p 10) ∧ Touch (fun k => k = g) w w' := by
  have g1 := hk.xa hp
  have g2 := hk.xt hp
  have g3 := hk.xb hp
  have g4 := hk.xv hp
  have f1 := hk.free (11 + p * 4)
  have f2 := hk.free (11 + p * 4 + 1)
  have f3 := hk.free (11 + p * 4 + 2)
  have f4 := hk.free (11 + p * 4 + 3)
  have c1 := hk.xT
  have c2 := hk.xB
  have f9 := hk.free 9
  have f10 := hk.free 10
  rw [ha] at g1
  have H3 := Lib.hid (show Lk _ g n (dvto { v with t := dput v.t p v.T } p 10) from ((hk.setTt hp v.T).setA hp 10))
  clear hk ha
  go_enter Try.func20, Try.ntmps20
  go_wp2
  go_ret2
  exact ⟨rfl, H3.out, (((Touch.refl (fun k => k = g) w).setCell (Or.inl rfl) _).setCell (Or.inl rfl) _)⟩
set_option maxHeartbeats 4000000 in
theorem s10y_any (w : World) (hk : Lk w g n v) {p : Nat} (hp : p < 4) (ha : v.a p = 10) (hf : v.B ≤ (v.t p : Int)) :
    Calls Try.prog 20 #[.pointer (some ⟨g, 0, none⟩), .pointer (some ⟨g, 11 + p * 4, none⟩)] w fun e w' => e = .returned (.tuple #[.bool true, .int .i64 (-1)]) ∧ Lk w' g n (v) ∧ Touch (fun k => k = g) w w' := by
  have g1 := hk.xa hp
  have g2 := hk.xt hp
  have g3 := hk.xb hp
  have g4 := hk.xv hp
  have f1 := hk.free (11 + p * 4)
  have f2 := hk.free (11 + p * 4 + 1)
  have f3 := hk.free (11 + p * 4 + 2)
  have f4 := hk.free (11 + p * 4 + 3)
  have c1 := hk.xT
  have c2 := hk.xB
  have f9 := hk.free 9
  have f10 := hk.free 10
  rw [ha] at g1
  have hfd : decide (v.B ≤ (v.t p : Int)) = true := decide_eq_true hf
  have H3 := Lib.hid (show Lk _ g n (v) from hk)
  clear hk ha
  go_enter Try.func20, Try.ntmps20
  go_wp2_with fail
  go_quiet (fail)
  go_wp2
  go_ret2
  exact ⟨rfl, H3.out.drewN _, (Touch.refl (fun k => k = g) w).drewN _⟩
set_option maxHeartbeats 4000000 in
theorem s10n_any (w : World) (hk : Lk w g n v) {p : Nat} (hp : p < 4) (ha : v.a p = 10) (hf : ¬ v.B ≤ (v.t p : Int)) :
    Calls Try.prog 20 #[.pointer (some ⟨g, 0, none⟩), .pointer (some ⟨g, 11 + p * 4, none⟩)] w fun e w' => e = .returned (.tuple #[.bool false, .int .i64 (0)]) ∧ Lk w' g n (dvto v p 11) ∧ Touch (fun k => k = g) w w' := by
  have g1 := hk.xa hp
  have g2 := hk.xt hp
  have g3 := hk.xb hp
  have g4 := hk.xv hp
  have f1 := hk.free (11 + p * 4)
  have f2 := hk.free (11 + p * 4 + 1)
  have f3 := hk.free (11 + p * 4 + 2)
  have f4 := hk.free (11 + p * 4 + 3)
  have c1 := hk.xT
  have c2 := hk.xB
  have f9 := hk.free 9
  have f10 := hk.free 10
  rw [ha] at g1
  have hfd : decide (v.B ≤ (v.t p : Int)) = false := decide_eq_false hf
  have H3 := Lib.hid (show Lk _ g n (dvto v p 11) from (hk.setA hp 11))
  clear hk ha
  go_enter Try.func20, Try.ntmps20
  go_wp2_with fail
  go_quiet (fail)
  go_wp2
  go_ret2
  exact ⟨rfl, H3.out, (((Touch.refl (fun k => k = g) w).drewN _).setCell (Or.inl rfl) _)⟩
set_option maxHeartbeats 4000000 in
theorem s11_any (w : World) (hk : Lk w g n v) {p : Nat} (hp : p < 4) (ha : v.a p = 11) (ht : v.t p ≤ 1000000) :
    Calls Try.prog 20 #[.pointer (some ⟨g, 0, none⟩), .pointer (some ⟨g, 11 + p * 4, none⟩)] w fun e w' => e = .returned (.tuple #[.bool false, .int .i64 (0)]) ∧ Lk w' g n (dvto { v with v := dput v.v p (v.pl (v.t p % 8)) } p 12) ∧ Touch (fun k => k = g) w w' := by
  have g1 := hk.xa hp
  have g2 := hk.xt hp
  have g3 := hk.xb hp
  have g4 := hk.xv hp
  have f1 := hk.free (11 + p * 4)
  have f2 := hk.free (11 + p * 4 + 1)
  have f3 := hk.free (11 + p * 4 + 2)
  have f4 := hk.free (11 + p * 4 + 3)
  have c1 := hk.xT
  have c2 := hk.xB
  have f9 := hk.free 9
  have f10 := hk.free 10
  rw [ha] at g1
  obtain ⟨m, hm⟩ : ∃ m, m = v.t p % 8 := ⟨_, rfl⟩
  have hm8 : m < 8 := by omega
  have HP := Lib.hid (fun W => place_any (g := g) W (v.t p) (by omega))
  rw [← hm] at HP ⊢
  have q1 := hk.xpl hm8
  have H3 := Lib.hid (show Lk _ g n (dvto { v with v := dput v.v p (v.pl m) } p 12) from ((hk.setV hp (v.pl m)).setA hp 12))
  clear hk ha ht hm
  go_enter Try.func20, Try.ntmps20
  go_wp2_with (go_at_call 23; (with_reducible refine (HP.out _).mono ?_); rintro e w3 ⟨rfl, rfl⟩)
  go_ret2
  exact ⟨rfl, H3.out, (((Touch.refl (fun k => k = g) w).setCell (Or.inl rfl) _).setCell (Or.inl rfl) _)⟩
set_option maxHeartbeats 4000000 in
theorem s12y_any (w : World) (hk : Lk w g n v) {p : Nat} (hp : p < 4) (ha : v.a p = 12) (hT : v.T ≤ 1000000) (hf : v.T = v.t p) :
    Calls Try.prog 20 #[.pointer (some ⟨g, 0, none⟩), .pointer (some ⟨g, 11 + p * 4, none⟩)] w fun e w' => e = .returned (.tuple #[.bool true, .int .i64 (v.v p)]) ∧ Lk w' g n ({ v with T := v.t p + 1 }) ∧ Touch (fun k => k = g) w w' := by
  have g1 := hk.xa hp
  have g2 := hk.xt hp
  have g3 := hk.xb hp
  have g4 := hk.xv hp
  have f1 := hk.free (11 + p * 4)
  have f2 := hk.free (11 + p * 4 + 1)
  have f3 := hk.free (11 + p * 4 + 2)
  have f4 := hk.free (11 + p * 4 + 3)
  have c1 := hk.xT
  have c2 := hk.xB
  have f9 := hk.free 9
  have f10 := hk.free 10
  rw [ha] at g1
  have HC := Lib.hid (raise_any _ hk (v.t p) hT)
  rw [show decide (v.T = v.t p) = true from decide_eq_true hf, show kraise v (v.t p) = { v with T := v.t p + 1 } from if_pos hf] at HC
  clear hk ha hT hf
  go_enter Try.func20, Try.ntmps20
  go_wp2_with (go_at_call 24; (with_reducible refine HC.out.mono ?_); rintro e w2 ⟨rfl, hk2, ht2⟩; have HK2 := Lib.hid hk2; have HT2 := Lib.hid ht2; have g4 := hk2.xv hp; rw [show ({ v with T := v.t p + 1 } : DV).v p = v.v p from rfl] at g4; clear hk2 ht2)
  go_quiet (fail)
  go_wp2
  go_ret2
  exact ⟨rfl, HK2.out.drewN _, HT2.out.drewN _⟩
set_option maxHeartbeats 4000000 in
theorem s12n_any (w : World) (hk : Lk w g n v) {p : Nat} (hp : p < 4) (ha : v.a p = 12) (hT : v.T ≤ 1000000) (hf : ¬ v.T = v.t p) :
    Calls Try.prog 20 #[.pointer (some ⟨g, 0, none⟩), .pointer (some ⟨g, 11 + p * 4, none⟩)] w fun e w' => e = .returned (.tuple #[.bool true, .int .i64 (-2)]) ∧ Lk w' g n (v) ∧ Touch (fun k => k = g) w w' := by
  have g1 := hk.xa hp
  have g2 := hk.xt hp
  have g3 := hk.xb hp
  have g4 := hk.xv hp
  have f1 := hk.free (11 + p * 4)
  have f2 := hk.free (11 + p * 4 + 1)
  have f3 := hk.free (11 + p * 4 + 2)
  have f4 := hk.free (11 + p * 4 + 3)
  have c1 := hk.xT
  have c2 := hk.xB
  have f9 := hk.free 9
  have f10 := hk.free 10
  rw [ha] at g1
  have HC := Lib.hid (raise_any _ hk (v.t p) hT)
  rw [show decide (v.T = v.t p) = false from decide_eq_false hf, show kraise v (v.t p) = v from if_neg hf] at HC
  clear hk ha hT hf
  go_enter Try.func20, Try.ntmps20
  go_wp2_with (go_at_call 24; (with_reducible refine HC.out.mono ?_); rintro e w2 ⟨rfl, hk2, ht2⟩; have HK2 := Lib.hid hk2; have HT2 := Lib.hid ht2; have g4 := hk2.xv hp; rw [show (v : DV).v p = v.v p from rfl] at g4; clear hk2 ht2)
  go_ret2
  exact ⟨rfl, HK2.out, HT2.out⟩
end
end Go.Proofs.Ytbicckeoidijpaa.Dq
