/-
  Package fifo: the lines.
-/
import Derived.Test.YtimdhnjkjflbdaaFifo
namespace Go.Proofs.Ytimdhnjkjflbdaa.Fif
open Go.RowKit

def kclr (v : QF) (p a e : Nat) : QF := { v with a := rput v.a p a, e := rput v.e p e, h := rput v.h p 0, t := rput v.t p 0, x := rput v.x p 0 }
def kat (v : QF) (p a : Nat) : QF := { v with a := rput v.a p a }
def kchT (v : QF) (s z : Nat) : QF := if v.tl = s then { v with tl := z } else v
def kchH (v : QF) (s z : Nat) : QF := if v.hd = s then { v with hd := z } else v
def kchN (v : QF) (k z : Nat) : QF := if v.nx k = -1 then { v with nx := rput v.nx k z } else v
theorem rput_twice {α : Type} (f : Nat → α) (i : Nat) (x y : α) : rput (rput f i x) i y = rput f i y := funext fun j => by
  by_cases e : j = i
  · rw [e, rput_same, rput_same]
  · rw [rput_other e, rput_other e, rput_other e]
section
variable {g n : Nat} {v : QF}
theorem Lk.setHand {w : World} (h : Lk w g n v) {p : Nat} (hp : p < 4) (a e : Nat) : Lk (((((w.setCell ⟨g, 84 + p * 5, none⟩ (.int .i64 (a : Nat))).setCell ⟨g, 84 + p * 5 + 1, none⟩ (.int .i64 (e : Nat))).setCell ⟨g, 84 + p * 5 + 2, none⟩ (.int .i64 ((0 : Nat) : Int))).setCell ⟨g, 84 + p * 5 + 3, none⟩ (.int .i64 ((0 : Nat) : Int))).setCell ⟨g, 84 + p * 5 + 4, none⟩ (.int .i64 0)) g n (kclr v p a e) :=
  (((((h.setA hp a).setE hp e).setH hp 0).setT hp 0).setX hp 0)
theorem chgT_any (w : World) (hk : Lk w g n v) (s z : Nat) : Calls Try.prog 56 #[.pointer (some ⟨g, 83, none⟩), .int .i64 s, .int .i64 z] w fun e w' => e = .returned (.bool (decide (v.tl = s))) ∧ Lk w' g n (kchT v s z) ∧ Touch (fun k => k = g) w w' := by
  have h1 := hk.xtl
  by_cases h : v.tl = s
  · rw [decide_eq_true h]
    rw [h] at h1
    exact (change_yes (z := z) w h1 (hk.free 83)).mono fun e w' ⟨he, hw⟩ => ⟨he, by rw [← hw, kchT, if_pos h]; exact hk.setTl z, by rw [← hw]; exact (Touch.refl (fun k => k = g) w).setCell (Or.inl rfl) _⟩
  · rw [decide_eq_false h]
    exact (change_no (s := s) (z := z) w h1 (by omega)).mono fun e w' ⟨he, hw⟩ => ⟨he, by rw [← hw, kchT, if_neg h]; exact hk, by rw [← hw]; exact Touch.refl _ w⟩
theorem chgH_any (w : World) (hk : Lk w g n v) (s z : Nat) : Calls Try.prog 56 #[.pointer (some ⟨g, 82, none⟩), .int .i64 s, .int .i64 z] w fun e w' => e = .returned (.bool (decide (v.hd = s))) ∧ Lk w' g n (kchH v s z) ∧ Touch (fun k => k = g) w w' := by
  have h1 := hk.xhd
  by_cases h : v.hd = s
  · rw [decide_eq_true h]
    rw [h] at h1
    exact (change_yes (z := z) w h1 (hk.free 82)).mono fun e w' ⟨he, hw⟩ => ⟨he, by rw [← hw, kchH, if_pos h]; exact hk.setHd z, by rw [← hw]; exact (Touch.refl (fun k => k = g) w).setCell (Or.inl rfl) _⟩
  · rw [decide_eq_false h]
    exact (change_no (s := s) (z := z) w h1 (by omega)).mono fun e w' ⟨he, hw⟩ => ⟨he, by rw [← hw, kchH, if_neg h]; exact hk, by rw [← hw]; exact Touch.refl _ w⟩
theorem chgN_any (w : World) (hk : Lk w g n v) {k : Nat} (hk4 : k < 40) (z : Nat) : Calls Try.prog 56 #[.pointer (some ⟨g, 2 + k * 2 + 1, none⟩), .int .i64 (-1), .int .i64 z] w fun e w' => e = .returned (.bool (decide (v.nx k = -1))) ∧ Lk w' g n (kchN v k z) ∧ Touch (fun k => k = g) w w' := by
  have h1 := hk.xnx hk4
  by_cases h : v.nx k = -1
  · rw [decide_eq_true h]
    rw [h] at h1
    exact (change_yes (z := z) w h1 (hk.free _)).mono fun e w' ⟨he, hw⟩ => ⟨he, by rw [← hw, kchN, if_pos h]; exact hk.setNx hk4 z, by rw [← hw]; exact (Touch.refl (fun k => k = g) w).setCell (Or.inl rfl) _⟩
  · rw [decide_eq_false h]
    exact (change_no (s := -1) (z := z) w h1 h).mono fun e w' ⟨he, hw⟩ => ⟨he, by rw [← hw, kchN, if_neg h]; exact hk, by rw [← hw]; exact Touch.refl _ w⟩
end
set_option maxHeartbeats 4000000 in
theorem put1_any {g n : Nat} {v : QF} (w : World) (hk : Lk w g n v) {p : Nat} (hp : p < 4) (ha : v.a p = 1) :
    Calls Try.prog 50 #[.pointer (some ⟨g, 0, none⟩), .pointer (some ⟨g, 84 + p * 5, none⟩)] w fun e w' => e = .returned (.bool false) ∧ Lk w' g n (kat { v with t := rput v.t p v.tl } p 2) ∧ Touch (fun k => k = g) w w' := by
  have g1 := hk.xa hp
  have g2 := hk.xe hp
  have g3 := hk.xh hp
  have g4 := hk.xt hp
  have g5 := hk.xx hp
  have f1 := hk.free (84 + p * 5)
  have f2 := hk.free (84 + p * 5 + 1)
  have f3 := hk.free (84 + p * 5 + 2)
  have f4 := hk.free (84 + p * 5 + 3)
  have f5 := hk.free (84 + p * 5 + 4)
  rw [ha] at g1
  have q1 := hk.xtl
  have H1 := Lib.hid (show Lk _ g n (kat { v with t := rput v.t p v.tl } p 2) from ((hk.setT hp v.tl).setA hp 2))
  clear hk ha
  go_enter Try.func50, Try.ntmps50
  go_wp2
  go_ret
  exact ⟨rfl, H1.out, (((Touch.refl (fun k => k = g) w).setCell (Or.inl rfl) _).setCell (Or.inl rfl) _)⟩
set_option maxHeartbeats 4000000 in
theorem get6_any {g n : Nat} {v : QF} (w : World) (hk : Lk w g n v) {p : Nat} (hp : p < 4) (ha : v.a p = 6) :
    Calls Try.prog 49 #[.pointer (some ⟨g, 0, none⟩), .pointer (some ⟨g, 84 + p * 5, none⟩)] w fun e w' => e = .returned (.tuple #[.bool false, .int .i64 0]) ∧ Lk w' g n (kat { v with h := rput v.h p v.hd } p 7) ∧ Touch (fun k => k = g) w w' := by
  have g1 := hk.xa hp
  have g2 := hk.xe hp
  have g3 := hk.xh hp
  have g4 := hk.xt hp
  have g5 := hk.xx hp
  have f1 := hk.free (84 + p * 5)
  have f2 := hk.free (84 + p * 5 + 1)
  have f3 := hk.free (84 + p * 5 + 2)
  have f4 := hk.free (84 + p * 5 + 3)
  have f5 := hk.free (84 + p * 5 + 4)
  rw [ha] at g1
  have q1 := hk.xhd
  have H1 := Lib.hid (show Lk _ g n (kat { v with h := rput v.h p v.hd } p 7) from ((hk.setH hp v.hd).setA hp 7))
  clear hk ha
  go_enter Try.func49, Try.ntmps49
  go_wp2
  go_ret2
  exact ⟨rfl, H1.out, (((Touch.refl (fun k => k = g) w).setCell (Or.inl rfl) _).setCell (Or.inl rfl) _)⟩
set_option maxHeartbeats 4000000 in
theorem get7_any {g n : Nat} {v : QF} (w : World) (hk : Lk w g n v) {p : Nat} (hp : p < 4) (ha : v.a p = 7) :
    Calls Try.prog 49 #[.pointer (some ⟨g, 0, none⟩), .pointer (some ⟨g, 84 + p * 5, none⟩)] w fun e w' => e = .returned (.tuple #[.bool false, .int .i64 0]) ∧ Lk w' g n (kat { v with t := rput v.t p v.tl } p 8) ∧ Touch (fun k => k = g) w w' := by
  have g1 := hk.xa hp
  have g2 := hk.xe hp
  have g3 := hk.xh hp
  have g4 := hk.xt hp
  have g5 := hk.xx hp
  have f1 := hk.free (84 + p * 5)
  have f2 := hk.free (84 + p * 5 + 1)
  have f3 := hk.free (84 + p * 5 + 2)
  have f4 := hk.free (84 + p * 5 + 3)
  have f5 := hk.free (84 + p * 5 + 4)
  rw [ha] at g1
  have q1 := hk.xtl
  have H1 := Lib.hid (show Lk _ g n (kat { v with t := rput v.t p v.tl } p 8) from ((hk.setT hp v.tl).setA hp 8))
  clear hk ha
  go_enter Try.func49, Try.ntmps49
  go_wp2
  go_ret2
  exact ⟨rfl, H1.out, (((Touch.refl (fun k => k = g) w).setCell (Or.inl rfl) _).setCell (Or.inl rfl) _)⟩
set_option maxHeartbeats 4000000 in
theorem put2y_any {g n : Nat} {v : QF} (w : World) (hk : Lk w g n v) {p : Nat} (hp : p < 4) (ha : v.a p = 2) {k : Nat} (ht : v.t p = k) (hk4 : k < 40) (hx : v.nx k = -1) :
    Calls Try.prog 50 #[.pointer (some ⟨g, 0, none⟩), .pointer (some ⟨g, 84 + p * 5, none⟩)] w fun e w' => e = .returned (.bool false) ∧ Lk w' g n (kat { v with x := rput v.x p (v.nx k) } p 3) ∧ Touch (fun k => k = g) w w' := by
  have g1 := hk.xa hp
  have g2 := hk.xe hp
  have g3 := hk.xh hp
  have g4 := hk.xt hp
  have g5 := hk.xx hp
  have f1 := hk.free (84 + p * 5)
  have f2 := hk.free (84 + p * 5 + 1)
  have f3 := hk.free (84 + p * 5 + 2)
  have f4 := hk.free (84 + p * 5 + 3)
  have f5 := hk.free (84 + p * 5 + 4)
  rw [ha] at g1
  rw [ht] at g4
  have q1 := hk.xnx hk4
  have hkI : (k : Int) < 40 := by omega
  have hb : (v.nx k != -1) = false := by simp [hx]
  have H1 := Lib.hid (show Lk _ g n (kat { v with x := rput v.x p (v.nx k) } p 3) from ((hk.setX hp (v.nx k)).setA hp 3))
  generalize v.nx k = z at q1 hb H1 ⊢
  clear hk ha ht hx
  go_enter Try.func50, Try.ntmps50
  go_wp2_with fail
  go_region_with fail
  all_goals
    go_wp2
    go_ret
    exact ⟨rfl, H1.out.drew, (((Touch.refl (fun k => k = g) w).drew.setCell (Or.inl rfl) _).setCell (Or.inl rfl) _)⟩
set_option maxHeartbeats 4000000 in
theorem put2n_any {g n : Nat} {v : QF} (w : World) (hk : Lk w g n v) {p : Nat} (hp : p < 4) (ha : v.a p = 2) {k : Nat} (ht : v.t p = k) (hk4 : k < 40) (hx : v.nx k ≠ -1) :
    Calls Try.prog 50 #[.pointer (some ⟨g, 0, none⟩), .pointer (some ⟨g, 84 + p * 5, none⟩)] w fun e w' => e = .returned (.bool false) ∧ Lk w' g n (kat { v with x := rput v.x p (v.nx k) } p 4) ∧ Touch (fun k => k = g) w w' := by
  have g1 := hk.xa hp
  have g2 := hk.xe hp
  have g3 := hk.xh hp
  have g4 := hk.xt hp
  have g5 := hk.xx hp
  have f1 := hk.free (84 + p * 5)
  have f2 := hk.free (84 + p * 5 + 1)
  have f3 := hk.free (84 + p * 5 + 2)
  have f4 := hk.free (84 + p * 5 + 3)
  have f5 := hk.free (84 + p * 5 + 4)
  rw [ha] at g1
  rw [ht] at g4
  have q1 := hk.xnx hk4
  have hkI : (k : Int) < 40 := by omega
  have hb : (v.nx k != -1) = true := by simp [hx]
  have H1 := Lib.hid (show Lk _ g n (kat { v with x := rput v.x p (v.nx k) } p 4) from by
    have h := (((hk.setX hp (v.nx k)).setA hp 3).setA hp 4)
    have e : putA (putA (putX v p (v.nx k)) p 3) p 4 = kat { v with x := rput v.x p (v.nx k) } p 4 := by
      unfold putA putX kat; dsimp only; rw [rput_twice]
    rwa [e] at h)
  generalize v.nx k = z at q1 hb H1 ⊢
  clear hk ha ht hx
  go_enter Try.func50, Try.ntmps50
  go_wp2_with fail
  go_region_with fail
  all_goals
    go_wp2
    go_ret
    exact ⟨rfl, H1.out.drew, ((((Touch.refl (fun k => k = g) w).drew.setCell (Or.inl rfl) _).setCell (Or.inl rfl) _).setCell (Or.inl rfl) _)⟩
set_option maxHeartbeats 4000000 in
theorem put3y_any {g n : Nat} {v : QF} (w : World) (hk : Lk w g n v) {p : Nat} (hp : p < 4) (ha : v.a p = 3) {k : Nat} (ht : v.t p = k) (hk4 : k < 40) (hx : v.nx k = -1) :
    Calls Try.prog 50 #[.pointer (some ⟨g, 0, none⟩), .pointer (some ⟨g, 84 + p * 5, none⟩)] w fun e w' => e = .returned (.bool false) ∧ Lk w' g n (kat { v with nx := rput v.nx k (v.e p) } p 5) ∧ Touch (fun k => k = g) w w' := by
  have g1 := hk.xa hp
  rw [ha] at g1
  have g4 := hk.xt hp
  rw [ht] at g4
  have hkI : (k : Int) < 40 := by omega
  have HC := Lib.hid (fun W (hW : Lk W g n v) => chgN_any W hW hk4 (v.e p))
  rw [show decide (v.nx k = -1) = true from decide_eq_true hx, show kchN v k (v.e p) = { v with nx := rput v.nx k (v.e p) } from if_pos hx] at HC
  have HK := Lib.hid hk
  have HT := Lib.hid ht
  have HS := Lib.hid (show (fun W : World => W.cell? ⟨g, 84 + p * 5 + 3, none⟩ = some (.int .i64 ((k : Nat) : Int)) ∧ W.cell? ⟨g, 84 + p * 5 + 1, none⟩ = some (.int .i64 ((v.e p : Nat) : Int))) w.drew from ⟨g4, hk.xe hp⟩)
  clear hk ha ht hx
  go_enter Try.func50, Try.ntmps50
  go_wp2_with fail
  go_region_held3 (fun W : World => W.cell? ⟨g, 84 + p * 5 + 3, none⟩ = some (.int .i64 ((k : Nat) : Int)) ∧ W.cell? ⟨g, 84 + p * 5 + 1, none⟩ = some (.int .i64 ((v.e p : Nat) : Int))) (first | exact HS.out | exact HS2.out) ((go_at_call 56; (with_reducible refine (HC.out _ HK.out.drew).mono ?_); rintro e w2 ⟨rfl, hk2, ht2⟩; have HK2 := Lib.hid hk2; have HS2 := Lib.hid (show (fun W : World => W.cell? ⟨g, 84 + p * 5 + 3, none⟩ = some (.int .i64 ((k : Nat) : Int)) ∧ W.cell? ⟨g, 84 + p * 5 + 1, none⟩ = some (.int .i64 ((v.e p : Nat) : Int))) w2 from ⟨by have h := hk2.xt hp; rwa [show ({ v with nx := rput v.nx k (v.e p) } : QF).t p = k from HT.out] at h, hk2.xe hp⟩); have HT2 := Lib.hid ht2; clear hk2 ht2))
  all_goals
    have g1 := HK2.out.xa hp
    have g2 := HK2.out.xe hp
    have g3 := HK2.out.xh hp
    have g4 := HK2.out.xt hp
    have g5 := HK2.out.xx hp
    have f1 := HK2.out.free (84 + p * 5)
    have f2 := HK2.out.free (84 + p * 5 + 1)
    have f3 := HK2.out.free (84 + p * 5 + 2)
    have f4 := HK2.out.free (84 + p * 5 + 3)
    have f5 := HK2.out.free (84 + p * 5 + 4)
    have H3 := Lib.hid (show Lk _ g n (kat { v with nx := rput v.nx k (v.e p) } p 5) from (HK2.out.setA hp 5))
    go_wp2
    go_ret
    exact ⟨rfl, H3.out, (((Touch.refl (fun k => k = g) w).drew.trans HT2.out fun _ h => Or.inl h).setCell (Or.inl rfl) _)⟩
set_option maxHeartbeats 4000000 in
theorem put3n_any {g n : Nat} {v : QF} (w : World) (hk : Lk w g n v) {p : Nat} (hp : p < 4) (ha : v.a p = 3) {k : Nat} (ht : v.t p = k) (hk4 : k < 40) (hx : v.nx k ≠ -1) :
    Calls Try.prog 50 #[.pointer (some ⟨g, 0, none⟩), .pointer (some ⟨g, 84 + p * 5, none⟩)] w fun e w' => e = .returned (.bool false) ∧ Lk w' g n (kclr v p 1 (v.e p)) ∧ Touch (fun k => k = g) w w' := by
  have g1 := hk.xa hp
  rw [ha] at g1
  have g4 := hk.xt hp
  rw [ht] at g4
  have hkI : (k : Int) < 40 := by omega
  have HC := Lib.hid (fun W (hW : Lk W g n v) => chgN_any W hW hk4 (v.e p))
  rw [show decide (v.nx k = -1) = false from decide_eq_false hx, show kchN v k (v.e p) = v from if_neg hx] at HC
  have HK := Lib.hid hk
  have HT := Lib.hid ht
  have HS := Lib.hid (show (fun W : World => W.cell? ⟨g, 84 + p * 5 + 3, none⟩ = some (.int .i64 ((k : Nat) : Int)) ∧ W.cell? ⟨g, 84 + p * 5 + 1, none⟩ = some (.int .i64 ((v.e p : Nat) : Int))) w.drew from ⟨g4, hk.xe hp⟩)
  clear hk ha ht hx
  go_enter Try.func50, Try.ntmps50
  go_wp2_with fail
  go_region_held3 (fun W : World => W.cell? ⟨g, 84 + p * 5 + 3, none⟩ = some (.int .i64 ((k : Nat) : Int)) ∧ W.cell? ⟨g, 84 + p * 5 + 1, none⟩ = some (.int .i64 ((v.e p : Nat) : Int))) (first | exact HS.out | exact HS2.out) ((go_at_call 56; (with_reducible refine (HC.out _ HK.out.drew).mono ?_); rintro e w2 ⟨rfl, hk2, ht2⟩; have HK2 := Lib.hid hk2; have HS2 := Lib.hid (show (fun W : World => W.cell? ⟨g, 84 + p * 5 + 3, none⟩ = some (.int .i64 ((k : Nat) : Int)) ∧ W.cell? ⟨g, 84 + p * 5 + 1, none⟩ = some (.int .i64 ((v.e p : Nat) : Int))) w2 from ⟨by have h := hk2.xt hp; rwa [show (v : QF).t p = k from HT.out] at h, hk2.xe hp⟩); have HT2 := Lib.hid ht2; clear hk2 ht2))
  all_goals
    have g1 := HK2.out.xa hp
    have g2 := HK2.out.xe hp
    have g3 := HK2.out.xh hp
    have g4 := HK2.out.xt hp
    have g5 := HK2.out.xx hp
    have f1 := HK2.out.free (84 + p * 5)
    have f2 := HK2.out.free (84 + p * 5 + 1)
    have f3 := HK2.out.free (84 + p * 5 + 2)
    have f4 := HK2.out.free (84 + p * 5 + 3)
    have f5 := HK2.out.free (84 + p * 5 + 4)
    have H3 := Lib.hid (show Lk _ g n (kclr v p 1 (v.e p)) from (HK2.out.setHand hp 1 (v.e p)))
    go_wp2
    go_ret
    exact ⟨rfl, H3.out, (((((((Touch.refl (fun k => k = g) w).drew.trans HT2.out fun _ h => Or.inl h).setCell (Or.inl rfl) _).setCell (Or.inl rfl) _).setCell (Or.inl rfl) _).setCell (Or.inl rfl) _).setCell (Or.inl rfl) _)⟩
set_option maxHeartbeats 4000000 in
theorem put4_any {g n : Nat} {v : QF} (w : World) (hk : Lk w g n v) {p : Nat} (hp : p < 4) (ha : v.a p = 4) {k : Nat} (hx : v.x p = k) :
    Calls Try.prog 50 #[.pointer (some ⟨g, 0, none⟩), .pointer (some ⟨g, 84 + p * 5, none⟩)] w fun e w' => e = .returned (.bool false) ∧ Lk w' g n (kclr (kchT v (v.t p) k) p 1 (v.e p)) ∧ Touch (fun k => k = g) w w' := by
  have g1 := hk.xa hp
  rw [ha] at g1
  have g4 := hk.xt hp
  have g5 := hk.xx hp
  rw [hx] at g5
  have HC := Lib.hid (fun W (hW : Lk W g n v) => chgT_any W hW (v.t p) k)
  have HK := Lib.hid hk
  have hM : (kchT v (v.t p) k).t p = v.t p ∧ (kchT v (v.t p) k).x p = k ∧ (kchT v (v.t p) k).e p = v.e p := by unfold kchT; split <;> exact ⟨rfl, hx, rfl⟩
  have HM := Lib.hid hM
  have HS := Lib.hid (show (fun W : World => W.cell? ⟨g, 84 + p * 5 + 3, none⟩ = some (.int .i64 ((v.t p : Nat) : Int)) ∧ W.cell? ⟨g, 84 + p * 5 + 4, none⟩ = some (.int .i64 ((k : Nat) : Int))) w.drew from ⟨g4, g5⟩)
  clear hk ha hx hM
  obtain ⟨v2, hv2⟩ : ∃ u, u = kchT v (v.t p) k := ⟨_, rfl⟩
  obtain ⟨D, hD⟩ : ∃ d, d = decide (v.tl = v.t p) := ⟨_, rfl⟩
  rw [← hv2] at HC HM ⊢
  rw [← hD] at HC
  clear hv2 hD
  go_enter Try.func50, Try.ntmps50
  go_wp2_with fail
  go_region_held3 (fun W : World => W.cell? ⟨g, 84 + p * 5 + 3, none⟩ = some (.int .i64 ((v.t p : Nat) : Int)) ∧ W.cell? ⟨g, 84 + p * 5 + 4, none⟩ = some (.int .i64 ((k : Nat) : Int))) (first | exact HS.out | exact HS2.out) ((go_at_call 56; (with_reducible refine (HC.out _ HK.out.drew).mono ?_); rintro e w2 ⟨rfl, hk2, ht2⟩; have HK2 := Lib.hid hk2; have HS2 := Lib.hid (show (fun W : World => W.cell? ⟨g, 84 + p * 5 + 3, none⟩ = some (.int .i64 ((v.t p : Nat) : Int)) ∧ W.cell? ⟨g, 84 + p * 5 + 4, none⟩ = some (.int .i64 ((k : Nat) : Int))) w2 from ⟨by have h := hk2.xt hp; rwa [HM.out.1] at h, by have h := hk2.xx hp; rwa [HM.out.2.1] at h⟩); have HT2 := Lib.hid ht2; clear hk2 ht2))
  all_goals
    have g1 := HK2.out.xa hp
    have g2 := HK2.out.xe hp
    have g3 := HK2.out.xh hp
    have g4 := HK2.out.xt hp
    have g5 := HK2.out.xx hp
    have f1 := HK2.out.free (84 + p * 5)
    have f2 := HK2.out.free (84 + p * 5 + 1)
    have f3 := HK2.out.free (84 + p * 5 + 2)
    have f4 := HK2.out.free (84 + p * 5 + 3)
    have f5 := HK2.out.free (84 + p * 5 + 4)
    rw [HM.out.2.2] at g2
    have H3 := Lib.hid (show Lk _ g n (kclr v2 p 1 (v.e p)) from (HK2.out.setHand hp 1 (v.e p)))
    go_wp2
    go_ret
    exact ⟨rfl, H3.out, (((((((Touch.refl (fun k => k = g) w).drew.trans HT2.out fun _ h => Or.inl h).setCell (Or.inl rfl) _).setCell (Or.inl rfl) _).setCell (Or.inl rfl) _).setCell (Or.inl rfl) _).setCell (Or.inl rfl) _)⟩
set_option maxHeartbeats 4000000 in
theorem get9_any {g n : Nat} {v : QF} (w : World) (hk : Lk w g n v) {p : Nat} (hp : p < 4) (ha : v.a p = 9) {k : Nat} (hx : v.x p = k) :
    Calls Try.prog 49 #[.pointer (some ⟨g, 0, none⟩), .pointer (some ⟨g, 84 + p * 5, none⟩)] w fun e w' => e = .returned (.tuple #[.bool false, .int .i64 0]) ∧ Lk w' g n (kclr (kchT v (v.t p) k) p 6 0) ∧ Touch (fun k => k = g) w w' := by
  have g1 := hk.xa hp
  rw [ha] at g1
  have g4 := hk.xt hp
  have g5 := hk.xx hp
  rw [hx] at g5
  have HC := Lib.hid (fun W (hW : Lk W g n v) => chgT_any W hW (v.t p) k)
  have HK := Lib.hid hk
  have hM : (kchT v (v.t p) k).t p = v.t p ∧ (kchT v (v.t p) k).x p = k ∧ (kchT v (v.t p) k).e p = v.e p := by unfold kchT; split <;> exact ⟨rfl, hx, rfl⟩
  have HM := Lib.hid hM
  have HS := Lib.hid (show (fun W : World => W.cell? ⟨g, 84 + p * 5 + 3, none⟩ = some (.int .i64 ((v.t p : Nat) : Int)) ∧ W.cell? ⟨g, 84 + p * 5 + 4, none⟩ = some (.int .i64 ((k : Nat) : Int))) w.drew from ⟨g4, g5⟩)
  clear hk ha hx hM
  obtain ⟨v2, hv2⟩ : ∃ u, u = kchT v (v.t p) k := ⟨_, rfl⟩
  obtain ⟨D, hD⟩ : ∃ d, d = decide (v.tl = v.t p) := ⟨_, rfl⟩
  rw [← hv2] at HC HM ⊢
  rw [← hD] at HC
  clear hv2 hD
  go_enter Try.func49, Try.ntmps49
  go_wp2_with fail
  go_region_held3 (fun W : World => W.cell? ⟨g, 84 + p * 5 + 3, none⟩ = some (.int .i64 ((v.t p : Nat) : Int)) ∧ W.cell? ⟨g, 84 + p * 5 + 4, none⟩ = some (.int .i64 ((k : Nat) : Int))) (first | exact HS.out | exact HS2.out) ((go_at_call 56; (with_reducible refine (HC.out _ HK.out.drew).mono ?_); rintro e w2 ⟨rfl, hk2, ht2⟩; have HK2 := Lib.hid hk2; have HS2 := Lib.hid (show (fun W : World => W.cell? ⟨g, 84 + p * 5 + 3, none⟩ = some (.int .i64 ((v.t p : Nat) : Int)) ∧ W.cell? ⟨g, 84 + p * 5 + 4, none⟩ = some (.int .i64 ((k : Nat) : Int))) w2 from ⟨by have h := hk2.xt hp; rwa [HM.out.1] at h, by have h := hk2.xx hp; rwa [HM.out.2.1] at h⟩); have HT2 := Lib.hid ht2; clear hk2 ht2))
  all_goals
    have g1 := HK2.out.xa hp
    have g2 := HK2.out.xe hp
    have g3 := HK2.out.xh hp
    have g4 := HK2.out.xt hp
    have g5 := HK2.out.xx hp
    have f1 := HK2.out.free (84 + p * 5)
    have f2 := HK2.out.free (84 + p * 5 + 1)
    have f3 := HK2.out.free (84 + p * 5 + 2)
    have f4 := HK2.out.free (84 + p * 5 + 3)
    have f5 := HK2.out.free (84 + p * 5 + 4)
    have H3 := Lib.hid (show Lk _ g n (kclr v2 p 6 0) from (HK2.out.setHand hp 6 0))
    go_wp2
    go_ret2
    exact ⟨rfl, H3.out, (((((((Touch.refl (fun k => k = g) w).drew.trans HT2.out fun _ h => Or.inl h).setCell (Or.inl rfl) _).setCell (Or.inl rfl) _).setCell (Or.inl rfl) _).setCell (Or.inl rfl) _).setCell (Or.inl rfl) _)⟩
set_option maxHeartbeats 4000000 in
theorem put5_any {g n : Nat} {v : QF} (w : World) (hk : Lk w g n v) {p : Nat} (hp : p < 4) (ha : v.a p = 5) :
    Calls Try.prog 50 #[.pointer (some ⟨g, 0, none⟩), .pointer (some ⟨g, 84 + p * 5, none⟩)] w fun e w' => e = .returned (.bool true) ∧ Lk w' g n (kchT v (v.t p) (v.e p)) ∧ Touch (fun k => k = g) w w' := by
  have g1 := hk.xa hp
  rw [ha] at g1
  have g4 := hk.xt hp
  have g2 := hk.xe hp
  have HC := Lib.hid (fun W (hW : Lk W g n v) => chgT_any W hW (v.t p) (v.e p))
  have HK := Lib.hid hk
  have hM : (kchT v (v.t p) (v.e p)).t p = v.t p ∧ (kchT v (v.t p) (v.e p)).e p = v.e p := by unfold kchT; split <;> exact ⟨rfl, rfl⟩
  have HM := Lib.hid hM
  have HS := Lib.hid (show (fun W : World => W.cell? ⟨g, 84 + p * 5 + 3, none⟩ = some (.int .i64 ((v.t p : Nat) : Int)) ∧ W.cell? ⟨g, 84 + p * 5 + 1, none⟩ = some (.int .i64 ((v.e p : Nat) : Int))) w.drew from ⟨g4, g2⟩)
  clear hk ha hM
  obtain ⟨v2, hv2⟩ : ∃ u, u = kchT v (v.t p) (v.e p) := ⟨_, rfl⟩
  obtain ⟨D, hD⟩ : ∃ d, d = decide (v.tl = v.t p) := ⟨_, rfl⟩
  rw [← hv2] at HC HM ⊢
  rw [← hD] at HC
  clear hv2 hD
  go_enter Try.func50, Try.ntmps50
  go_wp2_with fail
  go_region_held3 (fun W : World => W.cell? ⟨g, 84 + p * 5 + 3, none⟩ = some (.int .i64 ((v.t p : Nat) : Int)) ∧ W.cell? ⟨g, 84 + p * 5 + 1, none⟩ = some (.int .i64 ((v.e p : Nat) : Int))) (first | exact HS.out | exact HS2.out) ((go_at_call 56; (with_reducible refine (HC.out _ HK.out.drew).mono ?_); rintro e w2 ⟨rfl, hk2, ht2⟩; have HK2 := Lib.hid hk2; have HS2 := Lib.hid (show (fun W : World => W.cell? ⟨g, 84 + p * 5 + 3, none⟩ = some (.int .i64 ((v.t p : Nat) : Int)) ∧ W.cell? ⟨g, 84 + p * 5 + 1, none⟩ = some (.int .i64 ((v.e p : Nat) : Int))) w2 from ⟨by have h := hk2.xt hp; rwa [HM.out.1] at h, by have h := hk2.xe hp; rwa [HM.out.2] at h⟩); have HT2 := Lib.hid ht2; clear hk2 ht2))
  all_goals
    go_wp2
    go_ret
    exact ⟨rfl, HK2.out, ((Touch.refl (fun k => k = g) w).drew.trans HT2.out fun _ h => Or.inl h)⟩
set_option maxHeartbeats 4000000 in
theorem get8f_any {g n : Nat} {v : QF} (w : World) (hk : Lk w g n v) {p : Nat} (hp : p < 4) (ha : v.a p = 8) {k : Nat} (hh : v.h p = k) (hk4 : k < 40) (hne : k ≠ v.t p) :
    Calls Try.prog 49 #[.pointer (some ⟨g, 0, none⟩), .pointer (some ⟨g, 84 + p * 5, none⟩)] w fun e w' => e = .returned (.tuple #[.bool false, .int .i64 0]) ∧ Lk w' g n (kat { v with x := rput v.x p (v.nx k) } p 10) ∧ Touch (fun k => k = g) w w' := by
  have g1 := hk.xa hp
  have g2 := hk.xe hp
  have g3 := hk.xh hp
  have g4 := hk.xt hp
  have g5 := hk.xx hp
  have f1 := hk.free (84 + p * 5)
  have f2 := hk.free (84 + p * 5 + 1)
  have f3 := hk.free (84 + p * 5 + 2)
  have f4 := hk.free (84 + p * 5 + 3)
  have f5 := hk.free (84 + p * 5 + 4)
  rw [ha] at g1
  rw [hh] at g3
  have q1 := hk.xnx hk4
  have hkI : (k : Int) < 40 := by omega
  have hb1 : ((k : Int) != (v.t p : Int)) = true := by simp; omega
  have hb1' : (k != v.t p) = true := by simp [hne]
  have H1 := Lib.hid (show Lk _ g n (kat { v with x := rput v.x p (v.nx k) } p 10) from ((hk.setX hp (v.nx k)).setA hp 10))
  generalize v.nx k = z at q1 H1 ⊢
  generalize v.t p = T at g4 hb1 hb1'
  clear hk ha hh hne
  go_enter Try.func49, Try.ntmps49
  go_wp2_with fail
  go_region_with fail
  all_goals
    go_wp2_with fail
    go_quiet (fail)
    go_wp2
    go_ret2
    exact ⟨rfl, H1.out.drewN 0, ((((Touch.refl (fun k => k = g) w).setCell (Or.inl rfl) _).drewN _).setCell (Or.inl rfl) _)⟩
set_option maxHeartbeats 4000000 in
theorem get8y_any {g n : Nat} {v : QF} (w : World) (hk : Lk w g n v) {p : Nat} (hp : p < 4) (ha : v.a p = 8) {k : Nat} (hh : v.h p = k) (hk4 : k < 40) (hne : k = v.t p) (hx : v.nx k = -1) :
    Calls Try.prog 49 #[.pointer (some ⟨g, 0, none⟩), .pointer (some ⟨g, 84 + p * 5, none⟩)] w fun e w' => e = .returned (.tuple #[.bool true, .int .i64 (-1)]) ∧ Lk w' g n ({ v with x := rput v.x p (v.nx k) }) ∧ Touch (fun k => k = g) w w' := by
  have g1 := hk.xa hp
  have g2 := hk.xe hp
  have g3 := hk.xh hp
  have g4 := hk.xt hp
  have g5 := hk.xx hp
  have f1 := hk.free (84 + p * 5)
  have f2 := hk.free (84 + p * 5 + 1)
  have f3 := hk.free (84 + p * 5 + 2)
  have f4 := hk.free (84 + p * 5 + 3)
  have f5 := hk.free (84 + p * 5 + 4)
  rw [ha] at g1
  rw [hh] at g3
  have q1 := hk.xnx hk4
  have hkI : (k : Int) < 40 := by omega
  have hb1 : ((k : Int) != (v.t p : Int)) = false := by simp; omega
  have hb1' : (k != v.t p) = false := by simp [hne]
  have hb2 : (v.nx k == -1) = true := by simp [hx]
  have H1 := Lib.hid (show Lk _ g n ({ v with x := rput v.x p (v.nx k) }) from (hk.setX hp (v.nx k)))
  generalize v.nx k = z at q1 H1 ⊢ hb2
  generalize v.t p = T at g4 hb1 hb1'
  clear hk ha hh hne hx
  go_enter Try.func49, Try.ntmps49
  go_wp2_with fail
  go_region_with fail
  all_goals
    go_wp2_with fail
    go_quiet (fail)
    go_wp2
    go_ret2
    exact ⟨rfl, H1.out.drewN 0, (((Touch.refl (fun k => k = g) w).setCell (Or.inl rfl) _).drewN _)⟩
set_option maxHeartbeats 4000000 in
theorem get8n_any {g n : Nat} {v : QF} (w : World) (hk : Lk w g n v) {p : Nat} (hp : p < 4) (ha : v.a p = 8) {k : Nat} (hh : v.h p = k) (hk4 : k < 40) (hne : k = v.t p) (hx : v.nx k ≠ -1) :
    Calls Try.prog 49 #[.pointer (some ⟨g, 0, none⟩), .pointer (some ⟨g, 84 + p * 5, none⟩)] w fun e w' => e = .returned (.tuple #[.bool false, .int .i64 0]) ∧ Lk w' g n (kat { v with x := rput v.x p (v.nx k) } p 9) ∧ Touch (fun k => k = g) w w' := by
  have g1 := hk.xa hp
  have g2 := hk.xe hp
  have g3 := hk.xh hp
  have g4 := hk.xt hp
  have g5 := hk.xx hp
  have f1 := hk.free (84 + p * 5)
  have f2 := hk.free (84 + p * 5 + 1)
  have f3 := hk.free (84 + p * 5 + 2)
  have f4 := hk.free (84 + p * 5 + 3)
  have f5 := hk.free (84 + p * 5 + 4)
  rw [ha] at g1
  rw [hh] at g3
  have q1 := hk.xnx hk4
  have hkI : (k : Int) < 40 := by omega
  have hb1 : ((k : Int) != (v.t p : Int)) = false := by simp; omega
  have hb1' : (k != v.t p) = false := by simp [hne]
  have hb2 : (v.nx k == -1) = false := by simp [hx]
  have H1 := Lib.hid (show Lk _ g n (kat { v with x := rput v.x p (v.nx k) } p 9) from ((hk.setX hp (v.nx k)).setA hp 9))
  generalize v.nx k = z at q1 H1 ⊢ hb2
  generalize v.t p = T at g4 hb1 hb1'
  clear hk ha hh hne hx
  go_enter Try.func49, Try.ntmps49
  go_wp2_with fail
  go_region_with fail
  all_goals
    go_wp2_with fail
    go_quiet (fail)
    go_wp2
    go_ret2
    exact ⟨rfl, H1.out.drewN 0, ((((Touch.refl (fun k => k = g) w).setCell (Or.inl rfl) _).drewN _).setCell (Or.inl rfl) _)⟩
set_option maxHeartbeats 4000000 in
theorem get10y_any {g n : Nat} {v : QF} (w : World) (hk : Lk w g n v) {p : Nat} (hp : p < 4) (ha : v.a p = 10) {k : Nat} (hx : v.x p = k) (hk4 : k < 40) (hh : v.hd = v.h p) :
    Calls Try.prog 49 #[.pointer (some ⟨g, 0, none⟩), .pointer (some ⟨g, 84 + p * 5, none⟩)] w fun e w' => e = .returned (.tuple #[.bool true, .int .i64 (v.vl k)]) ∧ Lk w' g n ({ v with hd := k }) ∧ Touch (fun k => k = g) w w' := by
  have g1 := hk.xa hp
  rw [ha] at g1
  have g3 := hk.xh hp
  have g5 := hk.xx hp
  rw [hx] at g5
  have hkI : (k : Int) < 40 := by omega
  have HC := Lib.hid (fun W (hW : Lk W g n v) => chgH_any W hW (v.h p) k)
  rw [show decide (v.hd = v.h p) = true from decide_eq_true hh, show kchH v (v.h p) k = { v with hd := k } from if_pos hh] at HC
  have HK := Lib.hid hk
  have HX := Lib.hid hx
  have HS := Lib.hid (show (fun W : World => W.cell? ⟨g, 84 + p * 5 + 2, none⟩ = some (.int .i64 ((v.h p : Nat) : Int)) ∧ W.cell? ⟨g, 84 + p * 5 + 4, none⟩ = some (.int .i64 ((k : Nat) : Int))) w.drew from ⟨g3, g5⟩)
  clear hk ha hx hh
  go_enter Try.func49, Try.ntmps49
  go_wp2_with fail
  go_region_held3 (fun W : World => W.cell? ⟨g, 84 + p * 5 + 2, none⟩ = some (.int .i64 ((v.h p : Nat) : Int)) ∧ W.cell? ⟨g, 84 + p * 5 + 4, none⟩ = some (.int .i64 ((k : Nat) : Int))) (first | exact HS.out | exact HS2.out) ((go_at_call 56; (with_reducible refine (HC.out _ HK.out.drew).mono ?_); rintro e w2 ⟨rfl, hk2, ht2⟩; have HK2 := Lib.hid hk2; have HS2 := Lib.hid (show (fun W : World => W.cell? ⟨g, 84 + p * 5 + 2, none⟩ = some (.int .i64 ((v.h p : Nat) : Int)) ∧ W.cell? ⟨g, 84 + p * 5 + 4, none⟩ = some (.int .i64 ((k : Nat) : Int))) w2 from ⟨hk2.xh hp, by have h := hk2.xx hp; rwa [show ({ v with hd := k } : QF).x p = k from HX.out] at h⟩); have HT2 := Lib.hid ht2; clear hk2 ht2))
  all_goals
    have g5 := HK2.out.xx hp
    rw [show ({ v with hd := k } : QF).x p = k from HX.out] at g5
    have q1 := HK2.out.xvl hk4
    rw [show ({ v with hd := k } : QF).vl k = v.vl k from rfl] at q1
    go_wp2_with fail
    go_quiet (fail)
    go_wp2
    go_ret2
    exact ⟨rfl, HK2.out.drewN _, ((Touch.refl (fun k => k = g) w).drew.trans HT2.out fun _ h => Or.inl h).drewN _⟩
set_option maxHeartbeats 4000000 in
theorem get10n_any {g n : Nat} {v : QF} (w : World) (hk : Lk w g n v) {p : Nat} (hp : p < 4) (ha : v.a p = 10) {k : Nat} (hx : v.x p = k) (hk4 : k < 40) (hh : v.hd ≠ v.h p) :
    Calls Try.prog 49 #[.pointer (some ⟨g, 0, none⟩), .pointer (some ⟨g, 84 + p * 5, none⟩)] w fun e w' => e = .returned (.tuple #[.bool false, .int .i64 0]) ∧ Lk w' g n (kclr v p 6 0) ∧ Touch (fun k => k = g) w w' := by
  have g1 := hk.xa hp
  rw [ha] at g1
  have g3 := hk.xh hp
  have g5 := hk.xx hp
  rw [hx] at g5
  have hkI : (k : Int) < 40 := by omega
  have HC := Lib.hid (fun W (hW : Lk W g n v) => chgH_any W hW (v.h p) k)
  rw [show decide (v.hd = v.h p) = false from decide_eq_false hh, show kchH v (v.h p) k = v from if_neg hh] at HC
  have HK := Lib.hid hk
  have HX := Lib.hid hx
  have HS := Lib.hid (show (fun W : World => W.cell? ⟨g, 84 + p * 5 + 2, none⟩ = some (.int .i64 ((v.h p : Nat) : Int)) ∧ W.cell? ⟨g, 84 + p * 5 + 4, none⟩ = some (.int .i64 ((k : Nat) : Int))) w.drew from ⟨g3, g5⟩)
  clear hk ha hx hh
  go_enter Try.func49, Try.ntmps49
  go_wp2_with fail
  go_region_held3 (fun W : World => W.cell? ⟨g, 84 + p * 5 + 2, none⟩ = some (.int .i64 ((v.h p : Nat) : Int)) ∧ W.cell? ⟨g, 84 + p * 5 + 4, none⟩ = some (.int .i64 ((k : Nat) : Int))) (first | exact HS.out | exact HS2.out) ((go_at_call 56; (with_reducible refine (HC.out _ HK.out.drew).mono ?_); rintro e w2 ⟨rfl, hk2, ht2⟩; have HK2 := Lib.hid hk2; have HS2 := Lib.hid (show (fun W : World => W.cell? ⟨g, 84 + p * 5 + 2, none⟩ = some (.int .i64 ((v.h p : Nat) : Int)) ∧ W.cell? ⟨g, 84 + p * 5 + 4, none⟩ = some (.int .i64 ((k : Nat) : Int))) w2 from ⟨hk2.xh hp, by have h := hk2.xx hp; rwa [show (v : QF).x p = k from HX.out] at h⟩); have HT2 := Lib.hid ht2; clear hk2 ht2))
  all_goals
    have g1 := HK2.out.xa hp
    have g2 := HK2.out.xe hp
    have g3 := HK2.out.xh hp
    have g4 := HK2.out.xt hp
    have g5 := HK2.out.xx hp
    have f1 := HK2.out.free (84 + p * 5)
    have f2 := HK2.out.free (84 + p * 5 + 1)
    have f3 := HK2.out.free (84 + p * 5 + 2)
    have f4 := HK2.out.free (84 + p * 5 + 3)
    have f5 := HK2.out.free (84 + p * 5 + 4)
    have H3 := Lib.hid (show Lk _ g n (kclr v p 6 0) from (HK2.out.setHand hp 6 0))
    go_wp2
    go_ret2
    exact ⟨rfl, H3.out, (((((((Touch.refl (fun k => k = g) w).drew.trans HT2.out fun _ h => Or.inl h).setCell (Or.inl rfl) _).setCell (Or.inl rfl) _).setCell (Or.inl rfl) _).setCell (Or.inl rfl) _).setCell (Or.inl rfl) _)⟩
end Go.Proofs.Ytimdhnjkjflbdaa.Fif
