/-
  What latchgarthref1.same and less answer.
-/
import Derived.Test.YthpnnmkpbkbanaaDoorInts
import Derived.Test.YthpnnmkpbkbanaaDoorScM
namespace Go.Proofs.YthpnnmkpbkbanaaDoor
open Go.RowKit

theorem lessL_at : ∀ {xs ys : List Int} {k : Nat} {x y : Int}, xs.take k = ys.take k → xs[k]? = some x → ys[k]? = some y → x ≠ y → lessL xs ys = decide (x < y)
  | [], _, _, _, _, _, h, _, _ => by simp at h
  | _ :: _, [], _, _, _, _, _, h, _ => by simp at h
  | a :: xs, b :: ys, 0, x, y, _, hx, hy, hne => by
    simp at hx hy
    subst hx hy
    rw [lessL, if_neg hne]
  | a :: xs, b :: ys, k + 1, x, y, ht, hx, hy, hne => by
    simp only [List.take_succ_cons, List.cons.injEq] at ht
    rw [lessL, if_pos ht.1]
    exact lessL_at (k := k) ht.2 (by simpa using hx) (by simpa using hy) hne

set_option maxHeartbeats 1000000 in
theorem refsame_any (xs ys : List Int) (v1 v2 : Value) (B1 B2 : Nat) (w : World) (h1 : Nums w B1 v1 xs) (h2 : Nums w B2 v2 ys) (hl : xs.length = ys.length) :
    Calls Tryd.prog 38 #[v1, v2] w fun e w' => e = .returned (.bool (decide (xs = ys))) ∧ ∃ n, w' = w.drewN n := by
  obtain ⟨A1, c1, rfl, hl1, h1⟩ := h1
  obtain ⟨A2, c2, rfl, hl2, h2⟩ := h2
  have H1 := Lib.hid h1
  have H2 := Lib.hid h2
  have HNE := Lib.hid hl
  have hle : xs.length ≤ ys.length := by omega
  clear h1 h2 hl
  go_enter Tryd.func38, Tryd.ntmps38
  go_wp2
  go_loopw [5] (fun i wr => ∃ k : Nat, k ≤ xs.length ∧ i = .int .i64 k ∧ xs.take k = ys.take k ∧ ∃ n, wr = w.drewN n) (fun i _ => xs.length - (intOf i).toNat)
  case atStart => exact ⟨0, Nat.zero_le _, rfl, rfl, 0, rfl⟩
  case round =>
    obtain ⟨k, hk, rfl, htk, n, rfl⟩ := hrel
    have HTK := Lib.hid htk
    clear htk
    by_cases hlt : k < xs.length
    · obtain ⟨b1, o1, rfl, _, hc1⟩ := H1.out (by omega)
      obtain ⟨b2, o2, rfl, _, hc2⟩ := H2.out (by omega)
      obtain ⟨x, hx⟩ : ∃ x, xs[k]? = some x := ⟨_, List.getElem?_eq_getElem hlt⟩
      obtain ⟨y, hy⟩ : ∃ y, ys[k]? = some y := ⟨_, List.getElem?_eq_getElem (by omega)⟩
      have g1 := hc1 k x hx
      have g2 := hc2 k y hy
      have HX := Lib.hid hx
      have HY := Lib.hid hy
      have i1 : (k : Int) < xs.length := by omega
      have i2 : (k : Int) < ys.length := by omega
      clear hc1 hc2 hx hy
      by_cases hxy : x = y
      · have hd : (x != y) = false := by rw [hxy]; simp
        have HXY := Lib.hid hxy
        clear hxy
        go_wp2
        go_quiet (fail)
        go_wp2
        go_roundw
        case rel => exact ⟨k + 1, by omega, by go_num, by rw [take_succ_at HX.out, take_succ_at HY.out, HTK.out, HXY.out], _, rfl⟩
        case measure => simp [intOf]; omega
      · have hd : (x != y) = true := bne_iff_ne.2 hxy
        have HXY := Lib.hid (show xs ≠ ys from fun e => by
          have h1 := HX.out
          rw [e, HY.out] at h1
          exact hxy (Option.some.inj h1).symm)
        clear hxy
        go_wp2
        go_quiet (fail)
        go_wp2
        go_ret
        exact ⟨by rw [decide_eq_false HXY.out]; rfl, n + nq, World.drewN_drewN _ _ _⟩
    · have HXY := Lib.hid (show xs = ys by
        have h1 := HTK.out
        rwa [List.take_of_length_le (by omega), List.take_of_length_le (by have := HNE.out; omega)] at h1)
      go_wp2
      go_ret
      exact ⟨by rw [decide_eq_true HXY.out]; rfl, _, rfl⟩

set_option maxHeartbeats 1000000 in
theorem refless_any (xs ys : List Int) (v1 v2 : Value) (B1 B2 : Nat) (w : World) (h1 : Nums w B1 v1 xs) (h2 : Nums w B2 v2 ys) (hl : xs.length = ys.length) :
    Calls Tryd.prog 40 #[v1, v2] w fun e w' => e = .returned (.bool (lessL xs ys)) ∧ ∃ n, w' = w.drewN n := by
  obtain ⟨A1, c1, rfl, hl1, h1⟩ := h1
  obtain ⟨A2, c2, rfl, hl2, h2⟩ := h2
  have H1 := Lib.hid h1
  have H2 := Lib.hid h2
  have HNE := Lib.hid hl
  have hle : xs.length ≤ ys.length := by omega
  clear h1 h2 hl
  go_enter Tryd.func40, Tryd.ntmps40
  go_wp2
  go_loopw [5] (fun i wr => ∃ k : Nat, k ≤ xs.length ∧ i = .int .i64 k ∧ xs.take k = ys.take k ∧ ∃ n, wr = w.drewN n) (fun i _ => xs.length - (intOf i).toNat)
  case atStart => exact ⟨0, Nat.zero_le _, rfl, rfl, 0, rfl⟩
  case round =>
    obtain ⟨k, hk, rfl, htk, n, rfl⟩ := hrel
    have HTK := Lib.hid htk
    clear htk
    by_cases hlt : k < xs.length
    · obtain ⟨b1, o1, rfl, _, hc1⟩ := H1.out (by omega)
      obtain ⟨b2, o2, rfl, _, hc2⟩ := H2.out (by omega)
      obtain ⟨x, hx⟩ : ∃ x, xs[k]? = some x := ⟨_, List.getElem?_eq_getElem hlt⟩
      obtain ⟨y, hy⟩ : ∃ y, ys[k]? = some y := ⟨_, List.getElem?_eq_getElem (by omega)⟩
      have g1 := hc1 k x hx
      have g2 := hc2 k y hy
      have HX := Lib.hid hx
      have HY := Lib.hid hy
      have i1 : (k : Int) < xs.length := by omega
      have i2 : (k : Int) < ys.length := by omega
      clear hc1 hc2 hx hy
      by_cases hxy : x = y
      · have hd : (x != y) = false := by rw [hxy]; simp
        have HXY := Lib.hid hxy
        clear hxy
        go_wp2
        go_quiet (fail)
        go_wp2
        go_roundw
        case rel => exact ⟨k + 1, by omega, by go_num, by rw [take_succ_at HX.out, take_succ_at HY.out, HTK.out, HXY.out], _, rfl⟩
        case measure => simp [intOf]; omega
      · have hd : (x != y) = true := bne_iff_ne.2 hxy
        have HXY := Lib.hid (lessL_at HTK.out HX.out HY.out hxy)
        clear hxy
        go_wp2
        go_quiet (fail)
        have g3 : ((w.drewN n).drewN nq).cell? ⟨b1, o1 + k, none⟩ = some (.int .i64 x) := g1
        have g4 : ((w.drewN n).drewN nq).cell? ⟨b2, o2 + k, none⟩ = some (.int .i64 y) := g2
        obtain ⟨nn, hnn⟩ : ∃ nn, nn = n + nq := ⟨_, rfl⟩
        go_wp2
        go_quiet (fail)
        go_wp2
        go_ret
        exact ⟨by rw [HXY.out]; rfl, _, by rw [World.drewN_drewN, World.drewN_drewN]⟩
    · have HXY := Lib.hid (show xs = ys by
        have h1 := HTK.out
        rwa [List.take_of_length_le (by omega), List.take_of_length_le (by have := HNE.out; omega)] at h1)
      go_wp2
      go_ret
      exact ⟨by rw [HXY.out, lessL_irrefl]; rfl, _, rfl⟩
end Go.Proofs.YthpnnmkpbkbanaaDoor
