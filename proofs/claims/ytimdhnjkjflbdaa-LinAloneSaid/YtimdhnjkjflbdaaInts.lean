/-
  What latchgarthsame.Ints answers.
-/
import Derived.Test.YtimdhnjkjflbdaaBase
import Derived.Deep.QuietTactic
import Derived.BigQuiet
import Derived.LoopTactic
namespace Go.Proofs.Ytimdhnjkjflbdaa
open Go.RowKit

theorem take_succ_at {α : Type} {xs : List α} {k : Nat} {x : α} (h : xs[k]? = some x) : xs.take (k + 1) = xs.take k ++ [x] := by
  have hi : k < xs.length := (List.getElem?_eq_some_iff.1 h).1
  rw [List.take_succ_eq_append_getElem hi]
  rw [List.getElem?_eq_getElem hi] at h
  rw [Option.some.inj h]

set_option maxHeartbeats 1000000 in
theorem ints_any (xs ys : List Int) (v1 v2 : Value) (B1 B2 : Nat) (w : World) (h1 : Nums w B1 v1 xs) (h2 : Nums w B2 v2 ys) :
    Calls Try.prog 10 #[v1, v2] w fun e w' => e = .returned (.bool (decide (xs = ys))) ∧ ∃ n, w' = w.drewN n := by
  obtain ⟨A1, c1, rfl, hl1, h1⟩ := h1
  obtain ⟨A2, c2, rfl, hl2, h2⟩ := h2
  have H1 := Lib.hid h1
  have H2 := Lib.hid h2
  clear h1 h2
  by_cases hne : xs.length = ys.length
  · have HNE := Lib.hid hne
    have hb : ((xs.length : Int) != (ys.length : Int)) = false := by rw [hne]; simp
    have hle : xs.length ≤ ys.length := by omega
    clear hne
    go_enter Try.func10, Try.ntmps10
    go_wp2
    go_loopw [5] (fun i wr => ∃ k : Nat, k ≤ xs.length ∧ i = .int .i64 k ∧ xs.take k = ys.take k ∧ ∃ n, wr = w.drewN n) (fun i _ => xs.length - (intOf i).toNat)
    case atStart => exact ⟨0, Nat.zero_le _, rfl, rfl, 0, rfl⟩
    case round =>
      obtain ⟨k, hk, rfl, htk, n, rfl⟩ := hrel
      have HTK := Lib.hid htk
      clear htk
      by_cases hlt : k < xs.length
      · obtain ⟨b1, o1, rfl, _, hc1⟩ := H1.out (by omega)
        obtain ⟨b2, o2, rfl, _, hc2⟩ := H2.out (by omega)
        obtain ⟨x, hx⟩ : ∃ x, xs[k]? = some x := ⟨_, List.getElem?_eq_getElem hlt⟩
        obtain ⟨y, hy⟩ : ∃ y, ys[k]? = some y := ⟨_, List.getElem?_eq_getElem (by omega)⟩
        have g1 := hc1 k x hx
        have g2 := hc2 k y hy
        have HX := Lib.hid hx
        have HY := Lib.hid hy
        have i1 : (k : Int) < xs.length := by omega
        have i2 : (k : Int) < ys.length := by omega
        clear hc1 hc2 hx hy
        by_cases hxy : x = y
        · have hd : (x != y) = false := by rw [hxy]; simp
          have HXY := Lib.hid hxy
          clear hxy
          go_wp2
          go_quiet (fail)
          go_wp2
          go_roundw
          case rel => exact ⟨k + 1, by omega, by go_num, by rw [take_succ_at HX.out, take_succ_at HY.out, HTK.out, HXY.out], _, rfl⟩
          case measure => simp [intOf]; omega
        · have hd : (x != y) = true := bne_iff_ne.2 hxy
          have HXY := Lib.hid (show xs ≠ ys from fun e => by
            have h1 := HX.out
            rw [e, HY.out] at h1
            exact hxy (Option.some.inj h1).symm)
          clear hxy
          go_wp2
          go_quiet (fail)
          go_wp2
          go_ret
          exact ⟨by rw [decide_eq_false HXY.out]; rfl, n + nq, World.drewN_drewN _ _ _⟩
      · have HXY := Lib.hid (show xs = ys by
          have h1 := HTK.out
          rwa [List.take_of_length_le (by omega), List.take_of_length_le (by have := HNE.out; omega)] at h1)
        go_wp2
        go_ret
        exact ⟨by rw [decide_eq_true HXY.out]; rfl, _, rfl⟩
  · have hb : ((xs.length : Int) != (ys.length : Int)) = true := bne_iff_ne.2 (by omega)
    have HXY := Lib.hid (show xs ≠ ys from fun e => hne (by rw [e]))
    clear hne
    go_enter Try.func10, Try.ntmps10
    go_wp2
    go_ret
    exact ⟨by rw [decide_eq_false HXY.out]; rfl, 0, rfl⟩
end Go.Proofs.Ytimdhnjkjflbdaa
