/-
  What latchgarthlaw1.below answers.
-/
import Derived.Test.YtkohobbjnafljaaHas
namespace Go.Proofs.Ytkohobbjnafljaa
open Go.RowKit

theorem lessL_at : ∀ (k : Nat) (xs ys : List Int) (x y : Int), xs.take k = ys.take k → xs[k]? = some x → ys[k]? = some y → x ≠ y → lessL xs ys = decide (x < y)
  | _, [], _, _, _, _, h, _, _ => by simp at h
  | _, _ :: _, [], _, _, _, _, h, _ => by simp at h
  | 0, a :: xs, b :: ys, x, y, _, hx, hy, hne => by
    simp at hx hy
    subst hx
    subst hy
    simp [lessL, hne]
  | k + 1, a :: xs, b :: ys, x, y, ht, hx, hy, hne => by
    rw [List.take_succ_cons, List.take_succ_cons] at ht
    injection ht with h1 h2
    subst h1
    rw [lessL, if_pos rfl]
    exact lessL_at k xs ys x y h2 (by simpa using hx) (by simpa using hy) hne

set_option maxHeartbeats 1000000 in
theorem below_any (xs ys : List Int) (v1 v2 : Value) (B1 B2 : Nat) (w : World) (hle : xs.length = ys.length) (h1 : Nums w B1 v1 xs) (h2 : Nums w B2 v2 ys) :
    Calls Try.prog 13 #[v1, v2] w fun e w' => e = .returned (.bool (lessL xs ys)) ∧ ∃ n, w' = w.drewN n := by
  obtain ⟨A1, c1, rfl, hl1, h1⟩ := h1
  obtain ⟨A2, c2, rfl, hl2, h2⟩ := h2
  have H1 := Lib.hid h1
  have H2 := Lib.hid h2
  clear h1 h2
  go_enter Try.func13, Try.ntmps13
  go_wp2
  go_loopw [5] (fun i wr => ∃ k : Nat, k ≤ xs.length ∧ i = .int .i64 k ∧ xs.take k = ys.take k ∧ ∃ n, wr = w.drewN n) (fun i _ => xs.length - (intOf i).toNat)
  case atStart => exact ⟨0, Nat.zero_le _, rfl, rfl, 0, rfl⟩
  case round =>
    obtain ⟨k, hk, rfl, htk, n, rfl⟩ := hrel
    have HTK := Lib.hid htk
    clear htk
    by_cases hlt : k < xs.length
    · obtain ⟨b1, o1, rfl, _, hc1⟩ := H1.out (by omega)
      obtain ⟨b2, o2, rfl, _, hc2⟩ := H2.out (by omega)
      obtain ⟨x, hx⟩ : ∃ x, xs[k]? = some x := ⟨_, List.getElem?_eq_getElem hlt⟩
      obtain ⟨y, hy⟩ : ∃ y, ys[k]? = some y := ⟨_, List.getElem?_eq_getElem (by omega)⟩
      have g1 := hc1 k x hx
      have g2 := hc2 k y hy
      have HX := Lib.hid hx
      have HY := Lib.hid hy
      have i1 : (k : Int) < xs.length := by omega
      have i2 : (k : Int) < ys.length := by omega
      clear hc1 hc2 hx hy
      by_cases hxy : x = y
      · have hd : (x != y) = false := by rw [hxy]; simp
        have HXY := Lib.hid hxy
        clear hxy
        go_wp2
        go_quiet (fail)
        go_wp2
        go_roundw
        case rel => exact ⟨k + 1, by omega, by go_num, by rw [take_succ_at HX.out, take_succ_at HY.out, HTK.out, HXY.out], _, rfl⟩
        case measure => simp [intOf]; omega
      · have hd : (x != y) = true := bne_iff_ne.2 hxy
        have HXY := Lib.hid hxy
        clear hxy
        go_wp2
        go_quiet (fail)
        go_wp2
        go_quiet (fail)
        go_wp2
        go_ret
        exact ⟨by rw [lessL_at k xs ys x y HTK.out HX.out HY.out HXY.out]; rfl, _, (congrArg (World.drewN · _) (World.drewN_drewN _ _ _)).trans (World.drewN_drewN _ _ _)⟩
    · have hi1 : ¬ (k : Int) < xs.length := by omega
      have HXY := Lib.hid (show xs = ys by
        have h1 := HTK.out
        rwa [List.take_of_length_le (by omega), List.take_of_length_le (by omega)] at h1)
      go_wp2
      go_ret
      exact ⟨by rw [HXY.out, lessL_irrefl]; rfl, _, rfl⟩
end Go.Proofs.Ytkohobbjnafljaa
