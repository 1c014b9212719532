/-
  What slices.Compare answers, and that its order is a strict weak order.
-/
import Derived.Test.YthpnnmkpbkbanaaDoorScM
import Derived.Test.YthpnnmkpbkbanaaDoorBase
import Derived.LoopTactic
import Derived.Shelf.SlSortCmp.NoneTotal
namespace Go.Proofs.YthpnnmkpbkbanaaDoor
open Go.RowKit

/-- Which of two lists comes first: below 0, 0, above 0. -/
def cmpL : List Int → List Int → Int
  | [], [] => 0
  | [], _ :: _ => -1
  | _ :: _, [] => 1
  | x :: a, y :: b => if x < y then -1 else if y < x then 1 else cmpL a b
theorem cmpL_self : ∀ a, cmpL a a = 0
  | [] => rfl
  | x :: a => by simp [cmpL, cmpL_self a]
theorem cmpL_trans : ∀ {a b c : List Int}, cmpL a b < 0 → cmpL b c < 0 → cmpL a c < 0
  | [], [], _, h, _ => by simp [cmpL] at h
  | [], _ :: _, [], _, h => by simp [cmpL] at h
  | [], _ :: _, _ :: _, _, _ => by simp [cmpL]
  | _ :: _, [], _, h, _ => by simp [cmpL] at h
  | _ :: _, _ :: _, [], _, h => by simp [cmpL] at h
  | x :: a, y :: b, z :: c, h1, h2 => by
    simp only [cmpL] at h1 h2 ⊢
    split at h1
    · split at h2
      · rw [if_pos (by omega)]; omega
      · split at h2
        · omega
        · rw [if_pos (by omega)]; omega
    · split at h1
      · omega
      · split at h2
        · rw [if_pos (by omega)]; omega
        · split at h2
          · omega
          · rw [if_neg (by omega), if_neg (by omega)]; exact cmpL_trans h1 h2
theorem cmpL_ntrans : ∀ {a b c : List Int}, ¬ cmpL a b < 0 → ¬ cmpL b c < 0 → ¬ cmpL a c < 0
  | [], [], _, _, h => h
  | [], _ :: _, _, h, _ => by simp [cmpL] at h
  | _ :: _, [], [], _, _ => by simp [cmpL]
  | _ :: _, [], _ :: _, _, h => by simp [cmpL] at h
  | _ :: _, _ :: _, [], _, _ => by simp [cmpL]
  | x :: a, y :: b, z :: c, h1, h2 => by
    simp only [cmpL] at h1 h2 ⊢
    split at h1
    · omega
    · split at h1
      · split at h2
        · omega
        · rw [if_neg (by omega), if_pos (by omega)]; omega
      · split at h2
        · omega
        · split at h2
          · rw [if_neg (by omega), if_pos (by omega)]; omega
          · rw [if_neg (by omega), if_neg (by omega)]; exact cmpL_ntrans h1 h2
theorem cmpL_less : ∀ {a b : List Int}, a.length = b.length → (cmpL a b < 0 ↔ lessL a b = true)
  | [], [], _ => by simp [cmpL, lessL]
  | [], _ :: _, h => by simp at h
  | _ :: _, [], h => by simp at h
  | x :: a, y :: b, h => by
    simp only [cmpL, lessL]
    have ih := cmpL_less (a := a) (b := b) (by simpa using h)
    by_cases h1 : x < y
    · simp [h1]; omega
    · by_cases h2 : y < x
      · simp [h1, h2]; omega
      · have e : x = y := by omega
        subst e
        simpa using ih

theorem isNaN_any (x : Int) (w : World) : Calls Tryd.prog 69 #[.int .i64 x] w fun e w' => e = .returned (.bool false) ∧ w = w' := by
  go_enter Tryd.func69, Tryd.ntmps69
  go_wp2
  go_ret
  exact ⟨by simp, rfl⟩
def cmpI (x y : Int) : Int := if x < y then -1 else if y < x then 1 else 0
theorem cmpInt_any (x y : Int) (w : World) : Calls Tryd.prog 51 #[.int .i64 x, .int .i64 y] w fun e w' => e = .returned (.int .i64 (cmpI x y)) ∧ w = w' := by
  by_cases h1 : x < y
  · go_enter Tryd.func51, Tryd.ntmps51
    go_wp2_with (go_at_call 69; refine (isNaN_any _ _).mono ?_; rintro e w' ⟨rfl, rfl⟩)
    go_ret
    exact ⟨by simp [cmpI, h1], rfl⟩
  · by_cases h2 : y < x
    · go_enter Tryd.func51, Tryd.ntmps51
      go_wp2_with (go_at_call 69; refine (isNaN_any _ _).mono ?_; rintro e w' ⟨rfl, rfl⟩)
      go_ret
      exact ⟨by rw [cmpI, if_neg (by omega), if_pos h2]; rfl, rfl⟩
    · go_enter Tryd.func51, Tryd.ntmps51
      go_wp2_with (go_at_call 69; refine (isNaN_any _ _).mono ?_; rintro e w' ⟨rfl, rfl⟩)
      go_ret
      exact ⟨by rw [cmpI, if_neg (by omega), if_neg (by omega)]; rfl, rfl⟩
theorem drop_at {xs : List Int} {k : Nat} {x : Int} (h : xs[k]? = some x) : xs.drop k = x :: xs.drop (k + 1) := by
  obtain ⟨hk, e⟩ := List.getElem?_eq_some_iff.1 h
  rw [List.drop_eq_getElem_cons hk, e]

set_option maxHeartbeats 1000000 in
theorem compare_any (va vb : Value) (xs ys : List Int) (w : World) (B : Nat) (ha : Nums w B va xs) (hb : Nums w B vb ys) :
    Calls Tryd.prog 28 #[va, vb] w fun e w' => e = .returned (.int .i64 (cmpL xs ys)) ∧ w = w' := by
  obtain ⟨A1, c1, rfl, hl1, hc1⟩ := ha
  obtain ⟨A2, c2, rfl, hl2, hc2⟩ := hb
  have H1 := Lib.hid hc1
  have H2 := Lib.hid hc2
  clear hc1 hc2
  go_enter Tryd.func28, Tryd.ntmps28
  go_wp2_with fail
  go_loop [11] (fun i => ∃ k : Nat, k ≤ xs.length ∧ k ≤ ys.length ∧ i = .int .i64 k ∧ cmpL (xs.drop k) (ys.drop k) = cmpL xs ys) (fun i => xs.length - (intOf i).toNat)
  case atStart => exact ⟨0, Nat.zero_le _, Nat.zero_le _, rfl, rfl⟩
  case round =>
    obtain ⟨k, hk1, hk2, rfl, hcmp⟩ := hrel
    have HC := Lib.hid hcmp
    clear hcmp
    by_cases h1 : k < xs.length
    · obtain ⟨b, o, rfl, hb, hc⟩ := H1.out (by omega)
      have hx : xs[k]? = some xs[k] := List.getElem?_eq_getElem h1
      generalize xs[k] = x at hx
      have hcx := hc k x hx
      have HX := Lib.hid hx
      clear hc hx
      by_cases h2 : k < ys.length
      · obtain ⟨b2, o2, rfl, hb2, hc2⟩ := H2.out (by omega)
        have hy : ys[k]? = some ys[k] := List.getElem?_eq_getElem h2
        generalize ys[k] = y at hy
        have hcy := hc2 k y hy
        have HY := Lib.hid hy
        clear hc2 hy
        have hstep : cmpL (xs.drop k) (ys.drop k) = if x < y then -1 else if y < x then 1 else cmpL (xs.drop (k + 1)) (ys.drop (k + 1)) := by rw [drop_at HX.out, drop_at HY.out]; rfl
        have HS := Lib.hid hstep
        clear hstep
        by_cases hlt : x < y
        · have HI := Lib.hid (show cmpI x y = -1 by simp [cmpI, hlt])
          go_wp2_with (go_at_call 51; refine (cmpInt_any _ _ _).mono ?_; rw [HI.out]; rintro e w' ⟨rfl, rfl⟩)
          go_ret
          exact ⟨by rw [← HC.out, HS.out, if_pos hlt]; rfl, rfl⟩
        · by_cases hgt : y < x
          · have HI := Lib.hid (show cmpI x y = 1 by simp [cmpI, hlt, hgt])
            go_wp2_with (go_at_call 51; refine (cmpInt_any _ _ _).mono ?_; rw [HI.out]; rintro e w' ⟨rfl, rfl⟩)
            go_ret
            exact ⟨by rw [← HC.out, HS.out, if_neg (by omega), if_pos hgt]; rfl, rfl⟩
          · have HI := Lib.hid (show cmpI x y = 0 by simp [cmpI, hlt, hgt])
            go_wp2_with (go_at_call 51; refine (cmpInt_any _ _ _).mono ?_; rw [HI.out]; rintro e w' ⟨rfl, rfl⟩)
            go_round
            case rel => exact ⟨k + 1, by omega, by omega, by go_num, by rw [← HC.out, HS.out, if_neg (by omega), if_neg (by omega)]⟩
            case measure => simp [intOf]; omega
      · have hlen2 : ys.length ≤ k := by omega
        have HV := Lib.hid (show cmpL xs ys = 1 by rw [← HC.out, drop_at HX.out, show ys.drop k = [] from List.drop_eq_nil_of_le (by omega)]; rfl)
        go_wp2_with fail
        go_ret
        exact ⟨by rw [HV.out]; rfl, rfl⟩
    · by_cases h3 : xs.length < ys.length
      · have HV := Lib.hid (show cmpL xs ys = -1 by
          rw [← HC.out, show xs.drop k = [] from List.drop_eq_nil_of_le (by omega), drop_at (List.getElem?_eq_getElem (show k < ys.length by omega))]; rfl)
        go_wp2_with fail
        go_ret
        exact ⟨by rw [HV.out]; rfl, rfl⟩
      · have HV := Lib.hid (show cmpL xs ys = 0 by rw [← HC.out, show xs.drop k = [] from List.drop_eq_nil_of_le (by omega), show ys.drop k = [] from List.drop_eq_nil_of_le (by omega)]; rfl)
        go_wp2_with fail
        go_ret
        exact ⟨by rw [HV.out]; rfl, rfl⟩
end Go.Proofs.YthpnnmkpbkbanaaDoor
