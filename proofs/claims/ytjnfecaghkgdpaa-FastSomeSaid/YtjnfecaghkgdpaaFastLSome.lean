/-
  The walk of latchgarthlaw2.FastSome: it answers true, whatever the number of hands and the script.
-/
import Derived.Test.YtjnfecaghkgdpaaFastFact
namespace Go.Proofs.Ytjnfecaghkgdpaa.Fast
open Go.RowKit

/-- All do a line in turn. -/
def lrun (n : Nat) (s : LSt) : Nat → LSt
  | 0 => s
  | t + 1 => lkStep n (lrun n s t) ((t % n : Nat) : Int)
theorem turn_mod {n r q : Nat} (hq : q < n) : (r * n + q) % n = q := by rw [Nat.add_comm, Nat.mul_comm, Nat.add_mul_mod_self_left, Nat.mod_eq_of_lt hq]
theorem vcnt_le (n : Nat) (S : Nat → VS) : ∀ t, vcnt n S t ≤ t
  | 0 => Nat.le_refl _
  | t + 1 => by
    have := vcnt_le n S t
    rw [vcnt]
    split <;> omega
theorem vcnt_in {n : Nat} {s : LSt} {t q : Nat} (hq : t % n = q) (hqn : q < n) (h : lkAt n (lrun n s (t + 1)) q = 12) : vcnt n (lrun n s) (t + 1) = vcnt n (lrun n s) t + 1 := by
  rw [lkAt_in hqn] at h
  rw [vcnt, hq, if_pos h]
theorem vcnt_out {n : Nat} {s : LSt} {t q : Nat} (hq : t % n = q) (hqn : q < n) (h : ¬ lkAt n (lrun n s (t + 1)) q = 12) : vcnt n (lrun n s) (t + 1) = vcnt n (lrun n s) t := by
  rw [lkAt_in hqn] at h
  rw [vcnt, hq, if_neg h]; rfl
theorem lrun_some {n : Nat} {s : LSt} (h : lkOk n s) (h1 : 1 ≤ n) (h4 : n ≤ 4) : 3 ≤ vcnt n (lrun n s) (200 * n) :=
  fast_some h1 h4 h fun t => by rw [lrun, lkStep_in (Nat.mod_lt _ h1)]

set_option maxHeartbeats 4000000 in
theorem some_law (z : Int) (sv : Value) (script : List Int) (w : World) (hn : Nums w w.heap.size sv script) :
    Calls Try.prog 4 #[.int .i64 z, sv] w fun e w' => e = .returned (.bool true) ∧ Below w.heap.size w w' := by
  obtain ⟨A, c, rfl, hlen, hn⟩ := hn
  have HN := Lib.hid hn
  clear hn
  by_cases hz : 1 ≤ z ∧ z ≤ 4
  · obtain ⟨n, rfl⟩ := Int.eq_ofNat_of_zero_le (show 0 ≤ z by omega)
    have h1 : 1 ≤ n := by omega
    have h4 : n ≤ 4 := by omega
    clear hz
    go_enter Try.func4, Try.ntmps4
    go_wp2_with (first | (go_at_call 6; refine (fact_any _).mono ?_; rintro e w1 ⟨rfl, hb⟩; have HB := Lib.hid hb; clear hb) | (go_at_call 7; refine (newL HB.out h1 h4).mono ?_; rintro e w2 ⟨g, rfl, hl⟩; have HL := Lib.hid hl; clear hl))
    go_loopw [8] (fun i wr => ∃ (k : Nat) (s : LSt), k ≤ script.length ∧ i = .int .i64 k ∧ k ≤ 200 ∧ LkAt w wr g n s k) (fun i _ => script.length - (intOf i).toNat)
    case atStart => exact ⟨0, _, by omega, rfl, by omega, HL.out⟩
    case round =>
      clear HL
      obtain ⟨k, s, hk, rfl, hk4, hl⟩ := hrel
      have HL := Lib.hid hl
      by_cases hgo : k < script.length ∧ k < 200
      · have hI : (k : Int) < script.length := by omega
        have h4I : (k : Int) < 200 := by omega
        obtain ⟨hlt, _⟩ := hgo
        obtain ⟨b, o, rfl, hbb, hcc⟩ := HN.out (by omega)
        obtain ⟨x, hx⟩ : ∃ x, script[k]? = some x := ⟨script[k], List.getElem?_eq_getElem hlt⟩
        have hxc := (hl.below.cell (p := ⟨b, o + k, none⟩) hbb).trans (hcc k x hx)
        have HX := Lib.hid hx
        clear hcc hx hl
        go_wp2_with (go_at_call 8; (with_reducible refine (stepL HL.out (by omega) x).mono ?_); rintro e w3 ⟨rfl, hl⟩; have H3 := Lib.hid hl; clear hl)
        go_roundw
        case rel => exact ⟨k + 1, _, by omega, by go_num, by omega, H3.out⟩
        case measure => simp [intOf]; omega
      · clear hl
        have hh : (k : Int) < script.length ∧ ¬ (k : Int) < 200 ∨ ¬ (k : Int) < script.length := by omega
        clear hgo
        rcases hh with ⟨hI, hJ⟩ | hI
        all_goals
          go_wp2
          go_loopw [9, 10] (fun m i wr => ∃ r : Nat, r ≤ 200 ∧ i = .int .i64 r ∧ m = .int .i64 (vcnt n (lrun n s) (r * n) : Nat) ∧ LkAt w wr g n (lrun n s (r * n)) (k + r * n)) (fun _ i _ => 200 - (intOf i).toNat)
          case atStart => exact ⟨0, by omega, rfl, by rw [Nat.zero_mul]; rfl, by rw [Nat.zero_mul]; exact HL.out⟩
          case round =>
            obtain ⟨r, hr, rfl, rfl, hl⟩ := hrel
            have HL1 := Lib.hid hl
            clear hl
            by_cases hr6 : r < 200
            · have hrI : (r : Int) < 200 := by omega
              go_wp2
              go_loopw [9, 11] (fun m q wr => ∃ j : Nat, j ≤ n ∧ q = .int .i64 j ∧ m = .int .i64 (vcnt n (lrun n s) (r * n + j) : Nat) ∧ LkAt w wr g n (lrun n s (r * n + j)) (k + (r * n + j))) (fun _ q _ => n - (intOf q).toNat)
              case atStart => exact ⟨0, by omega, rfl, rfl, HL1.out⟩
              case round =>
                clear HL1
                obtain ⟨j, hj, rfl, rfl, hl⟩ := hrel
                have HL2 := Lib.hid hl
                clear hl
                by_cases hjn : j < n
                · have hjI : (j : Int) < n := by omega
                  have hrn : r * n ≤ 200 * 4 := Nat.mul_le_mul (by omega) h4
                  have HAG := Lib.hid (show k + (r * n + j) ≤ 100000 by omega)
                  have HE := Lib.hid (show lkStep n (lrun n s (r * n + j)) (j : Int) = lrun n s (r * n + (j + 1)) by rw [← Nat.add_assoc, lrun, turn_mod hjn])
                  have hvc := vcnt_le n (lrun n s) (r * n + j)
                  by_cases h5 : lkAt n (lrun n s (r * n + (j + 1))) j = 12
                  · have e5 : (((lkAt n (lrun n s (r * n + (j + 1))) j : Nat) : Int) == 12) = true := beq_iff_eq.2 (by omega)
                    have HM3 := Lib.hid (show vcnt n (lrun n s) (r * n + (j + 1)) = vcnt n (lrun n s) (r * n + j) + 1 from vcnt_in (turn_mod hjn) hjn h5)
                    have hwv : IntKind.i64.wrap (((vcnt n (lrun n s) (r * n + j) : Nat) : Int) + 1) = ((vcnt n (lrun n s) (r * n + j) : Nat) : Int) + 1 := IntWalk.i64_in _ (by omega)
                    clear h5 hvc hrn
                    go_wp2_with (first | (go_at_call 8; (with_reducible refine (stepG HL2.out HAG.out j (by omega) hjI).mono ?_); rw [HE.out]; rintro e w3 ⟨rfl, hl, -⟩; have H3 := Lib.hid hl; clear hl) | (go_at_call 9; (with_reducible refine (atL H3.out j).mono ?_); rintro e w4 ⟨rfl, rfl⟩))
                    go_roundw
                    case rel => exact ⟨j + 1, by omega, by go_num, by rw [HM3.out]; go_num, H3.out⟩
                    case measure => simp [intOf]; omega
                  · have e5 : (((lkAt n (lrun n s (r * n + (j + 1))) j : Nat) : Int) == 12) = false := beq_eq_false_iff_ne.2 (by omega)
                    have HM3 := Lib.hid (show vcnt n (lrun n s) (r * n + (j + 1)) = vcnt n (lrun n s) (r * n + j) from vcnt_out (turn_mod hjn) hjn h5)
                    clear h5 hvc hrn
                    go_wp2_with (first | (go_at_call 8; (with_reducible refine (stepG HL2.out HAG.out j (by omega) hjI).mono ?_); rw [HE.out]; rintro e w3 ⟨rfl, hl, -⟩; have H3 := Lib.hid hl; clear hl) | (go_at_call 9; (with_reducible refine (atL H3.out j).mono ?_); rintro e w4 ⟨rfl, rfl⟩))
                    go_roundw
                    case rel => exact ⟨j + 1, by omega, by go_num, by rw [HM3.out], H3.out⟩
                    case measure => simp [intOf]; omega
                · obtain rfl : j = n := by omega
                  have hjI : ¬ (j : Int) < j := by omega
                  have e1 : r * j + j = (r + 1) * j := by rw [Nat.succ_mul]
                  rw [e1] at HL2 ⊢
                  clear e1
                  go_wp2
                  go_roundw
                  case rel => exact ⟨r + 1, by omega, by go_num, rfl, HL2.out⟩
                  case measure => simp [intOf]; omega
            · obtain rfl : r = 200 := by omega
              have hge := lrun_some HL.out.ok h1 h4
              obtain ⟨M, hM⟩ : ∃ M, M = vcnt n (lrun n s) (200 * n) := ⟨_, rfl⟩
              rw [← hM] at hge ⊢
              have hgI : (3 : Int) ≤ M := by omega
              clear hM hge
              go_wp2
              go_ret
              exact ⟨rfl, HL1.out.below⟩
  · have HZ := Lib.hid hz
    by_cases hz1 : z < 1
    all_goals
      clear hz
      go_enter Try.func4, Try.ntmps4
      go_wp2_with (first | (go_at_call 6; refine (fact_any _).mono ?_; rintro e w1 ⟨rfl, hb⟩; have HB := Lib.hid hb; clear hb) | (go_at_call 7; refine (newBad HB.out z HZ.out).mono ?_; rw [errV_one]; rintro e w2 ⟨rfl, hb⟩; have HB2 := Lib.hid hb; clear hb))
      go_ret
      first | exact ⟨rfl, HB2.out⟩ | exact ⟨congrArg (fun b => Ending.returned (.bool b)) (bad_true HZ.out), HB2.out⟩
end Go.Proofs.Ytjnfecaghkgdpaa.Fast
