/-
  The walk of latchgarthtop.TopQueues: it answers true, whatever is put and got.
-/
import Derived.Test.YtihidjbepjeceaaTopQTwo
import Derived.Test.YtihidjbepjeceaaRws
import Derived.Deep.DeepCutAuto
import Derived.Deep.CutBlock
namespace Go.Proofs.Ytihidjbepjeceaa.TopQ
open Go.RowKit

set_option maxHeartbeats 8000000 in
set_option maxRecDepth 100000 in
theorem queues_law (sv : Value) (steps : List Int) (w : World) (hn : Nums w w.heap.size sv steps) :
    Calls Try.prog 4 #[sv] w fun e w' => e = .returned (.bool true) ∧ Below w.heap.size w w' := by
  obtain ⟨A, c, rfl, hlen, -⟩ := id hn
  have HN := Lib.hid hn
  clear hn
  go_enter Try.func4, Try.ntmps4
  go_upto_region 5 with (first | (go_at_call 11; refine (Fif.newL (n := 1) (Below.refl _ _) (by omega) (by omega)).mono ?_; rintro e w1 ⟨gq, rfl, hl⟩; have HQ := Lib.hid hl; clear hl) | (go_at_call 6; refine (Ring.newL (n := 8) HQ.out.below (by omega) (by omega)).mono ?_; rintro e w2 ⟨gr, rfl, hl, hge, hb⟩; have HT0 := Lib.hid (show TQ w w2 gq gr fgnew (fun _ => 0) rgnew from ⟨HQ.out.on hb (Nat.le_refl _), hl, by have := HQ.out.lt; omega⟩); clear hl hge hb))
  have HI0 := Lib.hid (show TI fgnew (fun _ => 0) rgnew 0 0 from ⟨FI.new, ⟨rfl, rfl, rfl, rfl⟩, fun y hy => absurd hy (Nat.not_lt_zero _)⟩)
  clear HQ
  go_wp2_with fail
  go_loopw [7, 8, 9] (fun u0 u1 i wr => ∃ (k m j M : Nat) (s : FG) (vl : Nat → Int) (r : RGS), k ≤ steps.length ∧ i = .int .i64 k ∧ k ≤ 60 ∧ M + j = m ∧ u0 = .int .i64 M ∧ u1 = .int .i64 m ∧ M ≤ 8 ∧ m ≤ 39 ∧ TQ w wr gq gr s vl r ∧ TI s vl r m j) (fun _ _ i _ => steps.length - (intOf i).toNat)
  case atStart => exact ⟨0, 0, 0, 0, _, _, _, by omega, rfl, by omega, rfl, rfl, rfl, by omega, by omega, HT0.out, HI0.out⟩
  case round =>
    clear HT0 HI0
    obtain ⟨k, m, i0, M, s, vl, r, hk, rfl, hk2, hM, rfl, rfl, hM8, hm39, htq, hti⟩ := hrel
    have HT := Lib.hid htq
    have HI := Lib.hid hti
    clear hti
    by_cases hgo : k < steps.length ∧ k < 60
    · have hI : (k : Int) < steps.length := by omega
      have h2I : (k : Int) < 60 := by omega
      obtain ⟨hlt, hk60⟩ := hgo
      obtain ⟨x, hx⟩ : ∃ l, steps[k]? = some l := ⟨steps[k], List.getElem?_eq_getElem hlt⟩
      obtain ⟨b, o, rfl, hbw, hxc⟩ := (HN.out.below htq.q.below (Nat.le_refl _)).at_ hx
      have HX := Lib.hid (show ∀ W, Below w.heap.size w W → W.cell? ⟨b, o + k, none⟩ = some (.int .i64 x) from fun W hb => (hb.cell (p := ⟨b, o + k, none⟩) hbw).trans ((htq.q.below.cell (p := ⟨b, o + k, none⟩) hbw).symm.trans hxc))
      clear hx htq
      by_cases h0x : 0 ≤ x
      · obtain ⟨y, rfl⟩ := Int.eq_ofNat_of_zero_le h0x
        clear h0x
        by_cases h8 : M = 8
        · have hB : ((M : Int) == 8) = true := by simp; omega
          have HH := Lib.hid hM
          clear hM h8
          go_wp2
          go_roundw
          case rel => exact ⟨k + 1, m, i0, M, s, vl, r, by omega, by go_num, by omega, HH.out, rfl, rfl, hM8, hm39, HT.out, HI.out⟩
          case measure => simp [intOf]; omega
        have hB : ((M : Int) == 8) = false := by simp; omega
        by_cases h39 : m = 39
        · have hC : ((m : Int) == 39) = true := by simp; omega
          have HH := Lib.hid hM
          clear hM h8 h39
          go_wp2
          go_roundw
          case rel => exact ⟨k + 1, m, i0, M, s, vl, r, by omega, by go_num, by omega, HH.out, rfl, rfl, hM8, hm39, HT.out, HI.out⟩
          case measure => simp [intOf]; omega
        have hC : ((m : Int) == 39) = false := by simp; omega
        by_cases hy : 1000 < y
        · have hyI : 1000 < (y : Int) := by omega
          have HH := Lib.hid hM
          clear hM h8 h39 hy
          go_wp2
          go_roundw
          case rel => exact ⟨k + 1, m, i0, M, s, vl, r, by omega, by go_num, by omega, HH.out, rfl, rfl, hM8, hm39, HT.out, HI.out⟩
          case measure => simp [intOf]; omega
        have hyI : ¬ 1000 < (y : Int) := by omega
        have HM := Lib.hid (show M + i0 = m ∧ M < 8 ∧ m < 39 from ⟨hM, by omega, by omega⟩)
        obtain ⟨S, hS0, hfr, hfi⟩ := put_seq (vl := rput vl s.v.k y) HI.out.f
        obtain ⟨RR', hR0, hrp, hri, hps⟩ := rput_seq HI.out.g (by omega) (by omega) y
        have HP := Lib.hid (HT.out.putq HI.out.f.a (by rw [HI.out.f.k]; omega) y (by omega))
        rw [← hS0] at HP
        have HPA := Lib.hid HI.out.g.pa
        have HR0 := Lib.hid hR0
        have HFR := Lib.hid hfr
        have HRP := Lib.hid hrp
        have HEND := Lib.hid (show TI (S 4) (rput vl s.v.k y) (RR' 3) (m + 1) i0 from ⟨hfi, hri, fun z hz => by
          rw [hps, HI.out.f.k]
          by_cases e : z = m
          · rw [e, rput_same, gup_same]
          · rw [rput_other (by omega), gup_other e]; exact HI.out.same z (by omega)⟩)
        obtain ⟨vl', hvl⟩ : ∃ v, v = rput vl s.v.k y := ⟨_, rfl⟩
        rw [← hvl] at HP HFR HEND
        clear hM h8 h39 hS0 hfr hfi hR0 hrp hri hps hvl HI hM8 hm39 hy
        go_upto_region 14 with (first | (go_at_call 12; (with_reducible refine HP.out.mono ?_); rintro e w1 ⟨rfl, ht⟩; have HT1 := Lib.hid ht; have hxc := HX.out _ ht.q.below; clear ht) | (go_at_call 8; (with_reducible refine (HT1.out.putr HPA.out _ (by omega)).mono ?_); rintro e w2 ⟨rfl, ht⟩; have HT2 := Lib.hid ht; clear ht))
        rw [← HR0.out] at HT2
        clear HP HX HPA
        go_wp2_with fail
        go_loopw [10, 11] (fun dn kk wr => ∃ j : Nat, j ≤ 4 ∧ kk = .int .i64 j ∧ dn = .bool (decide (j = 4)) ∧ TQ w wr gq gr (S j) vl' (RR' 0)) (fun _ kk _ => 4 - (intOf kk).toNat)
        case atStart => exact ⟨0, by omega, rfl, rfl, HT2.out⟩
        case round =>
          clear HT2
          obtain ⟨j, hj, rfl, rfl, ht⟩ := hrel
          have HT2 := Lib.hid ht
          clear ht
          by_cases h4 : j < 4
          · have hj8 : (j : Int) < 8 := by omega
            have HST := Lib.hid (HT2.out.stepq HFR.out h4)
            rw [decide_eq_false (show ¬ j = 4 by omega)]
            obtain ⟨D, hD⟩ : ∃ D, D = decide (j + 1 = 4) := ⟨_, rfl⟩
            obtain ⟨G, hG⟩ : ∃ G, G = (if j + 1 = 4 then (-1 : Int) else 0) := ⟨_, rfl⟩
            rw [← hD, ← hG] at HST
            have HD := Lib.hid hD
            clear hD hG
            go_wp2_with (go_at_call 13; (with_reducible refine HST.out.mono ?_); rintro e w3 ⟨rfl, ht⟩; have HT3 := Lib.hid ht; clear ht)
            go_roundw
            case rel => exact ⟨j + 1, by omega, by go_num, by rw [HD.out], HT3.out⟩
            case measure => simp [intOf]; omega
          · obtain rfl : j = 4 := by omega
            rw [show decide ((4 : Nat) = 4) = true from rfl, show ((4 : Nat) : Int) = 4 from rfl]
            go_wp2_with fail
            go_loopw [15, 16] (fun dn kk wr => ∃ j : Nat, j ≤ 3 ∧ kk = .int .i64 j ∧ dn = .bool (decide (j = 3)) ∧ TQ w wr gq gr (S 4) vl' (RR' j)) (fun _ kk _ => 3 - (intOf kk).toNat)
            case atStart => exact ⟨0, by omega, rfl, rfl, HT2.out⟩
            case round =>
              clear HT2
              obtain ⟨j, hj, rfl, rfl, ht⟩ := hrel
              have HT2 := Lib.hid ht
              clear ht
              by_cases h4 : j < 3
              · have hj8 : (j : Int) < 4 := by omega
                have HST := Lib.hid (HT2.out.stepp HRP.out h4)
                rw [decide_eq_false (show ¬ j = 3 by omega)]
                by_cases hl : j + 1 = 3
                · rw [decide_eq_true hl] at HST
                  have HL := Lib.hid hl
                  clear hl
                  go_wp2_with (go_at_call 9; (with_reducible refine HST.out.mono ?_); rintro e w3 ⟨rfl, ht⟩; have HT3 := Lib.hid ht; clear ht)
                  go_roundw
                  case rel => exact ⟨j + 1, by omega, by go_num, by rw [decide_eq_true HL.out], HT3.out⟩
                  case measure => simp [intOf]; omega
                · rw [decide_eq_false hl] at HST
                  have HL := Lib.hid hl
                  clear hl
                  go_wp2_with (go_at_call 9; (with_reducible refine HST.out.mono ?_); rintro e w3 ⟨rfl, ht⟩; have HT3 := Lib.hid ht; clear ht)
                  go_roundw
                  case rel => exact ⟨j + 1, by omega, by go_num, by rw [decide_eq_false HL.out], HT3.out⟩
                  case measure => simp [intOf]; omega
              · obtain rfl : j = 3 := by omega
                rw [show decide ((3 : Nat) = 3) = true from rfl, show ((3 : Nat) : Int) = 3 from rfl]
                obtain ⟨M1, hM1⟩ : ∃ M1, M1 = M + 1 := ⟨_, rfl⟩
                obtain ⟨m1, hm1⟩ : ∃ m1, m1 = m + 1 := ⟨_, rfl⟩
                have hw1 : IntKind.i64.wrap ((M : Int) + 1) = (M1 : Int) := (IntWalk.i64_in _ (by have := HM.out; omega)).trans (by omega)
                have hw2 : IntKind.i64.wrap ((m : Int) + 1) = (m1 : Int) := (IntWalk.i64_in _ (by have := HM.out; omega)).trans (by omega)
                have HM1 := Lib.hid (show M1 = M + 1 ∧ m1 = m + 1 from ⟨hM1, hm1⟩)
                clear hM1 hm1
                go_wp2
                go_roundw
                case rel => exact ⟨k + 1, m1, i0, M1, S 4, vl', RR' 3, by omega, by go_num, by omega, by have := HM.out; have := HM1.out; omega, rfl, rfl, by have := HM.out; have := HM1.out; omega, by have := HM.out; have := HM1.out; omega, HT2.out, by rw [HM1.out.2]; exact HEND.out⟩
                case measure => simp [intOf]; omega
      · have HM := Lib.hid (show M + i0 = m ∧ M ≤ 8 ∧ m ≤ 39 from ⟨hM, hM8, hm39⟩)
        obtain ⟨N, X, S, hS0, hfr, K, RR', hR0, hrr, MF, hend⟩ : ∃ (N : Nat) (X : Int) (S : Nat → FG), S 0 = fgget s 0 ∧ FR S N X vl ∧ ∃ (K : Nat) (RR' : Nat → RGS), RR' 0 = rgget r ∧ RR RR' K X ∧ ∃ i1 : Nat, (TI (S N) vl (RR' K) m i1 ∧ N ≤ 4 ∧ 1 ≤ N ∧ K ≤ 3 ∧ 1 ≤ K ∧ -1 ≤ X ∧ (M = 0 → X = -1 ∧ i1 = i0) ∧ (M ≠ 0 → X ≠ -1 ∧ i1 = i0 + 1)) := by
          by_cases him : i0 < m
          · obtain ⟨S, a1, a2, a3⟩ := get_seq (vl := vl) HI.out.f him
            obtain ⟨RR', b1, b2, b3, b4⟩ := rget_seq HT.out.r.ok HI.out.g him (by omega)
            have hv : vl (i0 + 1) = ((r.puts i0 : Nat) : Int) := HI.out.same i0 him
            refine ⟨4, _, S, a1, a2, 3, RR', b1, by rw [hv]; exact b2, i0 + 1, ⟨a3, b3, fun y hy => by rw [b4]; exact HI.out.same y hy⟩, by omega, by omega, by omega, by omega, by rw [hv]; omega, fun h => by omega, fun h => ⟨by rw [hv]; omega, rfl⟩⟩
          · have hie : i0 = m := by omega
            obtain ⟨S, a1, a2, a3⟩ := get_none (vl := vl) HI.out.f hie
            obtain ⟨RR', b1, b2, b3, b4⟩ := rget_none HI.out.g hie (by omega)
            exact ⟨3, -1, S, a1, a2, 1, RR', b1, b2, i0, ⟨a3, b3, fun y hy => by rw [b4]; exact HI.out.same y hy⟩, by omega, by omega, by omega, by omega, by omega, fun _ => ⟨rfl, rfl⟩, fun h => by omega⟩
        have HP := Lib.hid (HT.out.getq HI.out.f.a)
        rw [← hS0] at HP
        have HPA := Lib.hid HI.out.g.ga
        have HR0 := Lib.hid hR0
        have HFR := Lib.hid hfr
        have HRP := Lib.hid hrr
        have HEND := Lib.hid hend
        clear hM hS0 hfr hR0 hrr hend HI hM8 hm39 HX
        go_upto_region 36 with (first | (go_at_call 14; (with_reducible refine HP.out.mono ?_); rintro e w1 ⟨rfl, ht⟩; have HT1 := Lib.hid ht; clear ht) | (go_at_call 7; (with_reducible refine (HT1.out.getr HPA.out).mono ?_); rintro e w2 ⟨rfl, ht⟩; have HT2 := Lib.hid ht; clear ht))
        rw [← HR0.out] at HT2
        clear HP HPA hxc
        go_wp2_with fail
        go_loopw [20, 21] (fun xx kk wr => ∃ j : Nat, j ≤ N ∧ kk = .int .i64 j ∧ xx = .int .i64 (if j = N then X else -2) ∧ TQ w wr gq gr (S j) vl (RR' 0)) (fun _ kk _ => 4 - (intOf kk).toNat)
        case atStart => exact ⟨0, by omega, rfl, by rw [if_neg (by have := HEND.out.2.2.1; omega)], HT2.out⟩
        case round =>
          clear HT2
          obtain ⟨j, hj, rfl, rfl, ht⟩ := hrel
          have HT2 := Lib.hid ht
          clear ht
          have hN4 := HEND.out.2.1
          have hX1 := HEND.out.2.2.2.2.2.1
          by_cases h4 : j < N
          · have hj8 : (j : Int) < 8 := by omega
            have HST := Lib.hid (HT2.out.stepq HFR.out h4)
            rw [if_neg (show ¬ j = N by omega)]
            by_cases hl : j + 1 = N
            · rw [decide_eq_true hl, if_pos hl] at HST
              have HL := Lib.hid hl
              clear hl hX1
              go_wp2_with (go_at_call 13; (with_reducible refine HST.out.mono ?_); rintro e w3 ⟨rfl, ht⟩; have HT3 := Lib.hid ht; clear ht)
              go_roundw
              case rel => exact ⟨j + 1, by omega, by go_num, by rw [if_pos HL.out], HT3.out⟩
              case measure => simp [intOf]; omega
            · rw [decide_eq_false hl, if_neg hl] at HST
              have HL := Lib.hid hl
              clear hl hX1
              go_wp2_with (go_at_call 13; (with_reducible refine HST.out.mono ?_); rintro e w3 ⟨rfl, ht⟩; have HT3 := Lib.hid ht; clear ht)
              go_roundw
              case rel => exact ⟨j + 1, by omega, by go_num, by rw [if_neg HL.out], HT3.out⟩
              case measure => simp [intOf]; omega
          · obtain rfl : j = N := by omega
            rw [if_pos rfl]
            have hXb : (X == -2) = false := by simp; omega
            have hj8 : (j : Int) < 8 := by omega
            clear hX1
            go_wp2_with fail
            go_loopw [25, 26] (fun xx kk wr => ∃ i : Nat, i ≤ K ∧ kk = .int .i64 i ∧ xx = .int .i64 (if i = K then X else -2) ∧ TQ w wr gq gr (S j) vl (RR' i)) (fun _ kk _ => 3 - (intOf kk).toNat)
            case atStart => exact ⟨0, by omega, rfl, by rw [if_neg (by have := HEND.out.2.2.2.2.1; omega)], HT2.out⟩
            case round =>
              clear HT2
              obtain ⟨i, hi, rfl, rfl, ht⟩ := hrel
              have HT2 := Lib.hid ht
              clear ht
              have hK3 := HEND.out.2.2.2.1
              by_cases h5 : i < K
              · have hi4 : (i : Int) < 4 := by omega
                have HST := Lib.hid (HT2.out.stepg HRP.out h5)
                rw [if_neg (show ¬ i = K by omega)]
                by_cases hl : i + 1 = K
                · rw [decide_eq_true hl, if_pos hl] at HST
                  have HL := Lib.hid hl
                  clear hl
                  go_wp2_with (go_at_call 10; (with_reducible refine HST.out.mono ?_); rintro e w3 ⟨rfl, ht⟩; have HT3 := Lib.hid ht; clear ht)
                  go_roundw
                  case rel => exact ⟨i + 1, by omega, by go_num, by rw [if_pos HL.out], HT3.out⟩
                  case measure => simp [intOf]; omega
                · rw [decide_eq_false hl, if_neg hl] at HST
                  have HL := Lib.hid hl
                  clear hl
                  go_wp2_with (go_at_call 10; (with_reducible refine HST.out.mono ?_); rintro e w3 ⟨rfl, ht⟩; have HT3 := Lib.hid ht; clear ht)
                  go_roundw
                  case rel => exact ⟨i + 1, by omega, by go_num, by rw [if_neg HL.out], HT3.out⟩
                  case measure => simp [intOf]; omega
              · obtain rfl : i = K := by omega
                rw [if_pos rfl]
                have hi4 : (i : Int) < 4 := by omega
                have hne : (X != X) = false := by simp
                by_cases h0 : M = 0
                · subst h0
                  obtain ⟨rfl, h1⟩ := HEND.out.2.2.2.2.2.2.1 rfl
                  have H1 := Lib.hid h1
                  clear h1
                  go_wp2
                  go_roundw
                  case rel => exact ⟨k + 1, m, i0, 0, S j, vl, RR' i, by omega, by go_num, by omega, HM.out.1, rfl, rfl, by omega, HM.out.2.2, HT2.out, by have h := HEND.out.1; rw [H1.out] at h; exact h⟩
                  case measure => simp [intOf]; omega
                · obtain ⟨hX, h1⟩ := HEND.out.2.2.2.2.2.2.2 h0
                  have hXn : (X == -1) = false := by simp [hX]
                  have hM0 : ((M : Int) == 0) = false := by simp; omega
                  have hMp : 0 < (M : Int) := by omega
                  obtain ⟨M1, hM1⟩ : ∃ M1, M1 + 1 = M := ⟨M - 1, by omega⟩
                  have hw1 : IntKind.i64.wrap ((M : Int) - 1) = (M1 : Int) := (IntWalk.i64_in _ (by have := HM.out; omega)).trans (by omega)
                  have H1 := Lib.hid (show MF = i0 + 1 ∧ M1 + 1 = M from ⟨h1, hM1⟩)
                  clear h1 hX hM1 h0
                  go_wp2
                  go_roundw
                  case rel => exact ⟨k + 1, m, MF, M1, S j, vl, RR' i, by omega, by go_num, by omega, by have := HM.out; have := H1.out; omega, rfl, rfl, by have := HM.out; have := H1.out; omega, HM.out.2.2, HT2.out, HEND.out.1⟩
                  case measure => simp [intOf]; omega
    · have hh : (k : Int) < steps.length ∧ ¬ (k : Int) < 60 ∨ ¬ (k : Int) < steps.length := by omega
      clear hgo
      have HBE := Lib.hid htq.q.below
      clear htq
      rcases hh with ⟨hI, hJ⟩ | hI
      all_goals
        go_wp2
        go_ret
        exact ⟨rfl, HBE.out⟩
end Go.Proofs.Ytihidjbepjeceaa.TopQ
