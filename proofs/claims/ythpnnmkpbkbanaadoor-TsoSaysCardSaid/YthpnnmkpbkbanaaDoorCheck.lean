/-
  What prog.Check answers.
-/
import Derived.Test.YthpnnmkpbkbanaaDoorFits
import Derived.LoopTactic
namespace Go.Proofs.YthpnnmkpbkbanaaDoor
open Go.RowKit

set_option maxHeartbeats 1000000 in
theorem check_any (words : Int) (hv : Value) (hs : List (List Ln)) (w : World) (hh : Hands w w.heap.size hv hs) :
    Calls Tryd.prog 23 #[.agg #[.int .i64 words, hv]] w fun e w' => e = .returned (errV 67 (check words hs)) ∧ Below w.heap.size w w' := by
  have hh0 := hh
  obtain ⟨A, c, rfl, hlen, hh⟩ := hh
  have hW : ∀ w', Calls Tryd.prog 41 #[.int .i64 words, .int .i64 1, .int .i64 4] w' fun e w'' => e = .returned (.bool (inR words 1 4)) ∧ w' = w'' := fun w' => within_any _ _ _ _
  by_cases hw : 1 ≤ words ∧ words ≤ 4
  · have hwB : inR words 1 4 = true := inR_true.2 hw
    obtain ⟨hw1, hw2⟩ := hw
    by_cases h0 : hs.length = 0
    · have hb0 : hs.length ≤ 0 := by omega
      have HE := Lib.hid (show errV 67 (check words hs) = .iface 67 (.int .i64 5) by simp [check, errV, h0, hw1, hw2])
      clear hh hh0 h0
      go_enter Tryd.func23, Tryd.ntmps23
      go_wp2_with (go_at_call 41; refine (within_any _ _ _ _).mono ?_; rintro e w' ⟨rfl, rfl⟩)
      go_ret
      exact ⟨by rw [HE.out]; rfl, (Below.refl _ _).alloc (Nat.le_refl _) _⟩
    · by_cases h3 : 3 < hs.length
      · have hb0 : 0 < hs.length := by omega
        have HE := Lib.hid (show errV 67 (check words hs) = .iface 67 (.int .i64 4) by simp only [check, errV, if_neg h0, if_pos h3]; simp [hw1, hw2])
        clear hh hh0 h0
        go_enter Tryd.func23, Tryd.ntmps23
        go_wp2_with (go_at_call 41; refine (within_any _ _ _ _).mono ?_; rintro e w' ⟨rfl, rfl⟩)
        go_ret
        exact ⟨by rw [HE.out]; rfl, (Below.refl _ _).alloc (Nat.le_refl _) _⟩
      · obtain ⟨b, o, rfl, hb, hc⟩ := hh (by omega)
        have HC := Lib.hid hc; clear hc hh
        have H0 := Lib.hid hh0; clear hh0
        have HE := Lib.hid (show check words hs = handsErr words hs by simp only [check, if_neg h0, if_neg h3]; simp [hw1, hw2])
        have h0' : 0 < hs.length := by omega
        have h3' : hs.length ≤ 3 := by omega
        have hd0 : ((hs.length : Int) == 0) = false := beq_eq_false_iff_ne.2 (by omega)
        have hd3 : decide ((3 : Int) < hs.length) = false := decide_eq_false (by omega)
        clear h0 h3
        go_enter Tryd.func23, Tryd.ntmps23
        go_wp2_with (go_at_call 41; refine (within_any _ _ _ _).mono ?_; rintro e w' ⟨rfl, rfl⟩)
        go_loopw [28] (fun i wr => ∃ k : Nat, k ≤ hs.length ∧ i = .int .i64 k ∧ handsErr words (hs.take k) = 0 ∧ Below w.heap.size w wr ∧ wr.cell? ⟨w.heap.size, 0, none⟩ = some (.int .i64 words)) (fun i _ => hs.length - (intOf i).toNat)
        case atStart => exact ⟨0, Nat.zero_le _, rfl, rfl, (Below.refl _ _).alloc (Nat.le_refl _) _, by simp⟩
        case round =>
          obtain ⟨k, hk, rfl, hz, hbw, hcw⟩ := hrel
          have HZ := Lib.hid hz; clear hz
          by_cases hlt : k < hs.length
          · obtain ⟨u, hu, hL⟩ := HC.out k hs[k] (List.getElem?_eq_getElem hlt)
            obtain ⟨ls, hls⟩ : ∃ ls, ls = hs[k] := ⟨_, rfl⟩
            rw [← hls] at hL
            have HLS := Lib.hid (show hs[k]? = some ls by rw [hls]; exact List.getElem?_eq_getElem hlt)
            clear hls
            obtain ⟨A', c', rfl, hl2, hL⟩ := hL
            have hu' := (hbw.cell (p := ⟨b, o + k, none⟩) hb).trans hu
            clear hu
            by_cases h5 : 5 < ls.length
            · have HE2 := Lib.hid (show handErr words ls = 4 by simp [handErr, h5])
              clear hL
              go_wp2
              go_ret
              exact ⟨by rw [HE.out, handsErr_at words hs k ls HLS.out HZ.out (by rw [HE2.out]; decide), HE2.out]; rfl, hbw⟩
            · have h5' : ls.length ≤ 5 := by omega
              have hd5 : decide ((5 : Int) < ls.length) = false := decide_eq_false (by omega)
              have HL := Lib.hid hL; clear hL h5
              obtain ⟨wo, hwo⟩ : ∃ wo : World, wo = wr := ⟨_, rfl⟩
              subst hwo
              go_wp2
              go_loopw [38] (fun i wr => ∃ j : Nat, j ≤ ls.length ∧ i = .int .i64 j ∧ (ls.take j).all (okLn words) = true ∧ Below w.heap.size w wr ∧ wr.cell? ⟨w.heap.size, 0, none⟩ = some (.int .i64 words)) (fun i _ => ls.length - (intOf i).toNat)
              case atStart => exact ⟨0, Nat.zero_le _, rfl, rfl, hbw, hcw⟩
              case round =>
                obtain ⟨j, hj, rfl, hz, hbr, hcr⟩ := hrel
                have HZ2 := Lib.hid hz; clear hz hbw hcw hu'
                by_cases hjl : j < ls.length
                · obtain ⟨b2, o2, rfl, hb2, hc2⟩ := HL.out (by omega)
                  obtain ⟨l, hl⟩ : ∃ l, l = ls[j] := ⟨_, rfl⟩
                  have HJ := Lib.hid (show ls[j]? = some l by rw [hl]; exact List.getElem?_eq_getElem hjl)
                  clear hl
                  obtain ⟨f0, f1, f2, f3⟩ := hc2 j l HJ.out
                  clear hc2
                  have g0 := (hbr.cell (p := ⟨b2, o2 + j * 4, none⟩) hb2).trans f0
                  have g1 := (hbr.cell (p := ⟨b2, o2 + j * 4 + 1, none⟩) hb2).trans f1
                  have g2 := (hbr.cell (p := ⟨b2, o2 + j * 4 + 2, none⟩) hb2).trans f2
                  have g3 := (hbr.cell (p := ⟨b2, o2 + j * 4 + 3, none⟩) hb2).trans f3
                  clear f0 f1 f2 f3
                  have hsz : w.heap.size < wr.heap.size := lt_of_cell hcr
                  by_cases hok : okLn words l = true
                  · go_wp2_with (go_at_call 42; refine (fits_any l words hw1 hw2 _).mono ?_; rintro e w' ⟨rfl, hbf⟩; have hcr2 := (hbf.cell (p := ⟨w.heap.size, 0, none⟩) (by simp; omega)).trans ((World.cell?_alloc_lt _ _ ⟨w.heap.size, 0, none⟩ hsz).trans hcr); have hbr2 := (hbr.alloc (Nat.le_of_lt hsz) _).trans (hbf.mono (by simp; omega)))
                    go_roundw
                    case rel => exact ⟨j + 1, by omega, by go_num, all_take_succ _ _ _ _ HJ.out HZ2.out hok, hbr2, hcr2⟩
                    case measure => simp [intOf]; omega
                  · have hok' : okLn words l = false := by simpa using hok
                    clear hok
                    have HE2 := Lib.hid (show handErr words ls = 1 by simp [handErr, show ¬ 5 < ls.length by omega, not_all_of _ _ _ _ HJ.out hok'])
                    go_wp2_with (go_at_call 42; refine (fits_any l words hw1 hw2 _).mono ?_; rintro e w' ⟨rfl, hbf⟩; have hbr2 := (hbr.alloc (Nat.le_of_lt hsz) _).trans (hbf.mono (by simp; omega)))
                    go_ret
                    exact ⟨by rw [HE.out, handsErr_at words hs k ls HLS.out HZ.out (by rw [HE2.out]; decide), HE2.out]; rfl, hbr2⟩
                · have HE2 := Lib.hid (show handErr words ls = 0 by
                    have h1 := HZ2.out
                    rw [List.take_of_length_le (by omega)] at h1
                    simp [handErr, show ¬ 5 < ls.length by omega, h1])
                  go_wp2
                  go_roundw
                  case rel => exact ⟨k + 1, by omega, by go_num, handsErr_step words hs k ls HLS.out HZ.out HE2.out, hbr, hcr⟩
                  case measure => simp [intOf]; omega
          · go_wp2
            go_ret
            exact ⟨by rw [HE.out, ← List.take_of_length_le (l := hs) (i := k) (by omega), HZ.out]; rfl, hbw⟩
  · have hwB : inR words 1 4 = false := inR_false.2 hw
    have HE := Lib.hid (show errV 67 (check words hs) = .iface 67 (.int .i64 1) by simp only [check, errV, if_pos hw]; simp)
    clear hh hh0 hw
    go_enter Tryd.func23, Tryd.ntmps23
    go_wp2_with (go_at_call 41; refine (within_any _ _ _ _).mono ?_; rintro e w' ⟨rfl, rfl⟩)
    go_ret
    exact ⟨by rw [HE.out]; rfl, (Below.refl _ _).alloc (Nat.le_refl _) _⟩
end Go.Proofs.YthpnnmkpbkbanaaDoor
