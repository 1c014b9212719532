/-
  What latchgarthref1.in, touches and Prog answer.
-/
import Derived.Test.YtkohobbjnafljaaDoorBase
import Derived.LoopTactic
import Derived.Outline
import Derived.BigQuiet
namespace Go.Proofs.YtkohobbjnafljaaDoor
open Go.RowKit

theorem in_any (n lo hi : Int) (w : World) : Calls Tryd.prog 19 #[.int .i64 n, .int .i64 lo, .int .i64 hi] w fun e w' => e = .returned (.bool (inR n lo hi)) ∧ w = w' := by
  by_cases h1 : lo ≤ n
  · by_cases h2 : n ≤ hi
    · go_enter Tryd.func19, Tryd.ntmps19
      go_wp2
      go_ret
      exact ⟨by simp [inR, h1, h2], rfl⟩
    · go_enter Tryd.func19, Tryd.ntmps19
      go_wp2
      go_ret
      exact ⟨by simp [inR, h2], rfl⟩
  · go_enter Tryd.func19, Tryd.ntmps19
    go_wp2
    go_ret
    exact ⟨by simp [inR]; omega, rfl⟩
theorem touches_any (l : Ln) (w : World) : Calls Tryd.prog 20 #[.agg #[.int .i64 l.k, .int .i64 l.r, .int .i64 l.d, .int .i64 l.v]] w fun e w' => e = .returned (.bool (inR l.k 1 3)) ∧ w.alloc (.cells #[.int .i64 l.k, .int .i64 l.r, .int .i64 l.d, .int .i64 l.v] 50) = w' := by
  go_enter Tryd.func20, Tryd.ntmps20
  go_wp2_with (go_at_call 19; refine (in_any _ _ _ _).mono ?_; rintro e w' ⟨rfl, rfl⟩)
  go_ret
  exact ⟨rfl, rfl⟩

/-- The test of the document's answer, in its own order. -/
def lineBad (words : Int) (l : Ln) : Bool :=
  !inR l.k 0 5 || (l.k != 4 && !inR l.r 0 1) || (inR l.k 1 3 && !inR l.d 0 (words - 1)) || (l.k == 0 && !inR l.v 0 1000) || (l.k == 5 && !inR l.v 0 5)
theorem lineBad_eq (words : Int) (l : Ln) : lineBad words l = !okLn words l := by
  obtain ⟨k, r, d, v⟩ := l
  simp only [lineBad, okLn]
  by_cases k0 : k = 0
  · subst k0; simp [inR]
  by_cases k1 : k = 1
  · subst k1; simp [inR]
  by_cases k2 : k = 2
  · subst k2; simp [inR]
  by_cases k3 : k = 3
  · subst k3; simp [inR]
  by_cases k4 : k = 4
  · subst k4; simp [inR]
  by_cases k5 : k = 5
  · subst k5; simp [inR]
  · have : inR k 0 5 = false := inR_false.2 (by omega)
    simp [this, k0, k1, k2, k3, k4, k5]

theorem ok_of_good {words : Int} {l : Ln} (h : lineBad words l = false) : okLn words l = true := by rw [lineBad_eq] at h; simpa using h
theorem handErr_bad {words : Int} {ls : List Ln} {j : Nat} {l : Ln} (h5 : ls.length ≤ 5) (hj : ls[j]? = some l) (h : lineBad words l = true) : handErr words ls = 1 := by
  rw [lineBad_eq] at h
  simp [handErr, show ¬ 5 < ls.length by omega, not_all_of _ _ _ _ hj (by simpa using h)]

set_option maxRecDepth 100000 in
set_option maxHeartbeats 4000000 in
theorem refCheck_any (words : Int) (hv : Value) (hs : List (List Ln)) (w : World) (hh : Hands w w.heap.size hv hs) :
    Calls Tryd.prog 7 #[.agg #[.int .i64 words, hv]] w fun e w' => e = .returned (.int .i64 (check words hs)) ∧ Below w.heap.size w w' := by
  have hh0 := hh
  obtain ⟨A, c, rfl, hlen, hh⟩ := hh
  by_cases hw : 1 ≤ words ∧ words ≤ 4
  · have hwB : inR words 1 4 = true := inR_true.2 hw
    obtain ⟨hw1, hw2⟩ := hw
    by_cases h0 : hs.length = 0
    · have hb0 : hs.length ≤ 0 := by omega
      have HE := Lib.hid (show check words hs = 5 by simp [check, h0, hw1, hw2])
      clear hh hh0 h0
      go_enter Tryd.func7, Tryd.ntmps7
      go_wp2_with (go_at_call 19; refine (in_any _ _ _ _).mono ?_; rintro e w' ⟨rfl, rfl⟩)
      go_ret
      exact ⟨by rw [HE.out]; rfl, (Below.refl _ _).alloc (Nat.le_refl _) _⟩
    · by_cases h3 : 3 < hs.length
      · have hb0 : 0 < hs.length := by omega
        have HE := Lib.hid (show check words hs = 4 by simp only [check, if_neg h0, if_pos h3]; simp [hw1, hw2])
        clear hh hh0 h0
        go_enter Tryd.func7, Tryd.ntmps7
        go_wp2_with (go_at_call 19; refine (in_any _ _ _ _).mono ?_; rintro e w' ⟨rfl, rfl⟩)
        go_ret
        exact ⟨by rw [HE.out]; rfl, (Below.refl _ _).alloc (Nat.le_refl _) _⟩
      · obtain ⟨b, o, rfl, hb, hc⟩ := hh (by omega)
        have HC := Lib.hid hc; clear hc hh
        have H0 := Lib.hid hh0; clear hh0
        have HE := Lib.hid (show check words hs = handsErr words hs by simp only [check, if_neg h0, if_neg h3]; simp [hw1, hw2])
        have h0' : 0 < hs.length := by omega
        have h3' : hs.length ≤ 3 := by omega
        have hd0 : ((hs.length : Int) == 0) = false := beq_eq_false_iff_ne.2 (by omega)
        have hd3 : decide ((3 : Int) < hs.length) = false := decide_eq_false (by omega)
        clear h0 h3
        go_enter Tryd.func7, Tryd.ntmps7
        go_wp2_with (go_at_call 19; refine (in_any _ _ _ _).mono ?_; rintro e w' ⟨rfl, rfl⟩)
        go_loopw [3] (fun i wr => ∃ q : Nat, q ≤ hs.length ∧ i = .int .i64 q ∧ handsErr words (hs.take q) = 0 ∧ Below w.heap.size w wr ∧ wr.cell? ⟨w.heap.size, 0, none⟩ = some (.int .i64 words) ∧ wr.cell? ⟨w.heap.size, 1, none⟩ = some (.slice (some ⟨b, o, none⟩) hs.length c)) (fun i _ => hs.length - (intOf i).toNat)
        case atStart => exact ⟨0, Nat.zero_le _, rfl, rfl, (Below.refl _ _).alloc (Nat.le_refl _) _, by simp, by simp⟩
        case round =>
          obtain ⟨q, hk, rfl, hz, hbw, hcw, hcs⟩ := hrel
          have HZ := Lib.hid hz; clear hz
          by_cases hlt : q < hs.length
          · obtain ⟨u, hu, hL⟩ := HC.out q hs[q] (List.getElem?_eq_getElem hlt)
            obtain ⟨ls, hls⟩ : ∃ ls, ls = hs[q] := ⟨_, rfl⟩
            rw [← hls] at hL
            have HLS := Lib.hid (show hs[q]? = some ls by rw [hls]; exact List.getElem?_eq_getElem hlt)
            clear hls
            obtain ⟨A', c', rfl, hl2, hL⟩ := hL
            have HU := Lib.hid hu
            have hu' := (hbw.cell (p := ⟨b, o + q, none⟩) hb).trans hu
            have hkI : (q : Int) < hs.length := by omega
            clear hu
            by_cases h5 : 5 < ls.length
            · have HE2 := Lib.hid (show handErr words ls = 4 by simp [handErr, h5])
              clear hL
              go_wp2
              go_ret
              exact ⟨by rw [HE.out, handsErr_at words hs q ls HLS.out HZ.out (by rw [HE2.out]; decide), HE2.out]; rfl, hbw⟩
            · have h5' : ls.length ≤ 5 := by omega
              have hd5 : decide ((5 : Int) < ls.length) = false := decide_eq_false (by omega)
              have HL := Lib.hid hL; clear hL h5
              obtain ⟨wo, hwo⟩ : ∃ wo : World, wo = wr := ⟨_, rfl⟩
              subst hwo
              go_wp2
              go_loopw [4] (fun i wr => ∃ j : Nat, j ≤ ls.length ∧ i = .int .i64 j ∧ (ls.take j).all (okLn words) = true ∧ Below w.heap.size w wr ∧ wr.cell? ⟨w.heap.size, 0, none⟩ = some (.int .i64 words) ∧ wr.cell? ⟨w.heap.size, 1, none⟩ = some (.slice (some ⟨b, o, none⟩) hs.length c)) (fun i _ => ls.length - (intOf i).toNat)
              case atStart => exact ⟨0, Nat.zero_le _, rfl, rfl, hbw, hcw, hcs⟩
              case round =>
                obtain ⟨j, hj, rfl, hz, hbr, hcr, hcs2⟩ := hrel
                have hur := (hbr.cell (p := ⟨b, o + q, none⟩) hb).trans HU.out
                have HZ2 := Lib.hid hz; clear hz hbw hcw hu' hcs
                by_cases hjl : j < ls.length
                · have hjI : (j : Int) < ls.length := by omega
                  obtain ⟨b2, o2, rfl, hb2, hc2⟩ := HL.out (by omega)
                  obtain ⟨l, hl⟩ : ∃ l, l = ls[j] := ⟨_, rfl⟩
                  have HJ := Lib.hid (show ls[j]? = some l by rw [hl]; exact List.getElem?_eq_getElem hjl)
                  clear hl
                  obtain ⟨f0, f1, f2, f3⟩ := hc2 j l HJ.out
                  clear hc2
                  have g0 := (hbr.cell (p := ⟨b2, o2 + j * 4, none⟩) hb2).trans f0
                  have g1 := (hbr.cell (p := ⟨b2, o2 + j * 4 + 1, none⟩) hb2).trans f1
                  have g2 := (hbr.cell (p := ⟨b2, o2 + j * 4 + 2, none⟩) hb2).trans f2
                  have g3 := (hbr.cell (p := ⟨b2, o2 + j * 4 + 3, none⟩) hb2).trans f3
                  clear f0 f1 f2 f3
                  have hsz : w.heap.size < wr.heap.size := lt_of_cell hcr
                  obtain ⟨k, r, d, v⟩ := l
                  simp only at g0 g1 g2 g3
                  by_cases hk4 : k = 4
                  · subst hk4
                    have c1 : inR 4 0 5 = true := rfl
                    have c2 : inR 4 1 3 = false := rfl
                    go_wp2_with (first | (go_at_call 19; refine (in_any _ _ _ _).mono ?_; rintro e w' ⟨rfl, rfl⟩) | (go_at_call 20; refine (touches_any ⟨4, r, d, v⟩ _).mono ?_; rintro e w' ⟨rfl, rfl⟩))
                    all_goals first
                      | (go_roundw
                         case rel => exact ⟨j + 1, by omega, by go_num, all_take_succ _ _ _ _ HJ.out HZ2.out (ok_of_good (by simp [lineBad, *] <;> simp [inR])), by first | exact hbr.alloc (Nat.le_of_lt hsz) _ | exact (hbr.alloc (Nat.le_of_lt hsz) _).alloc (by simp; omega) _, by first | exact (World.cell?_alloc_lt _ _ ⟨w.heap.size, 0, none⟩ hsz).trans hcr | exact (World.cell?_alloc_lt _ _ ⟨w.heap.size, 0, none⟩ (by simp; omega)).trans ((World.cell?_alloc_lt _ _ ⟨w.heap.size, 0, none⟩ hsz).trans hcr), by first | exact (World.cell?_alloc_lt _ _ ⟨w.heap.size, 1, none⟩ hsz).trans hcs2 | exact (World.cell?_alloc_lt _ _ ⟨w.heap.size, 1, none⟩ (by simp; omega)).trans ((World.cell?_alloc_lt _ _ ⟨w.heap.size, 1, none⟩ hsz).trans hcs2)⟩
                         case measure => simp [intOf]; omega)
                      | (go_ret
                         exact ⟨by rw [HE.out, handsErr_at words hs q ls HLS.out HZ.out (by rw [handErr_bad h5' HJ.out (by simp [lineBad, *] <;> simp [inR])]; decide), handErr_bad h5' HJ.out (by simp [lineBad, *] <;> simp [inR])]; rfl, by first | exact hbr.alloc (Nat.le_of_lt hsz) _ | exact (hbr.alloc (Nat.le_of_lt hsz) _).alloc (by simp; omega) _⟩)
                  · go_wp2_with (first | (go_at_call 19; refine (in_any _ _ _ _).mono ?_; rintro e w' ⟨rfl, rfl⟩) | (go_at_call 20; refine (touches_any ⟨k, r, d, v⟩ _).mono ?_; rintro e w' ⟨rfl, rfl⟩))
                    all_goals first
                      | (go_roundw
                         case rel => exact ⟨j + 1, by omega, by go_num, all_take_succ _ _ _ _ HJ.out HZ2.out (ok_of_good (by simp [lineBad, *] <;> simp [inR])), by first | exact hbr.alloc (Nat.le_of_lt hsz) _ | exact (hbr.alloc (Nat.le_of_lt hsz) _).alloc (by simp; omega) _, by first | exact (World.cell?_alloc_lt _ _ ⟨w.heap.size, 0, none⟩ hsz).trans hcr | exact (World.cell?_alloc_lt _ _ ⟨w.heap.size, 0, none⟩ (by simp; omega)).trans ((World.cell?_alloc_lt _ _ ⟨w.heap.size, 0, none⟩ hsz).trans hcr), by first | exact (World.cell?_alloc_lt _ _ ⟨w.heap.size, 1, none⟩ hsz).trans hcs2 | exact (World.cell?_alloc_lt _ _ ⟨w.heap.size, 1, none⟩ (by simp; omega)).trans ((World.cell?_alloc_lt _ _ ⟨w.heap.size, 1, none⟩ hsz).trans hcs2)⟩
                         case measure => simp [intOf]; omega)
                      | (go_ret
                         exact ⟨by rw [HE.out, handsErr_at words hs q ls HLS.out HZ.out (by rw [handErr_bad h5' HJ.out (by simp [lineBad, *] <;> simp [inR])]; decide), handErr_bad h5' HJ.out (by simp [lineBad, *] <;> simp [inR])]; rfl, by first | exact hbr.alloc (Nat.le_of_lt hsz) _ | exact (hbr.alloc (Nat.le_of_lt hsz) _).alloc (by simp; omega) _⟩)
                · have HE2 := Lib.hid (show handErr words ls = 0 by
                    have h1 := HZ2.out
                    rw [List.take_of_length_le (by omega)] at h1
                    simp [handErr, show ¬ 5 < ls.length by omega, h1])
                  go_wp2
                  go_roundw
                  case rel => exact ⟨q + 1, by omega, by go_num, handsErr_step words hs q ls HLS.out HZ.out HE2.out, hbr, hcr, hcs2⟩
                  case measure => simp [intOf]; omega
          · go_wp2
            go_ret
            exact ⟨by rw [HE.out, ← List.take_of_length_le (l := hs) (i := q) (by omega), HZ.out]; rfl, hbw⟩
  · have hwB : inR words 1 4 = false := inR_false.2 hw
    have HE := Lib.hid (show check words hs = 1 by simp only [check, if_pos hw])
    clear hh hh0 hw
    go_enter Tryd.func7, Tryd.ntmps7
    go_wp2_with (go_at_call 19; refine (in_any _ _ _ _).mono ?_; rintro e w' ⟨rfl, rfl⟩)
    go_ret
    exact ⟨by rw [HE.out]; rfl, (Below.refl _ _).alloc (Nat.le_refl _) _⟩
end Go.Proofs.YtkohobbjnafljaaDoor
