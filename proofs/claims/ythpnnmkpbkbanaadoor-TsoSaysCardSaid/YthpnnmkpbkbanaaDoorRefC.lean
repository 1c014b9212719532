/-
  Texts merged: RefCheck, RefRow, RefDone, RefStep.
-/
import Derived.Test.YthpnnmkpbkbanaaDoorBase
import Derived.LoopTactic
import Derived.Outline
import Derived.BigQuiet
import Derived.Test.YthpnnmkpbkbanaaDoorRow
import Derived.Test.YthpnnmkpbkbanaaDoorRefM
import Derived.RegionTactic
import Derived.Test.YthpnnmkpbkbanaaDoorRefAp
/-
  What latchgarthref1.in, touches and Prog answer.
-/
namespace Go.Proofs.YthpnnmkpbkbanaaDoor
open Go.RowKit

theorem in_any (n lo hi : Int) (w : World) : Calls Tryd.prog 13 #[.int .i64 n, .int .i64 lo, .int .i64 hi] w fun e w' => e = .returned (.bool (inR n lo hi)) ∧ w = w' := by
  by_cases h1 : lo ≤ n
  · by_cases h2 : n ≤ hi
    · go_enter Tryd.func13, Tryd.ntmps13
      go_wp2
      go_ret
      exact ⟨by simp [inR, h1, h2], rfl⟩
    · go_enter Tryd.func13, Tryd.ntmps13
      go_wp2
      go_ret
      exact ⟨by simp [inR, h2], rfl⟩
  · go_enter Tryd.func13, Tryd.ntmps13
    go_wp2
    go_ret
    exact ⟨by simp [inR]; omega, rfl⟩
theorem reftouches_any (l : Ln) (w : World) : Calls Tryd.prog 14 #[.agg #[.int .i64 l.k, .int .i64 l.r, .int .i64 l.d, .int .i64 l.v]] w fun e w' => e = .returned (.bool (inR l.k 1 3)) ∧ w.alloc (.cells #[.int .i64 l.k, .int .i64 l.r, .int .i64 l.d, .int .i64 l.v] 40) = w' := by
  go_enter Tryd.func14, Tryd.ntmps14
  go_wp2_with (go_at_call 13; refine (in_any _ _ _ _).mono ?_; rintro e w' ⟨rfl, rfl⟩)
  go_ret
  exact ⟨rfl, rfl⟩

/-- The test of the document's answer, in its own order. -/
def lineBad (words : Int) (l : Ln) : Bool :=
  !inR l.k 0 5 || (l.k != 4 && !inR l.r 0 1) || (inR l.k 1 3 && !inR l.d 0 (words - 1)) || (l.k == 0 && !inR l.v 0 1000) || (l.k == 5 && !inR l.v 0 5)
theorem lineBad_eq (words : Int) (l : Ln) : lineBad words l = !okLn words l := by
  obtain ⟨k, r, d, v⟩ := l
  simp only [lineBad, okLn]
  by_cases k0 : k = 0
  · subst k0; simp [inR]
  by_cases k1 : k = 1
  · subst k1; simp [inR]
  by_cases k2 : k = 2
  · subst k2; simp [inR]
  by_cases k3 : k = 3
  · subst k3; simp [inR]
  by_cases k4 : k = 4
  · subst k4; simp [inR]
  by_cases k5 : k = 5
  · subst k5; simp [inR]
  · have : inR k 0 5 = false := inR_false.2 (by omega)
    simp [this, k0, k1, k2, k3, k4, k5]

theorem ok_of_good {words : Int} {l : Ln} (h : lineBad words l = false) : okLn words l = true := by rw [lineBad_eq] at h; simpa using h
theorem handErr_bad {words : Int} {ls : List Ln} {j : Nat} {l : Ln} (h5 : ls.length ≤ 5) (hj : ls[j]? = some l) (h : lineBad words l = true) : handErr words ls = 1 := by
  rw [lineBad_eq] at h
  simp [handErr, show ¬ 5 < ls.length by omega, not_all_of _ _ _ _ hj (by simpa using h)]

set_option maxRecDepth 100000 in
set_option maxHeartbeats 4000000 in
theorem refCheck_any (words : Int) (hv : Value) (hs : List (List Ln)) (w : World) (hh : Hands w w.heap.size hv hs) :
    Calls Tryd.prog 5 #[.agg #[.int .i64 words, hv]] w fun e w' => e = .returned (.int .i64 (check words hs)) ∧ Below w.heap.size w w' := by
  have hh0 := hh
  obtain ⟨A, c, rfl, hlen, hh⟩ := hh
  by_cases hw : 1 ≤ words ∧ words ≤ 4
  · have hwB : inR words 1 4 = true := inR_true.2 hw
    obtain ⟨hw1, hw2⟩ := hw
    by_cases h0 : hs.length = 0
    · have hb0 : hs.length ≤ 0 := by omega
      have HE := Lib.hid (show check words hs = 5 by simp [check, h0, hw1, hw2])
      clear hh hh0 h0
      go_enter Tryd.func5, Tryd.ntmps5
      go_wp2_with (go_at_call 13; refine (in_any _ _ _ _).mono ?_; rintro e w' ⟨rfl, rfl⟩)
      go_ret
      exact ⟨by rw [HE.out]; rfl, (Below.refl _ _).alloc (Nat.le_refl _) _⟩
    · by_cases h3 : 3 < hs.length
      · have hb0 : 0 < hs.length := by omega
        have HE := Lib.hid (show check words hs = 4 by simp only [check, if_neg h0, if_pos h3]; simp [hw1, hw2])
        clear hh hh0 h0
        go_enter Tryd.func5, Tryd.ntmps5
        go_wp2_with (go_at_call 13; refine (in_any _ _ _ _).mono ?_; rintro e w' ⟨rfl, rfl⟩)
        go_ret
        exact ⟨by rw [HE.out]; rfl, (Below.refl _ _).alloc (Nat.le_refl _) _⟩
      · obtain ⟨b, o, rfl, hb, hc⟩ := hh (by omega)
        have HC := Lib.hid hc; clear hc hh
        have H0 := Lib.hid hh0; clear hh0
        have HE := Lib.hid (show check words hs = handsErr words hs by simp only [check, if_neg h0, if_neg h3]; simp [hw1, hw2])
        have h0' : 0 < hs.length := by omega
        have h3' : hs.length ≤ 3 := by omega
        have hd0 : ((hs.length : Int) == 0) = false := beq_eq_false_iff_ne.2 (by omega)
        have hd3 : decide ((3 : Int) < hs.length) = false := decide_eq_false (by omega)
        clear h0 h3
        go_enter Tryd.func5, Tryd.ntmps5
        go_wp2_with (go_at_call 13; refine (in_any _ _ _ _).mono ?_; rintro e w' ⟨rfl, rfl⟩)
        go_loopw [3] (fun i wr => ∃ q : Nat, q ≤ hs.length ∧ i = .int .i64 q ∧ handsErr words (hs.take q) = 0 ∧ Below w.heap.size w wr ∧ wr.cell? ⟨w.heap.size, 0, none⟩ = some (.int .i64 words) ∧ wr.cell? ⟨w.heap.size, 1, none⟩ = some (.slice (some ⟨b, o, none⟩) hs.length c)) (fun i _ => hs.length - (intOf i).toNat)
        case atStart => exact ⟨0, Nat.zero_le _, rfl, rfl, (Below.refl _ _).alloc (Nat.le_refl _) _, by simp, by simp⟩
        case round =>
          obtain ⟨q, hk, rfl, hz, hbw, hcw, hcs⟩ := hrel
          have HZ := Lib.hid hz; clear hz
          by_cases hlt : q < hs.length
          · obtain ⟨u, hu, hL⟩ := HC.out q hs[q] (List.getElem?_eq_getElem hlt)
            obtain ⟨ls, hls⟩ : ∃ ls, ls = hs[q] := ⟨_, rfl⟩
            rw [← hls] at hL
            have HLS := Lib.hid (show hs[q]? = some ls by rw [hls]; exact List.getElem?_eq_getElem hlt)
            clear hls
            obtain ⟨A', c', rfl, hl2, hL⟩ := hL
            have HU := Lib.hid hu
            have hu' := (hbw.cell (p := ⟨b, o + q, none⟩) hb).trans hu
            have hkI : (q : Int) < hs.length := by omega
            clear hu
            by_cases h5 : 5 < ls.length
            · have HE2 := Lib.hid (show handErr words ls = 4 by simp [handErr, h5])
              clear hL
              go_wp2
              go_ret
              exact ⟨by rw [HE.out, handsErr_at words hs q ls HLS.out HZ.out (by rw [HE2.out]; decide), HE2.out]; rfl, hbw⟩
            · have h5' : ls.length ≤ 5 := by omega
              have hd5 : decide ((5 : Int) < ls.length) = false := decide_eq_false (by omega)
              have HL := Lib.hid hL; clear hL h5
              obtain ⟨wo, hwo⟩ : ∃ wo : World, wo = wr := ⟨_, rfl⟩
              subst hwo
              go_wp2
              go_loopw [4] (fun i wr => ∃ j : Nat, j ≤ ls.length ∧ i = .int .i64 j ∧ (ls.take j).all (okLn words) = true ∧ Below w.heap.size w wr ∧ wr.cell? ⟨w.heap.size, 0, none⟩ = some (.int .i64 words) ∧ wr.cell? ⟨w.heap.size, 1, none⟩ = some (.slice (some ⟨b, o, none⟩) hs.length c)) (fun i _ => ls.length - (intOf i).toNat)
              case atStart => exact ⟨0, Nat.zero_le _, rfl, rfl, hbw, hcw, hcs⟩
              case round =>
                obtain ⟨j, hj, rfl, hz, hbr, hcr, hcs2⟩ := hrel
                have hur := (hbr.cell (p := ⟨b, o + q, none⟩) hb).trans HU.out
                have HZ2 := Lib.hid hz; clear hz hbw hcw hu' hcs
                by_cases hjl : j < ls.length
                · have hjI : (j : Int) < ls.length := by omega
                  obtain ⟨b2, o2, rfl, hb2, hc2⟩ := HL.out (by omega)
                  obtain ⟨l, hl⟩ : ∃ l, l = ls[j] := ⟨_, rfl⟩
                  have HJ := Lib.hid (show ls[j]? = some l by rw [hl]; exact List.getElem?_eq_getElem hjl)
                  clear hl
                  obtain ⟨f0, f1, f2, f3⟩ := hc2 j l HJ.out
                  clear hc2
                  have g0 := (hbr.cell (p := ⟨b2, o2 + j * 4, none⟩) hb2).trans f0
                  have g1 := (hbr.cell (p := ⟨b2, o2 + j * 4 + 1, none⟩) hb2).trans f1
                  have g2 := (hbr.cell (p := ⟨b2, o2 + j * 4 + 2, none⟩) hb2).trans f2
                  have g3 := (hbr.cell (p := ⟨b2, o2 + j * 4 + 3, none⟩) hb2).trans f3
                  clear f0 f1 f2 f3
                  have hsz : w.heap.size < wr.heap.size := lt_of_cell hcr
                  obtain ⟨k, r, d, v⟩ := l
                  simp only at g0 g1 g2 g3
                  by_cases hk4 : k = 4
                  · subst hk4
                    have c1 : inR 4 0 5 = true := rfl
                    have c2 : inR 4 1 3 = false := rfl
                    go_wp2_with (first | (go_at_call 13; refine (in_any _ _ _ _).mono ?_; rintro e w' ⟨rfl, rfl⟩) | (go_at_call 14; refine (reftouches_any ⟨4, r, d, v⟩ _).mono ?_; rintro e w' ⟨rfl, rfl⟩))
                    all_goals first
                      | (go_roundw
                         case rel => exact ⟨j + 1, by omega, by go_num, all_take_succ _ _ _ _ HJ.out HZ2.out (ok_of_good (by simp [lineBad, *] <;> simp [inR])), by first | exact hbr.alloc (Nat.le_of_lt hsz) _ | exact (hbr.alloc (Nat.le_of_lt hsz) _).alloc (by simp; omega) _, by first | exact (World.cell?_alloc_lt _ _ ⟨w.heap.size, 0, none⟩ hsz).trans hcr | exact (World.cell?_alloc_lt _ _ ⟨w.heap.size, 0, none⟩ (by simp; omega)).trans ((World.cell?_alloc_lt _ _ ⟨w.heap.size, 0, none⟩ hsz).trans hcr), by first | exact (World.cell?_alloc_lt _ _ ⟨w.heap.size, 1, none⟩ hsz).trans hcs2 | exact (World.cell?_alloc_lt _ _ ⟨w.heap.size, 1, none⟩ (by simp; omega)).trans ((World.cell?_alloc_lt _ _ ⟨w.heap.size, 1, none⟩ hsz).trans hcs2)⟩
                         case measure => simp [intOf]; omega)
                      | (go_ret
                         exact ⟨by rw [HE.out, handsErr_at words hs q ls HLS.out HZ.out (by rw [handErr_bad h5' HJ.out (by simp [lineBad, *] <;> simp [inR])]; decide), handErr_bad h5' HJ.out (by simp [lineBad, *] <;> simp [inR])]; rfl, by first | exact hbr.alloc (Nat.le_of_lt hsz) _ | exact (hbr.alloc (Nat.le_of_lt hsz) _).alloc (by simp; omega) _⟩)
                  · go_wp2_with (first | (go_at_call 13; refine (in_any _ _ _ _).mono ?_; rintro e w' ⟨rfl, rfl⟩) | (go_at_call 14; refine (reftouches_any ⟨k, r, d, v⟩ _).mono ?_; rintro e w' ⟨rfl, rfl⟩))
                    all_goals first
                      | (go_roundw
                         case rel => exact ⟨j + 1, by omega, by go_num, all_take_succ _ _ _ _ HJ.out HZ2.out (ok_of_good (by simp [lineBad, *] <;> simp [inR])), by first | exact hbr.alloc (Nat.le_of_lt hsz) _ | exact (hbr.alloc (Nat.le_of_lt hsz) _).alloc (by simp; omega) _, by first | exact (World.cell?_alloc_lt _ _ ⟨w.heap.size, 0, none⟩ hsz).trans hcr | exact (World.cell?_alloc_lt _ _ ⟨w.heap.size, 0, none⟩ (by simp; omega)).trans ((World.cell?_alloc_lt _ _ ⟨w.heap.size, 0, none⟩ hsz).trans hcr), by first | exact (World.cell?_alloc_lt _ _ ⟨w.heap.size, 1, none⟩ hsz).trans hcs2 | exact (World.cell?_alloc_lt _ _ ⟨w.heap.size, 1, none⟩ (by simp; omega)).trans ((World.cell?_alloc_lt _ _ ⟨w.heap.size, 1, none⟩ hsz).trans hcs2)⟩
                         case measure => simp [intOf]; omega)
                      | (go_ret
                         exact ⟨by rw [HE.out, handsErr_at words hs q ls HLS.out HZ.out (by rw [handErr_bad h5' HJ.out (by simp [lineBad, *] <;> simp [inR])]; decide), handErr_bad h5' HJ.out (by simp [lineBad, *] <;> simp [inR])]; rfl, by first | exact hbr.alloc (Nat.le_of_lt hsz) _ | exact (hbr.alloc (Nat.le_of_lt hsz) _).alloc (by simp; omega) _⟩)
                · have HE2 := Lib.hid (show handErr words ls = 0 by
                    have h1 := HZ2.out
                    rw [List.take_of_length_le (by omega)] at h1
                    simp [handErr, show ¬ 5 < ls.length by omega, h1])
                  go_wp2
                  go_roundw
                  case rel => exact ⟨q + 1, by omega, by go_num, handsErr_step words hs q ls HLS.out HZ.out HE2.out, hbr, hcr, hcs2⟩
                  case measure => simp [intOf]; omega
          · go_wp2
            go_ret
            exact ⟨by rw [HE.out, ← List.take_of_length_le (l := hs) (i := q) (by omega), HZ.out]; rfl, hbw⟩
  · have hwB : inR words 1 4 = false := inR_false.2 hw
    have HE := Lib.hid (show check words hs = 1 by simp only [check, if_pos hw])
    clear hh hh0 hw
    go_enter Tryd.func5, Tryd.ntmps5
    go_wp2_with (go_at_call 13; refine (in_any _ _ _ _).mono ?_; rintro e w' ⟨rfl, rfl⟩)
    go_ret
    exact ⟨by rw [HE.out]; rfl, (Below.refl _ _).alloc (Nat.le_refl _) _⟩
end Go.Proofs.YthpnnmkpbkbanaaDoor

/-
  What latchgarthref1.copied, first and next answer.
-/
namespace Go.Proofs.YthpnnmkpbkbanaaDoor
open Go.RowKit

theorem rowAt_of_own {w : World} {base e n : Nat} {v : Value} {ys : List Int} (h : w.ownsRow base e 1 v n (ys.map (Value.int .i64))) (hn : 0 < n) : ∃ g c, v = .slice (some ⟨g, 0, none⟩) n c ∧ n ≤ c ∧ base ≤ g ∧ g < w.heap.size ∧ RowAt w g ys := by
  have hl : ys.length = n := by have := h.1; simpa using this
  have h0 := h
  rcases h.2 with ⟨rfl, h1⟩ | ⟨g, cap, cur, rfl, hb, _, hnc, _, _, _⟩
  · omega
  · refine ⟨g, cap, rfl, hnc, hb, (h0.lt g rfl).2, fun i z hz => ⟨?_, h0.frozenAt i⟩⟩
    have hi : i < n := by have := (List.getElem?_eq_some_iff.1 hz).1; omega
    rw [h0.cellAt i (by omega), List.getElem?_map, hz]; rfl

theorem Tin2.info : (Tryd.prog.info? 3).map (fun i => (i.zero, i.size, i.bytes)) = some (some (.int .i64 0), 1, 8) := by kernel_rfl
theorem Tin2.size : (Tryd.prog.info? 3).map (·.size) = some 1 := by kernel_rfl

def CopyPost (w : World) (ys : List Int) (e : Ending) (w' : World) : Prop := ∃ g c, e = .returned (.slice (some ⟨g, 0, none⟩) ys.length c) ∧ ys.length ≤ c ∧ w.heap.size ≤ g ∧ g < w'.heap.size ∧ RowAt w' g ys ∧ Below w.heap.size w w'
theorem copied_any (sv : Value) (ys : List Int) (B : Nat) (w : World) (hs : Nums w B sv ys) (h0 : 0 < ys.length) (h1 : ys.length ≤ 1000) :
    Calls Tryd.prog 39 #[sv] w (CopyPost w ys) := by
  obtain ⟨A, c, rfl, hl, hs⟩ := hs
  obtain ⟨b, o, rfl, hb, hc⟩ := hs h0
  obtain ⟨i0, hi, hz0, hz1, hz2⟩ := info_parts Tin2.info
  have HC := Lib.hid hc
  clear hc hs
  have cells : ∀ j u, (ys.map (Value.int .i64))[j]? = some u → w.cell? ((⟨b, o, none⟩ : Addr).add j) = some u := by
    intro j u hu
    rw [List.getElem?_map] at hu
    cases hz : ys[j]? with
    | none => rw [hz] at hu; cases hu
    | some z =>
      rw [hz] at hu
      rw [← Option.some.inj hu, show (⟨b, o, none⟩ : Addr).add j = ⟨b, o + j, none⟩ by unfold Addr.add; by_cases h : j = 0 <;> simp [h]]
      exact HC.out j z hz
  have HCE := Lib.hid cells
  clear cells
  go_enter Tryd.func39, Tryd.ntmps39
  go_wp2_with (at_builtin; refine wpList_append_own _ rfl (.tmp 4) (.tmp 5) 48 rfl w.heap.size 3 i0 (.int .i64 0) 1 8 Tryd.underlying48 hi hz0 hz1 hz2 rfl (by decide) _ _ _ rfl (World.ownsRow_nil _ _ _ _) ⟨b, o, none⟩ ys.length c (ys.map (Value.int .i64)) rfl (by simp) HCE.out (by intro u hu; simp at hu; obtain ⟨a, _, rfl⟩ := hu; rfl) (by unfold maxLen; omega) (by omega) (Nat.le_refl _) ?_; intro v1 w1 hown hg _)
  go_ret
  obtain ⟨g, c1, rfl, hnc, hg1, hg2, hr⟩ := rowAt_of_own (by simpa using hown) (by omega)
  exact ⟨g, c1, by simp, by simpa using hnc, hg1, hg2, hr, (Below.refl _ _).grown hg (Nat.le_refl _) (fun k hk => by cases hk)⟩

theorem RowAt.of_block {w : World} {g : Nat} {T : TypeId} {ys : List Int} (h : Block w g T (row ys)) : RowAt w g ys := fun i _ hz => ⟨(h.cell i).trans (row_get hz), h.free i⟩
set_option maxRecDepth 100000 in
theorem first_any (w : World) : Calls Tryd.prog 16 #[] w (CopyPost w (List.replicate 46 0)) := by
  have hmk : ∀ w, (Instr.makeSlice 48 (.int .i64 46) (.int .i64 46)).run Tryd.prog w = .ok (.slice (some ⟨w.heap.size, 0, none⟩) 46 46) (w.alloc (.cells (row (List.replicate 46 0)) 3)) := fun w => by kernel_rfl
  go_enter Tryd.func16, Tryd.ntmps16
  go_wp2
  go_ret
  exact ⟨_, _, rfl, by simp, Nat.le_refl _, by simp, RowAt.of_block (T := 3) (ys := List.replicate 46 0) (Block.made _ _ _), (Below.refl _ _).alloc (Nat.le_refl _) _⟩

set_option maxHeartbeats 1000000 in
theorem next_any (words : Int) (hv sv : Value) (hs : List (List Ln)) (ys : List Int) (B h n : Nat) (ls : List Ln) (w : World) (hh : Hands w w.heap.size hv hs) (hn : Nums w B sv ys) (hl : hs[h]? = some ls) (hp : ys[h * 3]? = some (n : Int)) :
    Calls Tryd.prog 17 #[.agg #[.int .i64 words, hv], sv, .int .i64 h] w fun e w' => e = .returned (.tuple #[lnV (nextOf hs ys h).1, .bool (nextOf hs ys h).2]) ∧ Below w.heap.size w w' := by
  have hlt : h < hs.length := (List.getElem?_eq_some_iff.1 hl).1
  have hly : h * 3 < ys.length := (List.getElem?_eq_some_iff.1 hp).1
  obtain ⟨A, c, rfl, hlen, hh⟩ := hh
  obtain ⟨b, o, rfl, hb, hc⟩ := hh (by omega)
  obtain ⟨u, hu, hL⟩ := hc h ls hl
  obtain ⟨A', c', rfl, hl2, hL⟩ := hL
  obtain ⟨A2, c2, rfl, hl3, hn⟩ := hn
  obtain ⟨b2, o2, rfl, hb2, hc2⟩ := hn (by omega)
  have hpc := hc2 _ _ hp
  have hb2' : b2 < w.heap.size := lt_of_cell hpc
  have i1 : (0 : Int) ≤ (h : Int) := by omega
  have i3 : (h : Int) < hs.length := by omega
  have i4 : (h : Int) * 3 < ys.length := by omega
  have e1 : ((h : Int) * 3).toNat = h * 3 := by omega
  have i5 : (h : Int) * 3 ≤ 9223372036854775807 := by omega
  by_cases hd : ls.length ≤ n
  · have hX : nextOf hs ys h = (⟨0, 0, 0, 0⟩, false) := by
      simp only [nextOf, List.getD_eq_getElem?_getD, hl, hp, Option.getD_some]
      rw [if_pos (by omega)]
    have HX := Lib.hid hX
    clear hX hh hc hL hn hc2 hl hp
    go_enter Tryd.func17, Tryd.ntmps17
    go_wp2
    refine bodyPost_ret (v := .tuple #[.agg #[.int .i64 0, .int .i64 0, .int .i64 0, .int .i64 0], .bool false]) (by simp [results, Tryd.results17, go_sem]) rfl ⟨by rw [HX.out]; rfl, ((Below.refl _ _).alloc (Nat.le_refl _) _).alloc (by simp) _⟩
  · have hnl : n < ls.length := by omega
    obtain ⟨b3, o3, rfl, hb3, hc3⟩ := hL (by omega)
    obtain ⟨l, hln⟩ : ∃ l, ls[n]? = some l := ⟨_, List.getElem?_eq_getElem hnl⟩
    obtain ⟨f0, f1, f2, f3⟩ := hc3 n l hln
    have hX : nextOf hs ys h = (l, true) := by
      simp only [nextOf, List.getD_eq_getElem?_getD, hl, hp, Option.getD_some]
      rw [if_neg (by omega), Int.toNat_natCast, hln]; rfl
    have HX := Lib.hid hX
    have i6 : (n : Int) < ls.length := by omega
    obtain ⟨k, r, d, v⟩ := l
    simp only at f0 f1 f2 f3
    clear hX hh hc hL hn hc2 hl hp hc3 hln hd
    go_enter Tryd.func17, Tryd.ntmps17
    go_wp2
    refine bodyPost_ret (v := .tuple #[.agg #[.int .i64 k, .int .i64 r, .int .i64 d, .int .i64 v], .bool true]) (by simp [results, Tryd.results17, go_sem]) rfl ⟨by rw [HX.out]; rfl, ((Below.refl _ _).alloc (Nat.le_refl _) _).alloc (by simp) _⟩
end Go.Proofs.YthpnnmkpbkbanaaDoor

/-
  What latchgarthref1.done answers: a walk for each kind of line, and all of them together.
-/
namespace Go.Proofs.YthpnnmkpbkbanaaDoor
open Go.RowKit

set_option maxRecDepth 100000 in
set_option maxHeartbeats 2000000 in
theorem refdone_put (ys : List Int) (sv : Value) (B h n : Nat) (r : Nat) (d v : Int) (w : World) (hs : Nums w B sv ys) (hB : B ≤ w.heap.size) (hl : ys.length = 46) (hh : h ≤ 2) (hp : ys[h * 3]? = some (n : Int)) (hn : n ≤ 1000) (hr : r ≤ 1) :
    Calls Tryd.prog 22 #[sv, .int .i64 h, .agg #[.int .i64 0, .int .i64 r, .int .i64 d, .int .i64 v]] w fun e w' => ∃ g c, e = .returned (.slice (some ⟨g, 0, none⟩) 46 c) ∧ 46 ≤ c ∧ w.heap.size ≤ g ∧ g < w'.heap.size ∧ RowAt w' g ((ys.set (h * 3) (n + 1)).set (h * 3 + 1 + r) v) ∧ Below w.heap.size w w' := by
  have HS := Lib.hid hs
  have HL := Lib.hid hl
  have HP := Lib.hid hp
  have L46 := Lib.hid (show (ys.set (h * 3) ((n : Int) + 1)).length = 46 by rw [List.length_set, hl])
  obtain ⟨A, cA, rfl, hA, _⟩ := hs
  clear hl hp
  have k0 := Block.made w 40 #[.int .i64 0, .int .i64 r, .int .i64 d, .int .i64 v]
  have K0 := Lib.hid k0
  have HB0 := Lib.hid ((Below.refl w.heap.size w).alloc (Nat.le_refl _) (.cells #[.int .i64 0, .int .i64 r, .int .i64 d, .int .i64 v] 40))
  clear k0
  have i1 : (0 : Int) ≤ (h : Int) * 3 := by omega
  have i2 : (h : Int) * 3 < 46 := by omega
  have i3 : (h : Int) * 3 + 1 < 46 := by omega
  go_enter Tryd.func22, Tryd.ntmps22
  go_wp2_with fail
  refine (copied_any _ ys B _ (HS.out.keep (fun p hp => World.cell?_alloc_lt _ _ p (Nat.lt_of_lt_of_le hp hB))) (by rw [HL.out]; omega) (by rw [HL.out]; omega)).mono ?_
  rintro e w1 ⟨g, c, rfl, hc46, hg1, hg2, hr1, hb1⟩
  rw [HL.out]
  rw [HL.out] at hc46
  simp at hg1
  have HR1 := Lib.hid hr1
  have HB1 := Lib.hid (HB0.out.trans (hb1.mono (by simp)))
  have k1 : Block w1 w.heap.size 40 #[.int .i64 0, .int .i64 r, .int .i64 d, .int .i64 v] := K0.out.below hb1 (by simp)
  have p0 := (hr1 (h * 3) n HP.out).1
  have K1 := Lib.hid k1
  clear hr1 hb1 k1
  go_wp2_with (refine wpList_store_num rfl 3 (.tmp 17) (.tmp 16) rfl g (h * 3) rfl (n + 1) rfl Tin2.size ys HR1.out (Nat.lt_of_lt_of_eq (by omega) HL.out.symm) ?_; intro w2 hr2 hb2 hs2 hf2; have k2 : ∀ i, w2.cell? ⟨w.heap.size, i, none⟩ = w1.cell? ⟨w.heap.size, i, none⟩ := fun i => hf2 _ (show w.heap.size ≠ g by omega); have y0 := (k2 0).trans (K1.out.cell 0); have y1 := (k2 1).trans (K1.out.cell 1); have y2 := (k2 2).trans (K1.out.cell 2); have y3 := (k2 3).trans (K1.out.cell 3); simp at y0 y1 y2 y3; have HR2 := Lib.hid hr2; have HB2 := Lib.hid (HB1.out.trans (hb2 _ (by omega))); obtain ⟨c1, c2⟩ := HR2.out.get (i := h * 3 + 1 + r) (Nat.lt_of_lt_of_eq (by omega) L46.out.symm); have j1 : (h : Int) * 3 + 1 + r < 46 := (by omega); clear p0 k2 hr2 hb2 hf2)
  go_ret
  exact ⟨g, c, rfl, hc46, by omega, by simp [World.setCell]; omega, HR2.out.put _ _, HB2.out.setCell (by simp; omega) _⟩

set_option maxRecDepth 100000 in
set_option maxHeartbeats 2000000 in
theorem refdone_load (ys : List Int) (sv : Value) (B h n : Nat) (r d : Nat) (v : Int) (w : World) (hs : Nums w B sv ys) (hB : B ≤ w.heap.size) (hl : ys.length = 46) (hh : h ≤ 2) (hp : ys[h * 3]? = some (n : Int)) (hn : n ≤ 1000) (hr : r ≤ 1) (hd : d ≤ 3) :
    Calls Tryd.prog 22 #[sv, .int .i64 h, .agg #[.int .i64 1, .int .i64 r, .int .i64 d, .int .i64 v]] w fun e w' => ∃ g c, e = .returned (.slice (some ⟨g, 0, none⟩) 46 c) ∧ 46 ≤ c ∧ w.heap.size ≤ g ∧ g < w'.heap.size ∧ RowAt w' g ((ys.set (h * 3) (n + 1)).set (h * 3 + 1 + r) ((ys.set (h * 3) (n + 1)).getD (9 + d) 0)) ∧ Below w.heap.size w w' := by
  have HS := Lib.hid hs
  have HL := Lib.hid hl
  have HP := Lib.hid hp
  have L46 := Lib.hid (show (ys.set (h * 3) ((n : Int) + 1)).length = 46 by rw [List.length_set, hl])
  obtain ⟨A, cA, rfl, hA, _⟩ := hs
  clear hl hp
  have k0 := Block.made w 40 #[.int .i64 1, .int .i64 r, .int .i64 d, .int .i64 v]
  have K0 := Lib.hid k0
  have HB0 := Lib.hid ((Below.refl w.heap.size w).alloc (Nat.le_refl _) (.cells #[.int .i64 1, .int .i64 r, .int .i64 d, .int .i64 v] 40))
  clear k0
  have i1 : (0 : Int) ≤ (h : Int) * 3 := by omega
  have i2 : (h : Int) * 3 < 46 := by omega
  have i3 : (h : Int) * 3 + 1 < 46 := by omega
  go_enter Tryd.func22, Tryd.ntmps22
  go_wp2_with fail
  refine (copied_any _ ys B _ (HS.out.keep (fun p hp => World.cell?_alloc_lt _ _ p (Nat.lt_of_lt_of_le hp hB))) (by rw [HL.out]; omega) (by rw [HL.out]; omega)).mono ?_
  rintro e w1 ⟨g, c, rfl, hc46, hg1, hg2, hr1, hb1⟩
  rw [HL.out]
  rw [HL.out] at hc46
  simp at hg1
  have HR1 := Lib.hid hr1
  have HB1 := Lib.hid (HB0.out.trans (hb1.mono (by simp)))
  have k1 : Block w1 w.heap.size 40 #[.int .i64 1, .int .i64 r, .int .i64 d, .int .i64 v] := K0.out.below hb1 (by simp)
  have p0 := (hr1 (h * 3) n HP.out).1
  have K1 := Lib.hid k1
  clear hr1 hb1 k1
  go_wp2_with (refine wpList_store_num rfl 3 (.tmp 17) (.tmp 16) rfl g (h * 3) rfl (n + 1) rfl Tin2.size ys HR1.out (Nat.lt_of_lt_of_eq (by omega) HL.out.symm) ?_; intro w2 hr2 hb2 hs2 hf2; have k2 : ∀ i, w2.cell? ⟨w.heap.size, i, none⟩ = w1.cell? ⟨w.heap.size, i, none⟩ := fun i => hf2 _ (show w.heap.size ≠ g by omega); have y0 := (k2 0).trans (K1.out.cell 0); have y1 := (k2 1).trans (K1.out.cell 1); have y2 := (k2 2).trans (K1.out.cell 2); have y3 := (k2 3).trans (K1.out.cell 3); simp at y0 y1 y2 y3; have HR2 := Lib.hid hr2; have HB2 := Lib.hid (HB1.out.trans (hb2 _ (by omega))); obtain ⟨c1, c2⟩ := HR2.out.get (i := h * 3 + 1 + r) (Nat.lt_of_lt_of_eq (by omega) L46.out.symm); have j1 : (h : Int) * 3 + 1 + r < 46 := (by omega); obtain ⟨c3, c4⟩ := HR2.out.get (i := 9 + d) (Nat.lt_of_lt_of_eq (by omega) L46.out.symm); have j2 : (9 : Int) + d < 46 := (by omega); clear p0 k2 hr2 hb2 hf2)
  go_ret
  exact ⟨g, c, rfl, hc46, by omega, by simp [World.setCell]; omega, HR2.out.put _ _, HB2.out.setCell (by simp; omega) _⟩

set_option maxRecDepth 100000 in
set_option maxHeartbeats 2000000 in
theorem refdone_store (ys : List Int) (sv : Value) (B h n : Nat) (r d : Nat) (v : Int) (w : World) (hs : Nums w B sv ys) (hB : B ≤ w.heap.size) (hl : ys.length = 46) (hh : h ≤ 2) (hp : ys[h * 3]? = some (n : Int)) (hn : n ≤ 1000) (hr : r ≤ 1) (hd : d ≤ 3) :
    Calls Tryd.prog 22 #[sv, .int .i64 h, .agg #[.int .i64 2, .int .i64 r, .int .i64 d, .int .i64 v]] w fun e w' => ∃ g c, e = .returned (.slice (some ⟨g, 0, none⟩) 46 c) ∧ 46 ≤ c ∧ w.heap.size ≤ g ∧ g < w'.heap.size ∧ RowAt w' g ((ys.set (h * 3) (n + 1)).set (9 + d) ((ys.set (h * 3) (n + 1)).getD (h * 3 + 1 + r) 0)) ∧ Below w.heap.size w w' := by
  have HS := Lib.hid hs
  have HL := Lib.hid hl
  have HP := Lib.hid hp
  have L46 := Lib.hid (show (ys.set (h * 3) ((n : Int) + 1)).length = 46 by rw [List.length_set, hl])
  obtain ⟨A, cA, rfl, hA, _⟩ := hs
  clear hl hp
  have k0 := Block.made w 40 #[.int .i64 2, .int .i64 r, .int .i64 d, .int .i64 v]
  have K0 := Lib.hid k0
  have HB0 := Lib.hid ((Below.refl w.heap.size w).alloc (Nat.le_refl _) (.cells #[.int .i64 2, .int .i64 r, .int .i64 d, .int .i64 v] 40))
  clear k0
  have i1 : (0 : Int) ≤ (h : Int) * 3 := by omega
  have i2 : (h : Int) * 3 < 46 := by omega
  have i3 : (h : Int) * 3 + 1 < 46 := by omega
  go_enter Tryd.func22, Tryd.ntmps22
  go_wp2_with fail
  refine (copied_any _ ys B _ (HS.out.keep (fun p hp => World.cell?_alloc_lt _ _ p (Nat.lt_of_lt_of_le hp hB))) (by rw [HL.out]; omega) (by rw [HL.out]; omega)).mono ?_
  rintro e w1 ⟨g, c, rfl, hc46, hg1, hg2, hr1, hb1⟩
  rw [HL.out]
  rw [HL.out] at hc46
  simp at hg1
  have HR1 := Lib.hid hr1
  have HB1 := Lib.hid (HB0.out.trans (hb1.mono (by simp)))
  have k1 : Block w1 w.heap.size 40 #[.int .i64 2, .int .i64 r, .int .i64 d, .int .i64 v] := K0.out.below hb1 (by simp)
  have p0 := (hr1 (h * 3) n HP.out).1
  have K1 := Lib.hid k1
  clear hr1 hb1 k1
  go_wp2_with (refine wpList_store_num rfl 3 (.tmp 17) (.tmp 16) rfl g (h * 3) rfl (n + 1) rfl Tin2.size ys HR1.out (Nat.lt_of_lt_of_eq (by omega) HL.out.symm) ?_; intro w2 hr2 hb2 hs2 hf2; have k2 : ∀ i, w2.cell? ⟨w.heap.size, i, none⟩ = w1.cell? ⟨w.heap.size, i, none⟩ := fun i => hf2 _ (show w.heap.size ≠ g by omega); have y0 := (k2 0).trans (K1.out.cell 0); have y1 := (k2 1).trans (K1.out.cell 1); have y2 := (k2 2).trans (K1.out.cell 2); have y3 := (k2 3).trans (K1.out.cell 3); simp at y0 y1 y2 y3; have HR2 := Lib.hid hr2; have HB2 := Lib.hid (HB1.out.trans (hb2 _ (by omega))); obtain ⟨c1, c2⟩ := HR2.out.get (i := h * 3 + 1 + r) (Nat.lt_of_lt_of_eq (by omega) L46.out.symm); have j1 : (h : Int) * 3 + 1 + r < 46 := (by omega); obtain ⟨c3, c4⟩ := HR2.out.get (i := 9 + d) (Nat.lt_of_lt_of_eq (by omega) L46.out.symm); have j2 : (9 : Int) + d < 46 := (by omega); clear p0 k2 hr2 hb2 hf2)
  go_ret
  exact ⟨g, c, rfl, hc46, by omega, by simp [World.setCell]; omega, HR2.out.put _ _, HB2.out.setCell (by simp; omega) _⟩

set_option maxRecDepth 100000 in
set_option maxHeartbeats 2000000 in
theorem refdone_swap (ys : List Int) (sv : Value) (B h n : Nat) (r d : Nat) (v : Int) (w : World) (hs : Nums w B sv ys) (hB : B ≤ w.heap.size) (hl : ys.length = 46) (hh : h ≤ 2) (hp : ys[h * 3]? = some (n : Int)) (hn : n ≤ 1000) (hr : r ≤ 1) (hd : d ≤ 3) :
    Calls Tryd.prog 22 #[sv, .int .i64 h, .agg #[.int .i64 3, .int .i64 r, .int .i64 d, .int .i64 v]] w fun e w' => ∃ g c, e = .returned (.slice (some ⟨g, 0, none⟩) 46 c) ∧ 46 ≤ c ∧ w.heap.size ≤ g ∧ g < w'.heap.size ∧ RowAt w' g (((ys.set (h * 3) (n + 1)).set (h * 3 + 1 + r) ((ys.set (h * 3) (n + 1)).getD (9 + d) 0)).set (9 + d) ((ys.set (h * 3) (n + 1)).getD (h * 3 + 1 + r) 0)) ∧ Below w.heap.size w w' := by
  have HS := Lib.hid hs
  have HL := Lib.hid hl
  have HP := Lib.hid hp
  have L46 := Lib.hid (show (ys.set (h * 3) ((n : Int) + 1)).length = 46 by rw [List.length_set, hl])
  obtain ⟨A, cA, rfl, hA, _⟩ := hs
  clear hl hp
  have k0 := Block.made w 40 #[.int .i64 3, .int .i64 r, .int .i64 d, .int .i64 v]
  have K0 := Lib.hid k0
  have HB0 := Lib.hid ((Below.refl w.heap.size w).alloc (Nat.le_refl _) (.cells #[.int .i64 3, .int .i64 r, .int .i64 d, .int .i64 v] 40))
  clear k0
  have i1 : (0 : Int) ≤ (h : Int) * 3 := by omega
  have i2 : (h : Int) * 3 < 46 := by omega
  have i3 : (h : Int) * 3 + 1 < 46 := by omega
  go_enter Tryd.func22, Tryd.ntmps22
  go_wp2_with fail
  refine (copied_any _ ys B _ (HS.out.keep (fun p hp => World.cell?_alloc_lt _ _ p (Nat.lt_of_lt_of_le hp hB))) (by rw [HL.out]; omega) (by rw [HL.out]; omega)).mono ?_
  rintro e w1 ⟨g, c, rfl, hc46, hg1, hg2, hr1, hb1⟩
  rw [HL.out]
  rw [HL.out] at hc46
  simp at hg1
  have HR1 := Lib.hid hr1
  have HB1 := Lib.hid (HB0.out.trans (hb1.mono (by simp)))
  have k1 : Block w1 w.heap.size 40 #[.int .i64 3, .int .i64 r, .int .i64 d, .int .i64 v] := K0.out.below hb1 (by simp)
  have p0 := (hr1 (h * 3) n HP.out).1
  have K1 := Lib.hid k1
  clear hr1 hb1 k1
  go_wp2_with (refine wpList_store_num rfl 3 (.tmp 17) (.tmp 16) rfl g (h * 3) rfl (n + 1) rfl Tin2.size ys HR1.out (Nat.lt_of_lt_of_eq (by omega) HL.out.symm) ?_; intro w2 hr2 hb2 hs2 hf2; have k2 : ∀ i, w2.cell? ⟨w.heap.size, i, none⟩ = w1.cell? ⟨w.heap.size, i, none⟩ := fun i => hf2 _ (show w.heap.size ≠ g by omega); have y0 := (k2 0).trans (K1.out.cell 0); have y1 := (k2 1).trans (K1.out.cell 1); have y2 := (k2 2).trans (K1.out.cell 2); have y3 := (k2 3).trans (K1.out.cell 3); simp at y0 y1 y2 y3; have HR2 := Lib.hid hr2; have HB2 := Lib.hid (HB1.out.trans (hb2 _ (by omega))); obtain ⟨c1, c2⟩ := HR2.out.get (i := h * 3 + 1 + r) (Nat.lt_of_lt_of_eq (by omega) L46.out.symm); have j1 : (h : Int) * 3 + 1 + r < 46 := (by omega); obtain ⟨c3, c4⟩ := HR2.out.get (i := 9 + d) (Nat.lt_of_lt_of_eq (by omega) L46.out.symm); have j2 : (9 : Int) + d < 46 := (by omega); have hne : ¬ g = w.heap.size := (by omega); have hne2 : ¬ w.heap.size = g := (by omega); have hne3 : ¬ (9 + d = h * 3 + 1 + r) := (by omega); have hne4 : ¬ (h * 3 + 1 + r = 9 + d) := (by omega); clear p0 k2 hr2 hb2 hf2)
  go_ret
  exact ⟨g, c, rfl, hc46, by omega, by simp [World.setCell]; omega, RowAt.put (RowAt.put HR2.out _ _) _ _, (HB2.out.setCell (by simp; omega) _).setCell (by simp; omega) _⟩

set_option maxRecDepth 100000 in
set_option maxHeartbeats 2000000 in
theorem refdone_fence (ys : List Int) (sv : Value) (B h n : Nat) (r d v : Int) (w : World) (hs : Nums w B sv ys) (hB : B ≤ w.heap.size) (hl : ys.length = 46) (hh : h ≤ 2) (hp : ys[h * 3]? = some (n : Int)) (hn : n ≤ 1000) :
    Calls Tryd.prog 22 #[sv, .int .i64 h, .agg #[.int .i64 4, .int .i64 r, .int .i64 d, .int .i64 v]] w fun e w' => ∃ g c, e = .returned (.slice (some ⟨g, 0, none⟩) 46 c) ∧ 46 ≤ c ∧ w.heap.size ≤ g ∧ g < w'.heap.size ∧ RowAt w' g (ys.set (h * 3) (n + 1)) ∧ Below w.heap.size w w' := by
  have HS := Lib.hid hs
  have HL := Lib.hid hl
  have HP := Lib.hid hp
  have L46 := Lib.hid (show (ys.set (h * 3) ((n : Int) + 1)).length = 46 by rw [List.length_set, hl])
  obtain ⟨A, cA, rfl, hA, _⟩ := hs
  clear hl hp
  have k0 := Block.made w 40 #[.int .i64 4, .int .i64 r, .int .i64 d, .int .i64 v]
  have K0 := Lib.hid k0
  have HB0 := Lib.hid ((Below.refl w.heap.size w).alloc (Nat.le_refl _) (.cells #[.int .i64 4, .int .i64 r, .int .i64 d, .int .i64 v] 40))
  clear k0
  have i1 : (0 : Int) ≤ (h : Int) * 3 := by omega
  have i2 : (h : Int) * 3 < 46 := by omega
  have i3 : (h : Int) * 3 + 1 < 46 := by omega
  go_enter Tryd.func22, Tryd.ntmps22
  go_wp2_with fail
  refine (copied_any _ ys B _ (HS.out.keep (fun p hp => World.cell?_alloc_lt _ _ p (Nat.lt_of_lt_of_le hp hB))) (by rw [HL.out]; omega) (by rw [HL.out]; omega)).mono ?_
  rintro e w1 ⟨g, c, rfl, hc46, hg1, hg2, hr1, hb1⟩
  rw [HL.out]
  rw [HL.out] at hc46
  simp at hg1
  have HR1 := Lib.hid hr1
  have HB1 := Lib.hid (HB0.out.trans (hb1.mono (by simp)))
  have k1 : Block w1 w.heap.size 40 #[.int .i64 4, .int .i64 r, .int .i64 d, .int .i64 v] := K0.out.below hb1 (by simp)
  have p0 := (hr1 (h * 3) n HP.out).1
  have K1 := Lib.hid k1
  clear hr1 hb1 k1
  go_wp2_with (refine wpList_store_num rfl 3 (.tmp 17) (.tmp 16) rfl g (h * 3) rfl (n + 1) rfl Tin2.size ys HR1.out (Nat.lt_of_lt_of_eq (by omega) HL.out.symm) ?_; intro w2 hr2 hb2 hs2 hf2; have k2 : ∀ i, w2.cell? ⟨w.heap.size, i, none⟩ = w1.cell? ⟨w.heap.size, i, none⟩ := fun i => hf2 _ (show w.heap.size ≠ g by omega); have y0 := (k2 0).trans (K1.out.cell 0); have y1 := (k2 1).trans (K1.out.cell 1); have y2 := (k2 2).trans (K1.out.cell 2); have y3 := (k2 3).trans (K1.out.cell 3); simp at y0 y1 y2 y3; have HR2 := Lib.hid hr2; have HB2 := Lib.hid (HB1.out.trans (hb2 _ (by omega))); obtain ⟨c1, c2⟩ := HR2.out.get (i := h * 3 + 1) (Nat.lt_of_lt_of_eq (by omega) L46.out.symm); clear p0 k2 hr2 hb2 hf2)
  go_ret
  exact ⟨g, c, rfl, hc46, by omega, by omega, HR2.out, HB2.out⟩

set_option maxRecDepth 100000 in
set_option maxHeartbeats 2000000 in
theorem refdone_skip0 (ys : List Int) (sv : Value) (B h n : Nat) (r v : Nat) (d : Int) (w : World) (hs : Nums w B sv ys) (hB : B ≤ w.heap.size) (hl : ys.length = 46) (hh : h ≤ 2) (hp : ys[h * 3]? = some (n : Int)) (hn : n ≤ 1000) (hr : r ≤ 1) (hv : v ≤ 5) (hx : (ys.set (h * 3) (n + 1)).getD (h * 3 + 1 + r) 0 = 0) :
    Calls Tryd.prog 22 #[sv, .int .i64 h, .agg #[.int .i64 5, .int .i64 r, .int .i64 d, .int .i64 v]] w fun e w' => ∃ g c, e = .returned (.slice (some ⟨g, 0, none⟩) 46 c) ∧ 46 ≤ c ∧ w.heap.size ≤ g ∧ g < w'.heap.size ∧ RowAt w' g ((ys.set (h * 3) (n + 1)).set (h * 3) (n + 1 + v)) ∧ Below w.heap.size w w' := by
  have HS := Lib.hid hs
  have HL := Lib.hid hl
  have HP := Lib.hid hp
  have L46 := Lib.hid (show (ys.set (h * 3) ((n : Int) + 1)).length = 46 by rw [List.length_set, hl])
  have HX := Lib.hid hx; clear hx
  obtain ⟨A, cA, rfl, hA, _⟩ := hs
  clear hl hp
  have k0 := Block.made w 40 #[.int .i64 5, .int .i64 r, .int .i64 d, .int .i64 v]
  have K0 := Lib.hid k0
  have HB0 := Lib.hid ((Below.refl w.heap.size w).alloc (Nat.le_refl _) (.cells #[.int .i64 5, .int .i64 r, .int .i64 d, .int .i64 v] 40))
  clear k0
  have i1 : (0 : Int) ≤ (h : Int) * 3 := by omega
  have i2 : (h : Int) * 3 < 46 := by omega
  have i3 : (h : Int) * 3 + 1 < 46 := by omega
  go_enter Tryd.func22, Tryd.ntmps22
  go_wp2_with fail
  refine (copied_any _ ys B _ (HS.out.keep (fun p hp => World.cell?_alloc_lt _ _ p (Nat.lt_of_lt_of_le hp hB))) (by rw [HL.out]; omega) (by rw [HL.out]; omega)).mono ?_
  rintro e w1 ⟨g, c, rfl, hc46, hg1, hg2, hr1, hb1⟩
  rw [HL.out]
  rw [HL.out] at hc46
  simp at hg1
  have HR1 := Lib.hid hr1
  have HB1 := Lib.hid (HB0.out.trans (hb1.mono (by simp)))
  have k1 : Block w1 w.heap.size 40 #[.int .i64 5, .int .i64 r, .int .i64 d, .int .i64 v] := K0.out.below hb1 (by simp)
  have p0 := (hr1 (h * 3) n HP.out).1
  have K1 := Lib.hid k1
  clear hr1 hb1 k1
  go_wp2_with (refine wpList_store_num rfl 3 (.tmp 17) (.tmp 16) rfl g (h * 3) rfl (n + 1) rfl Tin2.size ys HR1.out (Nat.lt_of_lt_of_eq (by omega) HL.out.symm) ?_; intro w2 hr2 hb2 hs2 hf2; have k2 : ∀ i, w2.cell? ⟨w.heap.size, i, none⟩ = w1.cell? ⟨w.heap.size, i, none⟩ := fun i => hf2 _ (show w.heap.size ≠ g by omega); have y0 := (k2 0).trans (K1.out.cell 0); have y1 := (k2 1).trans (K1.out.cell 1); have y2 := (k2 2).trans (K1.out.cell 2); have y3 := (k2 3).trans (K1.out.cell 3); simp at y0 y1 y2 y3; have HR2 := Lib.hid hr2; have HB2 := Lib.hid (HB1.out.trans (hb2 _ (by omega))); obtain ⟨c1, c2⟩ := HR2.out.get (i := h * 3 + 1 + r) (Nat.lt_of_lt_of_eq (by omega) L46.out.symm); have j1 : (h : Int) * 3 + 1 + r < 46 := (by omega); rw [HX.out] at c1; obtain ⟨c3, c4⟩ := HR2.out (h * 3) ((n : Int) + 1) (List.getElem?_set_self (Nat.lt_of_lt_of_eq (by omega) HL.out.symm)); clear p0 k2 hr2 hb2 hf2)
  go_region
  go_wp2
  go_ret
  exact ⟨g, c, rfl, hc46, by omega, by simp [World.setCell]; omega, RowAt.put HR2.out _ _, (HB2.out.setCell (by simp; omega) _).drew⟩

set_option maxRecDepth 100000 in
set_option maxHeartbeats 2000000 in
theorem refdone_skip1 (ys : List Int) (sv : Value) (B h n : Nat) (r v : Nat) (d x : Int) (w : World) (hs : Nums w B sv ys) (hB : B ≤ w.heap.size) (hl : ys.length = 46) (hh : h ≤ 2) (hp : ys[h * 3]? = some (n : Int)) (hn : n ≤ 1000) (hr : r ≤ 1) (hx : (ys.set (h * 3) (n + 1)).getD (h * 3 + 1 + r) 0 = x) (hx0 : (x == 0) = false) :
    Calls Tryd.prog 22 #[sv, .int .i64 h, .agg #[.int .i64 5, .int .i64 r, .int .i64 d, .int .i64 v]] w fun e w' => ∃ g c, e = .returned (.slice (some ⟨g, 0, none⟩) 46 c) ∧ 46 ≤ c ∧ w.heap.size ≤ g ∧ g < w'.heap.size ∧ RowAt w' g (ys.set (h * 3) (n + 1)) ∧ Below w.heap.size w w' := by
  have HS := Lib.hid hs
  have HL := Lib.hid hl
  have HP := Lib.hid hp
  have L46 := Lib.hid (show (ys.set (h * 3) ((n : Int) + 1)).length = 46 by rw [List.length_set, hl])
  have HX := Lib.hid hx; clear hx
  obtain ⟨A, cA, rfl, hA, _⟩ := hs
  clear hl hp
  have k0 := Block.made w 40 #[.int .i64 5, .int .i64 r, .int .i64 d, .int .i64 v]
  have K0 := Lib.hid k0
  have HB0 := Lib.hid ((Below.refl w.heap.size w).alloc (Nat.le_refl _) (.cells #[.int .i64 5, .int .i64 r, .int .i64 d, .int .i64 v] 40))
  clear k0
  have i1 : (0 : Int) ≤ (h : Int) * 3 := by omega
  have i2 : (h : Int) * 3 < 46 := by omega
  have i3 : (h : Int) * 3 + 1 < 46 := by omega
  go_enter Tryd.func22, Tryd.ntmps22
  go_wp2_with fail
  refine (copied_any _ ys B _ (HS.out.keep (fun p hp => World.cell?_alloc_lt _ _ p (Nat.lt_of_lt_of_le hp hB))) (by rw [HL.out]; omega) (by rw [HL.out]; omega)).mono ?_
  rintro e w1 ⟨g, c, rfl, hc46, hg1, hg2, hr1, hb1⟩
  rw [HL.out]
  rw [HL.out] at hc46
  simp at hg1
  have HR1 := Lib.hid hr1
  have HB1 := Lib.hid (HB0.out.trans (hb1.mono (by simp)))
  have k1 : Block w1 w.heap.size 40 #[.int .i64 5, .int .i64 r, .int .i64 d, .int .i64 v] := K0.out.below hb1 (by simp)
  have p0 := (hr1 (h * 3) n HP.out).1
  have K1 := Lib.hid k1
  clear hr1 hb1 k1
  go_wp2_with (refine wpList_store_num rfl 3 (.tmp 17) (.tmp 16) rfl g (h * 3) rfl (n + 1) rfl Tin2.size ys HR1.out (Nat.lt_of_lt_of_eq (by omega) HL.out.symm) ?_; intro w2 hr2 hb2 hs2 hf2; have k2 : ∀ i, w2.cell? ⟨w.heap.size, i, none⟩ = w1.cell? ⟨w.heap.size, i, none⟩ := fun i => hf2 _ (show w.heap.size ≠ g by omega); have y0 := (k2 0).trans (K1.out.cell 0); have y1 := (k2 1).trans (K1.out.cell 1); have y2 := (k2 2).trans (K1.out.cell 2); have y3 := (k2 3).trans (K1.out.cell 3); simp at y0 y1 y2 y3; have HR2 := Lib.hid hr2; have HB2 := Lib.hid (HB1.out.trans (hb2 _ (by omega))); obtain ⟨c1, c2⟩ := HR2.out.get (i := h * 3 + 1 + r) (Nat.lt_of_lt_of_eq (by omega) L46.out.symm); have j1 : (h : Int) * 3 + 1 + r < 46 := (by omega); rw [HX.out] at c1; clear p0 k2 hr2 hb2 hf2)
  go_ret
  exact ⟨g, c, rfl, hc46, by omega, by omega, HR2.out, HB2.out⟩


def DonePost (w : World) (zs : List Int) (e : Ending) (w' : World) : Prop := ∃ g c, e = .returned (.slice (some ⟨g, 0, none⟩) 46 c) ∧ 46 ≤ c ∧ w.heap.size ≤ g ∧ g < w'.heap.size ∧ RowAt w' g zs ∧ Below w.heap.size w w'
theorem refdone_any (ys : List Int) (sv : Value) (B h n : Nat) (words : Int) (l : Ln) (w : World) (hs : Nums w B sv ys) (hB : B ≤ w.heap.size) (hl : ys.length = 46) (hh : h ≤ 2) (hp : ys[h * 3]? = some (n : Int)) (hn : n ≤ 20) (hw : words ≤ 4) (hok : okLn words l = true) :
    Calls Tryd.prog 22 #[sv, .int .i64 h, lnV l] w (DonePost w (refDone ys h l)) := by
  obtain ⟨k, r, d, v⟩ := l
  have hg : ys.getD (h * 3) 0 = (n : Int) := by rw [List.getD_eq_getElem?_getD, hp]; rfl
  simp only [refDone, hg]
  simp only [okLn] at hok
  have hn' : n ≤ 1000 := by omega
  by_cases k0 : k = 0
  · subst k0
    simp [inR] at hok
    obtain ⟨⟨hr1, hr2⟩, _⟩ := hok
    obtain ⟨r, rfl⟩ := Int.eq_ofNat_of_zero_le hr1
    exact refdone_put ys sv B h n r d v w hs hB hl hh hp hn' (by omega)
  by_cases k1 : k = 1
  · subst k1
    simp [inR] at hok
    obtain ⟨⟨hr1, hr2⟩, hd1, hd2⟩ := hok
    obtain ⟨r, rfl⟩ := Int.eq_ofNat_of_zero_le hr1
    obtain ⟨d, rfl⟩ := Int.eq_ofNat_of_zero_le hd1
    exact refdone_load ys sv B h n r d v w hs hB hl hh hp hn' (by omega) (by omega)
  by_cases k2 : k = 2
  · subst k2
    simp [inR] at hok
    obtain ⟨⟨hr1, hr2⟩, hd1, hd2⟩ := hok
    obtain ⟨r, rfl⟩ := Int.eq_ofNat_of_zero_le hr1
    obtain ⟨d, rfl⟩ := Int.eq_ofNat_of_zero_le hd1
    exact refdone_store ys sv B h n r d v w hs hB hl hh hp hn' (by omega) (by omega)
  by_cases k3 : k = 3
  · subst k3
    simp [inR] at hok
    obtain ⟨⟨hr1, hr2⟩, hd1, hd2⟩ := hok
    obtain ⟨r, rfl⟩ := Int.eq_ofNat_of_zero_le hr1
    obtain ⟨d, rfl⟩ := Int.eq_ofNat_of_zero_le hd1
    exact refdone_swap ys sv B h n r d v w hs hB hl hh hp hn' (by omega) (by omega)
  by_cases k5 : k = 5
  · subst k5
    simp [inR] at hok
    obtain ⟨⟨hr1, hr2⟩, hv1, hv2⟩ := hok
    obtain ⟨r, rfl⟩ := Int.eq_ofNat_of_zero_le hr1
    obtain ⟨v, rfl⟩ := Int.eq_ofNat_of_zero_le hv1
    simp only [Int.toNat_natCast, Int.reduceEq, reduceIte]
    by_cases hx : (ys.set (h * 3) ((n : Int) + 1)).getD (h * 3 + 1 + r) 0 = 0
    · rw [if_pos hx]
      exact refdone_skip0 ys sv B h n r v d w hs hB hl hh hp hn' (by omega) (by omega) hx
    · rw [if_neg hx]
      exact refdone_skip1 ys sv B h n r v d _ w hs hB hl hh hp hn' (by omega) rfl (beq_eq_false_iff_ne.2 hx)
  · have k4 : k = 4 := by simp [k0, k1, k2, k3, k5] at hok; exact hok
    subst k4
    exact refdone_fence ys sv B h n r d v w hs hB hl hh hp hn'
end Go.Proofs.YthpnnmkpbkbanaaDoor

/-
  What latchgarthref1.step answers.
-/
namespace Go.Proofs.YthpnnmkpbkbanaaDoor
open Go.RowKit

set_option maxRecDepth 100000 in
set_option maxHeartbeats 2000000 in
theorem refstep_plain (ys : List Int) (sv : Value) (B h n : Nat) (words : Int) (l : Ln) (wait : Bool) (w : World) (hs : Nums w B sv ys) (hB : B ≤ w.heap.size) (hl : ys.length = 46) (hh : h ≤ 2) (hp : ys[h * 3]? = some (n : Int)) (hn : n ≤ 20) (hw : words ≤ 4) (hok : okLn words l = true)
    (h2 : wait = false ∨ l.k ≠ 2) (cnt : Nat) (hc : ys[13 + h * 11]? = some (cnt : Int)) (h1 : cnt = 0 ∨ l.k ≠ 1) :
    Calls Tryd.prog 18 #[sv, .int .i64 h, lnV l, .bool wait] w (DonePost w (refDone ys h l)) := by
  have HS := Lib.hid hs
  have HL := Lib.hid hl
  have HD := Lib.hid (fun w' hs' hB' => refdone_any ys sv B h n words l w' hs' hB' hl hh hp hn hw hok)
  obtain ⟨A, cA, rfl, hA, hs⟩ := hs
  obtain ⟨b, o, rfl, hb, hcc⟩ := hs (by omega)
  have q0 := hcc _ _ hc
  have HQ := Lib.hid q0
  have hbw : b < w.heap.size := by omega
  rw [hl] at HS HD
  rw [hl]
  obtain ⟨k, r, d, v⟩ := l
  simp only at h1 h2
  have HB0 := Lib.hid ((Below.refl w.heap.size w).alloc (Nat.le_refl _) (.cells #[.int .i64 k, .int .i64 r, .int .i64 d, .int .i64 v] 40))
  have K0 := Lib.hid (Block.made w 40 #[.int .i64 k, .int .i64 r, .int .i64 d, .int .i64 v])
  have i1 : (13 : Int) + (h : Int) * 11 < 46 := by omega
  have i2 : (0 : Int) ≤ 13 + (h : Int) * 11 := by omega
  have e2 : wait = true → (k == 2) = false := fun hw => beq_eq_false_iff_ne.2 (h2.elim (fun e => by rw [e] at hw; cases hw) id)
  have hs0 := HB0.out.cell (p := ⟨b, o + (13 + h * 11), none⟩) hbw
  clear hcc hs hA hl hp q0 hc hok hn h2
  show Calls Tryd.prog 18 #[.slice (some ⟨b, o, none⟩) 46 cA, .int .i64 h, .agg #[.int .i64 k, .int .i64 r, .int .i64 d, .int .i64 v], .bool wait] w _
  cases wait
  · clear e2
    go_enter Tryd.func18, Tryd.ntmps18
    go_wp2_with fail
    refine (HD.out _ (HS.out.keep (fun p hp => World.cell?_alloc_lt _ _ p (Nat.lt_of_lt_of_le hp hB))) (by simp; omega)).mono ?_
    rintro e w1 ⟨g, c, rfl, hc46, hg1, hg2, hr1, hb1⟩
    simp at hg1
    have q1 : w1.cell? ⟨b, o + (13 + h * 11), none⟩ = some (.int .i64 cnt) := ((hb1.cell (p := ⟨b, o + (13 + h * 11), none⟩) (by simp; omega)).trans hs0).trans HQ.out
    have k0 : w1.cell? ⟨w.heap.size, 0, none⟩ = some (.int .i64 k) := ((K0.out.below hb1 (by simp)).cell 0).trans rfl
    have HR := Lib.hid hr1
    have HB1 := Lib.hid (HB0.out.trans (hb1.mono (by simp)))
    clear hr1 hb1
    go_wp2
    go_loopw [12] (fun iv wr => iv = .int .i64 0 ∧ wr = w1) (fun _ _ => 0)
    case atStart => exact ⟨rfl, rfl⟩
    case round =>
      obtain ⟨rfl, rfl⟩ := hrel
      rcases h1 with rfl | h1
      · go_wp2
        go_ret
        exact ⟨g, c, rfl, hc46, by omega, hg2, HR.out, HB1.out⟩
      · have e1 : (k == 1) = false := beq_eq_false_iff_ne.2 h1
        by_cases hcz : (0 : Int) < cnt
        · go_wp2
          go_ret
          exact ⟨g, c, rfl, hc46, by omega, hg2, HR.out, HB1.out⟩
        · go_wp2
          go_ret
          exact ⟨g, c, rfl, hc46, by omega, hg2, HR.out, HB1.out⟩
  · have e2' := e2 rfl
    clear e2
    go_enter Tryd.func18, Tryd.ntmps18
    go_wp2_with fail
    refine (HD.out _ (HS.out.keep (fun p hp => World.cell?_alloc_lt _ _ p (Nat.lt_of_lt_of_le hp hB))) (by simp; omega)).mono ?_
    rintro e w1 ⟨g, c, rfl, hc46, hg1, hg2, hr1, hb1⟩
    simp at hg1
    have q1 : w1.cell? ⟨b, o + (13 + h * 11), none⟩ = some (.int .i64 cnt) := ((hb1.cell (p := ⟨b, o + (13 + h * 11), none⟩) (by simp; omega)).trans hs0).trans HQ.out
    have k0 : w1.cell? ⟨w.heap.size, 0, none⟩ = some (.int .i64 k) := ((K0.out.below hb1 (by simp)).cell 0).trans rfl
    have HR := Lib.hid hr1
    have HB1 := Lib.hid (HB0.out.trans (hb1.mono (by simp)))
    clear hr1 hb1
    go_wp2
    go_loopw [12] (fun iv wr => iv = .int .i64 0 ∧ wr = w1) (fun _ _ => 0)
    case atStart => exact ⟨rfl, rfl⟩
    case round =>
      obtain ⟨rfl, rfl⟩ := hrel
      rcases h1 with rfl | h1
      · go_wp2
        go_ret
        exact ⟨g, c, rfl, hc46, by omega, hg2, HR.out, HB1.out⟩
      · have e1 : (k == 1) = false := beq_eq_false_iff_ne.2 h1
        by_cases hcz : (0 : Int) < cnt
        · go_wp2
          go_ret
          exact ⟨g, c, rfl, hc46, by omega, hg2, HR.out, HB1.out⟩
        · go_wp2
          go_ret
          exact ⟨g, c, rfl, hc46, by omega, hg2, HR.out, HB1.out⟩
end Go.Proofs.YthpnnmkpbkbanaaDoor
