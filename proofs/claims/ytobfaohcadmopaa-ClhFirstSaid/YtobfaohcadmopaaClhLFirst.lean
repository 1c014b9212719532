/-
  The walk of latchgarthlaw2.ClhFirst: it answers true, whatever the number of hands and the script.
-/
import Derived.Test.YtobfaohcadmopaaClhFact
import Derived.Test.YtobfaohcadmopaaClhGh
import Derived.Test.YtobfaohcadmopaaNumRow
namespace Go.Proofs.Ytobfaohcadmopaa.Clh
open Go.RowKit

theorem in_no (z lo hi : Int) (h : ¬ (lo ≤ z ∧ z ≤ hi)) (w : World) : Calls Try.prog 12 #[.int .i64 z, .int .i64 lo, .int .i64 hi] w fun e w' => e = .returned (.bool false) ∧ w = w' := by
  by_cases h0 : lo ≤ z
  · have h1 : ¬ z ≤ hi := fun k => h ⟨h0, k⟩
    clear h
    go_enter Try.func12, Try.ntmps12
    go_wp2
    go_ret
    exact ⟨rfl, rfl⟩
  · clear h
    go_enter Try.func12, Try.ntmps12
    go_wp2
    go_ret
    exact ⟨rfl, rfl⟩
theorem Tint.info : (Try.prog.info? 3).map (fun i => (i.zero, i.size, i.bytes)) = some (some (.int .i64 0), 1, 8) := by kernel_rfl
/-- The row in memory of its own. -/
structure RowAt (w wr : World) (g lb : Nat) (v : Value) (R : List Int) : Prop where
  new : w.heap.size ≤ lb
  far : lb ≠ g
  row : NRow wr 3 lb v R
theorem RowAt.touch {w wr w' : World} {g lb : Nat} {v : Value} {R : List Int} (h : RowAt w wr g lb v R) (ht : Touch (fun k => k = g) wr w') : RowAt w w' g lb v R := ⟨h.new, h.far, h.row.touch ht h.far⟩
theorem RowAt.head {w wr : World} {g lb L c : Nat} {A : Option Addr} {z : Int} {R : List Int} (h : RowAt w wr g lb (.slice A L c) (z :: R)) : ∃ o, A = some ⟨lb, o, none⟩ ∧ L = R.length + 1 ∧ wr.cell? ⟨lb, o, none⟩ = some (.int .i64 z) ∧ R.length + 1 ≤ c ∧ RowAt w wr g lb (.slice (some (nextN lb o c)) R.length (c - 1)) R := by
  have hL : L = R.length + 1 := by
    obtain ⟨A', c', e, _⟩ := h.row
    injection e
  subst hL
  obtain ⟨o, e, hc, hl⟩ := h.row.cell
  subst e
  exact ⟨o, rfl, rfl, hc, hl, h.new, h.far, h.row.tail⟩
theorem LkAt.turned {w wr w' : World} {g n A lb : Nat} {s : LSt} (h : LkAt w wr g n s A) (hn : w.heap.size ≤ lb) (hf : lb ≠ g) (ht : Touch (fun k => k = lb) wr w') : LkAt w w' g n s A :=
  ⟨h.new, h.lk.touch ht (fun e => hf e.symm), h.below.trans (ht.below h.below.size fun _ hi => hi ▸ hn), h.ok, h.pos, h.four, h.fit⟩

set_option maxRecDepth 100000 in
set_option maxHeartbeats 4000000 in
theorem first_law (z : Int) (sv : Value) (script : List Int) (w : World) (hn : Nums w w.heap.size sv script) :
    Calls Try.prog 5 #[.int .i64 z, sv] w fun e w' => e = .returned (.bool true) ∧ Below w.heap.size w w' := by
  obtain ⟨A, c, rfl, hlen, hn⟩ := hn
  have HN := Lib.hid hn
  clear hn
  by_cases hz : 1 ≤ z ∧ z ≤ 4
  · obtain ⟨n, rfl⟩ := Int.eq_ofNat_of_zero_le (show 0 ≤ z by omega)
    have h1 : 1 ≤ n := by omega
    have h4 : n ≤ 4 := by omega
    obtain ⟨i0, hi0, hz0, hz1, hz2⟩ := info_parts Tint.info
    clear hz
    go_enter Try.func5, Try.ntmps5
    go_wp2_with (first | (go_at_call 8; refine (fact_any _).mono ?_; rintro e w1 ⟨rfl, hb⟩; have HB := Lib.hid hb; clear hb) | (go_at_call 9; refine (newL HB.out h1 h4).mono ?_; rintro e w2 ⟨g, rfl, hl⟩; have HL := Lib.hid hl; clear hl))
    have HR0 := Lib.hid (show RowAt w w2 g (g + 1) (.slice none 0 0) [] from ⟨by have := HL.out.new; omega, by omega, NRow.nil _ _ _⟩)
    go_loopw [8, 9] (fun v i wr => ∃ (k : Nat) (s : LSt) (R : List Int) (lb : Nat), k ≤ script.length ∧ i = .int .i64 k ∧ k ≤ 400 ∧ LkAt w wr g n s k ∧ RowAt w wr g lb v R ∧ lkGh n s R) (fun _ i _ => script.length - (intOf i).toNat)
    case atStart => exact ⟨0, _, [], g + 1, by omega, rfl, by omega, HL.out, HR0.out, lkGh_new n⟩
    case round =>
      clear HL HR0
      obtain ⟨k, s, R, lb, hk, rfl, hk4, hl, hr, hg⟩ := hrel
      have HL := Lib.hid hl
      have HR := Lib.hid hr
      have HG := Lib.hid hg
      by_cases hgo : k < script.length ∧ k < 400
      · have hI : (k : Int) < script.length := by omega
        have h4I : (k : Int) < 400 := by omega
        obtain ⟨hlt, _⟩ := hgo
        obtain ⟨b, o, rfl, hbb, hcc⟩ := HN.out (by omega)
        obtain ⟨x, hx⟩ : ∃ x, script[k]? = some x := ⟨script[k], List.getElem?_eq_getElem hlt⟩
        have hxc := (hl.below.cell (p := ⟨b, o + k, none⟩) hbb).trans (hcc k x hx)
        have HX := Lib.hid hx
        have hw1 : IntKind.i64.wrap ((n : Int) - 1) = (n : Int) - 1 := IntWalk.i64_in _ (by omega)
        clear hcc hx hl hr hg
        by_cases hin : 0 ≤ x ∧ x < (n : Int)
        · obtain ⟨p, rfl⟩ := Int.eq_ofNat_of_zero_le hin.1
          have hpn : p < n := by omega
          clear hin
          have hpI : (p : Int) < n := by omega
          have h0I : (0 : Int) ≤ p := by omega
          have HST := Lib.hid (lkGh_step HL.out.ok HG.out hpn)
          have HLE := Lib.hid (lkGh_len HL.out.ok HG.out)
          obtain ⟨a, ha⟩ : ∃ a, a = lkAt n s p := ⟨_, rfl⟩
          obtain ⟨b2, hb2⟩ : ∃ b2, b2 = lkAt n (lkStep n s p) p := ⟨_, rfl⟩
          obtain ⟨s3, hs3⟩ : ∃ s3, s3 = lkStep n s p := ⟨_, rfl⟩
          have HA := Lib.hid (atL HL.out p)
          have HSG := Lib.hid (stepG HL.out (by omega) p h0I hpI)
          have HB2 := Lib.hid hb2
          rw [← ha] at HA
          rw [← hs3] at HSG HB2
          rw [← ha, ← hb2, ← hs3] at HST
          clear ha hb2 hs3
          obtain ⟨A8, c8, rfl⟩ := HR.out.row.form
          by_cases aD : a = 2
          · have e1 : ((a : Int) == 2) = true := beq_iff_eq.2 (by omega)
            have e2 : ((a : Int) != 4) = true := by simp; omega
            have aI : a ≠ 4 := by omega
            rw [if_pos aD] at HST
            by_cases bI : b2 = 4
            · have e3 : ((b2 : Int) == 4) = true := beq_iff_eq.2 (by omega)
              obtain ⟨R2, hR2, hg3⟩ := HST.out.1 ⟨aI, bI⟩
              have HG3 := Lib.hid hg3
              have HRE := Lib.hid hR2
              clear hg3 aI bI aD hR2
              have hL8 : R2.length < 1000 := by have := HLE.out; have h3 := congrArg List.length HRE.out; simp at h3; omega
              have hlz : (((R2.length : Int) + 1) == 0) = false := by simp; omega
              have hlz2 : (0 : Int) < (R2.length : Int) + 1 := by omega
              go_wp2_with (first | (go_at_call 11; (with_reducible refine HA.out.mono ?_); rintro e w3 ⟨rfl, rfl⟩) | (go_at_call 10; (with_reducible refine HSG.out.mono ?_); rintro e w4 ⟨rfl, hl4, ht4⟩; have HL3 := Lib.hid hl4; have HR3 := Lib.hid (HR.out.touch ht4); clear hl4 ht4) | (go_at_call 11; (with_reducible refine (atL HL3.out p).mono ?_); rw [← HB2.out]; rintro e w5 ⟨rfl, rfl⟩) | (at_builtin; refine wpList_append_num _ rfl (.tmp 59) (.tmp 61) 22 rfl 3 i0 (.int .i64 0) Try.underlying22 hi0 hz0 hz1 hz2 rfl lb (.slice A8 R.length c8) rfl R (HR3.out.row.touch (O := fun k => k = g) ((Touch.refl (fun k => k = g) _).alloc _) HR3.out.far) p ⟨w4.heap.size, 0, none⟩ 1 rfl (one_cell (by simp)) (by have := HLE.out; omega) ?_; intro v7 w7 lb7 hr7 hlb7 ht7 hlt7; have HL7 := Lib.hid ((HL3.out.made (.cells #[.int .i64 p] 3)).turned HR3.out.new HR3.out.far ht7); have HR7 := Lib.hid (show RowAt w w7 g lb7 v7 (R ++ [(p : Int)]) from ⟨by have := HR3.out.new; have := HL3.out.below.size; rcases hlb7 with h | h; omega; (simp at h; omega), by have := HR3.out.far; have := HL3.out.lk.lt; rcases hlb7 with h | h; omega; (simp at h; omega), hr7⟩); clear hr7 hlb7 ht7 hlt7; rw [HRE.out] at HR7; obtain ⟨A7, c7, rfl⟩ := HR7.out.row.form; obtain ⟨o7, eA7, -, hhd7, hc7, hT7⟩ := HR7.out.head; subst eA7; have HT7 := Lib.hid hT7; have hsl7 := fun W => nslice_one lb7 o7 R2.length c7 hc7 W; clear hT7))
              go_roundw
              case rel => exact ⟨k + 1, _, R2, lb7, by omega, by go_num, by omega, HL7.out, HT7.out, HG3.out⟩
              case measure => simp [intOf]; omega
            · have e3 : ((b2 : Int) == 4) = false := beq_eq_false_iff_ne.2 (by omega)
              have HG3 := Lib.hid (HST.out.2 (fun h => bI h.2))
              clear aI bI aD
              go_wp2_with (first | (go_at_call 11; (with_reducible refine HA.out.mono ?_); rintro e w3 ⟨rfl, rfl⟩) | (go_at_call 10; (with_reducible refine HSG.out.mono ?_); rintro e w4 ⟨rfl, hl4, ht4⟩; have HL3 := Lib.hid hl4; have HR3 := Lib.hid (HR.out.touch ht4); clear hl4 ht4) | (go_at_call 11; (with_reducible refine (atL HL3.out p).mono ?_); rw [← HB2.out]; rintro e w5 ⟨rfl, rfl⟩) | (at_builtin; refine wpList_append_num _ rfl (.tmp 59) (.tmp 61) 22 rfl 3 i0 (.int .i64 0) Try.underlying22 hi0 hz0 hz1 hz2 rfl lb (.slice A8 R.length c8) rfl R (HR3.out.row.touch (O := fun k => k = g) ((Touch.refl (fun k => k = g) _).alloc _) HR3.out.far) p ⟨w4.heap.size, 0, none⟩ 1 rfl (one_cell (by simp)) (by have := HLE.out; omega) ?_; intro v7 w7 lb7 hr7 hlb7 ht7 hlt7; have HL7 := Lib.hid ((HL3.out.made (.cells #[.int .i64 p] 3)).turned HR3.out.new HR3.out.far ht7); have HR7 := Lib.hid (show RowAt w w7 g lb7 v7 (R ++ [(p : Int)]) from ⟨by have := HR3.out.new; have := HL3.out.below.size; rcases hlb7 with h | h; omega; (simp at h; omega), by have := HR3.out.far; have := HL3.out.lk.lt; rcases hlb7 with h | h; omega; (simp at h; omega), hr7⟩); clear hr7 hlb7 ht7 hlt7))
              go_roundw
              case rel => exact ⟨k + 1, _, _, lb7, by omega, by go_num, by omega, HL7.out, HR7.out, HG3.out⟩
              case measure => simp [intOf]; omega
          · have e1 : ((a : Int) == 2) = false := beq_eq_false_iff_ne.2 (by omega)
            rw [if_neg aD] at HST
            clear aD
            by_cases aI : a = 4
            · have e2 : ((a : Int) != 4) = false := by simp; omega
              have HG3 := Lib.hid (HST.out.2 (fun h => h.1 aI))
              clear aI
              go_wp2_with (first | (go_at_call 11; (with_reducible refine HA.out.mono ?_); rintro e w3 ⟨rfl, rfl⟩) | (go_at_call 10; (with_reducible refine HSG.out.mono ?_); rintro e w4 ⟨rfl, hl4, ht4⟩; have HL3 := Lib.hid hl4; have HR3 := Lib.hid (HR.out.touch ht4); clear hl4 ht4) | (go_at_call 11; (with_reducible refine (atL HL3.out p).mono ?_); rw [← HB2.out]; rintro e w5 ⟨rfl, rfl⟩))
              go_roundw
              case rel => exact ⟨k + 1, _, R, lb, by omega, by go_num, by omega, HL3.out, HR3.out, HG3.out⟩
              case measure => simp [intOf]; omega
            · have e2 : ((a : Int) != 4) = true := by simp; omega
              by_cases bI : b2 = 4
              · have e3 : ((b2 : Int) == 4) = true := beq_iff_eq.2 (by omega)
                obtain ⟨R2, hR2, hg3⟩ := HST.out.1 ⟨aI, bI⟩
                subst hR2
                have HG3 := Lib.hid hg3
                obtain ⟨o2, eA, eL, hhd, hc8, -⟩ := HR.out.head
                subst eA
                clear hg3 aI bI
                have hL8 : R2.length < 1000 := by have := HLE.out; simp at this; omega
                have hsl := fun W => nslice_one lb o2 R2.length c8 hc8 W
                have hlz : (((R2.length : Int) + 1) == 0) = false := by simp; omega
                have hlz2 : (0 : Int) < (R2.length : Int) + 1 := by omega
                go_wp2_with (first | (go_at_call 11; (with_reducible refine HA.out.mono ?_); rintro e w3 ⟨rfl, rfl⟩) | (go_at_call 10; (with_reducible refine HSG.out.mono ?_); rintro e w4 ⟨rfl, hl4, ht4⟩; have HL3 := Lib.hid hl4; have HR3 := Lib.hid (HR.out.touch ht4); obtain ⟨o3, e3A, -, hhd3, -, hT3⟩ := HR3.out.head; cases e3A; have HT3 := Lib.hid hT3; clear hT3; clear hl4 ht4) | (go_at_call 11; (with_reducible refine (atL HL3.out p).mono ?_); rw [← HB2.out]; rintro e w5 ⟨rfl, rfl⟩))
                go_roundw
                case rel => exact ⟨k + 1, _, R2, lb, by omega, by go_num, by omega, HL3.out, HT3.out, HG3.out⟩
                case measure => simp [intOf]; omega
              · have e3 : ((b2 : Int) == 4) = false := beq_eq_false_iff_ne.2 (by omega)
                have HG3 := Lib.hid (HST.out.2 (fun h => bI h.2))
                clear aI bI
                go_wp2_with (first | (go_at_call 11; (with_reducible refine HA.out.mono ?_); rintro e w3 ⟨rfl, rfl⟩) | (go_at_call 10; (with_reducible refine HSG.out.mono ?_); rintro e w4 ⟨rfl, hl4, ht4⟩; have HL3 := Lib.hid hl4; have HR3 := Lib.hid (HR.out.touch ht4); clear hl4 ht4) | (go_at_call 11; (with_reducible refine (atL HL3.out p).mono ?_); rw [← HB2.out]; rintro e w5 ⟨rfl, rfl⟩))
                go_roundw
                case rel => exact ⟨k + 1, _, R, lb, by omega, by go_num, by omega, HL3.out, HR3.out, HG3.out⟩
                case measure => simp [intOf]; omega
        · have HX2 := Lib.hid (in_no x 0 ((n : Int) - 1) (by omega))
          have HS := Lib.hid (stepL HL.out (by omega) x)
          rw [lkStep_out hin, show perr n x = 1 from if_neg hin, errV_one] at HS
          have HS1 := Lib.hid (stepT HL.out (by omega) x)
          rw [lkStep_out hin, show perr n x = 1 from if_neg hin, errV_one] at HS1
          clear hin HS
          go_wp2_with (first | (go_at_call 11; (with_reducible refine (atL HL.out x).mono ?_); rintro e w3 ⟨rfl, rfl⟩) | (go_at_call 10; (with_reducible refine HS1.out.mono ?_); rintro e w4 ⟨rfl, hl4, ht4⟩; have HL3 := Lib.hid hl4; have HR3 := Lib.hid (HR.out.touch ht4); clear hl4 ht4) | (go_at_call 12; (with_reducible refine (HX2.out _).mono ?_); rintro e w5 ⟨rfl, rfl⟩))
          go_roundw
          case rel => exact ⟨k + 1, _, R, lb, by omega, by go_num, by omega, HL3.out, HR3.out, HG.out⟩
          case measure => simp [intOf]; omega
      · have hh : (k : Int) < script.length ∧ ¬ (k : Int) < 400 ∨ ¬ (k : Int) < script.length := by omega
        clear hgo
        rcases hh with ⟨hI, hJ⟩ | hI
        all_goals
          go_wp2
          go_ret
          exact ⟨rfl, HL.out.below⟩
  · have HZ := Lib.hid hz
    by_cases hz1 : z < 1
    all_goals
      clear hz
      go_enter Try.func5, Try.ntmps5
      go_wp2_with (first | (go_at_call 8; refine (fact_any _).mono ?_; rintro e w1 ⟨rfl, hb⟩; have HB := Lib.hid hb; clear hb) | (go_at_call 9; refine (newBad HB.out z HZ.out).mono ?_; rw [errV_one]; rintro e w2 ⟨rfl, hb⟩; have HB2 := Lib.hid hb; clear hb))
      go_ret
      first | exact ⟨rfl, HB2.out⟩ | exact ⟨congrArg (fun b => Ending.returned (.bool b)) (bad_true HZ.out), HB2.out⟩
end Go.Proofs.Ytobfaohcadmopaa.Clh
