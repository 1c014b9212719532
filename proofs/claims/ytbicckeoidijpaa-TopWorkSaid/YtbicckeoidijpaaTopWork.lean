/-
  The walk of latchgarthtop.TopWork: it answers true, whatever the number of hands, the pieces and the script.
-/
import Derived.Test.YtbicckeoidijpaaDequeFact
import Derived.Test.YtbicckeoidijpaaDqTop
import Derived.Test.YtbicckeoidijpaaRws
import Derived.Deep.CutBlock
namespace Go.Proofs.Ytbicckeoidijpaa.Dq
open Go.RowKit

theorem badT {z : Int} (h : ¬ (1 ≤ z ∧ z ≤ 4)) : (decide (z < 1) || decide (4 < z)) = true := by
  simp only [Bool.or_eq_true, decide_eq_true_eq]; omega
theorem inT_any (z lo hi : Int) (b : Bool) (hb : decide (lo ≤ z ∧ z ≤ hi) = b) (w : World) : Calls Try.prog 14 #[.int .i64 z, .int .i64 lo, .int .i64 hi] w fun e w' => e = .returned (.bool b) ∧ w = w' := by
  rw [← hb]
  by_cases h0 : lo ≤ z
  · by_cases h1 : z ≤ hi
    · rw [decide_eq_true (show lo ≤ z ∧ z ≤ hi from ⟨h0, h1⟩)]
      go_enter Try.func14, Try.ntmps14
      go_wp2
      go_ret
      exact ⟨rfl, rfl⟩
    · rw [decide_eq_false (show ¬ (lo ≤ z ∧ z ≤ hi) from fun h => h1 h.2)]
      go_enter Try.func14, Try.ntmps14
      go_wp2
      go_ret
      exact ⟨rfl, rfl⟩
  · rw [decide_eq_false (show ¬ (lo ≤ z ∧ z ≤ hi) from fun h => h0 h.1)]
    go_enter Try.func14, Try.ntmps14
    go_wp2
    go_ret
    exact ⟨rfl, rfl⟩
/-- The deque with its ghosts, and the row of counts in block h. -/
structure WA (w W : World) (g h n A : Nat) (gs : DS) (f : Nat → Int) : Prop where
  lk : ∃ s, LkAt w W g n s A ∧ DR s gs
  row : IRow W h 9 f
  gh : g < h
section
variable {w W W' : World} {g h n A A' : Nat} {gs gs' : DS} {f f' : Nat → Int}
theorem WA.below (k : WA w W g h n A gs f) : Below w.heap.size w W := by
  obtain ⟨s, h, _⟩ := k.lk
  exact h.below
theorem WA.turn (k : WA w W g h n A gs f) (hl : ∃ s, LkAt w W' g n s A' ∧ DR s gs') (ht : Touch (fun k => k = g) W W') : WA w W' g h n A' gs' f :=
  ⟨hl, k.row.touch ht (by have := k.gh; omega), k.gh⟩
theorem WA.older (k : WA w W g h n A gs f) (hA : A ≤ A') : WA w W g h n A' gs f := ⟨k.lk.imp fun _ q => ⟨q.1.older hA, q.2⟩, k.row, k.gh⟩
theorem WA.put (k : WA w W g h n A gs f) {d : Nat} (hd : d < 9) {z : Int} (hf : ∀ j, j ≠ d → f' j = f j) (hz : f' d = z) : WA w (W.setCell ⟨h, d, none⟩ (.int .i64 z)) g h n A gs f' := by
  obtain ⟨s, hl, hr⟩ := k.lk
  have := hl.new
  have := k.gh
  exact ⟨⟨s, hl.touch ((Touch.refl (fun i => i = h) W).setCell (p := ⟨h, d, none⟩) (Or.inl rfl) _) fun i hi => by omega, hr⟩, k.row.put hd hf hz, k.gh⟩
theorem gatW {s : DV} (k : DVOk s) (r : DR s gs) (q : Nat) : s.a q = gat gs q ∧ (q ≠ 0 → gat gs q ≠ 0 → 9 ≤ (gs.th q).a ∧ (gs.th q).a ≤ 12) := by
  unfold gat
  by_cases e : q = 0
  · subst e; rw [if_pos rfl]; exact ⟨r.a0, fun h => absurd rfl h⟩
  · rw [if_neg e]
    have := r.ap q (by omega)
    refine ⟨this, fun _ h => ?_⟩
    rcases (k.th q (by omega)).1 with h1 | h1 <;> omega
theorem WA.nine (k : WA w W g h n A gs f) {q : Nat} (h0 : q ≠ 0) (ha : gat gs q ≠ 0) : 9 ≤ (gs.th q).a ∧ (gs.th q).a ≤ 12 := by
  obtain ⟨s, hl, hr⟩ := k.lk
  exact (gatW hl.ok hr q).2 h0 ha
theorem atW (k : WA w W g h n A gs f) {q : Nat} (hq : q < n) :
    Calls Try.prog 15 #[.pointer (some ⟨g, 0, none⟩), .int .i64 (q : Int)] W fun e W' => e = .returned (.int .i64 (gat gs q : Nat)) ∧ W = W' := by
  obtain ⟨s, hl, hr⟩ := k.lk
  have h1 := atL hl q
  rwa [show sAt n s (q : Int) = gat gs q from by unfold sAt; rw [if_pos (by omega)]; exact (gatW hl.ok hr q).1] at h1
theorem stepW (k : WA w W g h n A gs f) (ok : DOk gs) (hA : A ≤ 1000000) {q : Nat} (hq : q < n) (ha : gat gs q ≠ 0) :
    Calls Try.prog 13 #[.pointer (some ⟨g, 0, none⟩), .int .i64 (q : Int)] W fun e W' => e = .returned (.tuple #[.bool (gfin gs q), .int .i64 (gtold gs q), .nilIface]) ∧ WA w W' g h n (A + 1) (gstep gs q) f := by
  obtain ⟨s, hl, hr⟩ := k.lk
  obtain ⟨hga, hgt⟩ := gatW hl.ok hr q
  have he : sStpE n s q = 0 := by unfold sStpE; rw [if_neg (by omega), if_neg (show ¬ s.a (q : Int).toNat = 0 by rw [show (q : Int).toNat = q from rfl, hga]; exact ha)]
  have hs : sStpS n s q = dvstp s q := by unfold sStpS; rw [if_pos he]; rfl
  have hd : sStpD n s q = dvfin s q := by unfold sStpD; rw [if_pos he]; rfl
  have hg : sStpG n s q = dvtold s q := by unfold sStpG; rw [if_pos he]; rfl
  have hall : DR (dvstp s q) (gstep gs q) ∧ dvfin s q = gfin gs q ∧ dvtold s q = gtold gs q := by
    unfold gstep gfin gtold
    by_cases e : q = 0
    · subst e
      rw [if_pos rfl, if_pos rfl, if_pos rfl]
      exact hr.step0 ok (show gs.a ≠ 0 from ha)
    · rw [if_neg e, if_neg e, if_neg e]
      exact hr.stepT (by omega) (hgt e ha)
  refine (stepL hl hA q).mono fun e W' ⟨h1, h2, h3⟩ => ⟨?_, k.turn ⟨_, by rw [hs] at h2; exact h2, hall.1⟩ h3⟩
  rw [h1, hd, hg, he, hall.2.1, hall.2.2]; rfl
theorem step0W (k : WA w W g h n A gs f) (ok : DOk gs) (hA : A ≤ 1000000) (ha : gs.a ≠ 0) :
    Calls Try.prog 13 #[.pointer (some ⟨g, 0, none⟩), .int .i64 0] W fun e W' => e = .returned (.tuple #[.bool (dfin0 gs), .int .i64 (dtold0 gs), .nilIface]) ∧ WA w W' g h n (A + 1) (dstep0 gs) f := by
  obtain ⟨s, hl, hr⟩ := k.lk
  exact stepW k ok hA (q := 0) (by have := hl.pos; omega) ha
theorem pushW {m : Nat} (k : WA w W g h n A gs f) (ha : gs.a = 0) (hx : m ≤ 1000) :
    Calls Try.prog 11 #[.pointer (some ⟨g, 0, none⟩), .int .i64 (m : Int)] W fun e W' => e = .returned .nilIface ∧ WA w W' g h n A (dpush gs m) f := by
  obtain ⟨s, hl, hr⟩ := k.lk
  exact (pushV hl (hr.a0.trans ha) m hx).mono fun e W' ⟨h1, h2, h3⟩ => ⟨h1, k.turn ⟨_, h2, hr.push ha m⟩ h3⟩
theorem popW (k : WA w W g h n A gs f) (ha : gs.a = 0) :
    Calls Try.prog 12 #[.pointer (some ⟨g, 0, none⟩)] W fun e W' => e = .returned .nilIface ∧ WA w W' g h n A (dpop gs) f := by
  obtain ⟨s, hl, hr⟩ := k.lk
  exact (popV hl (hr.a0.trans ha)).mono fun e W' ⟨h1, h2, h3⟩ => ⟨h1, k.turn ⟨_, h2, hr.pop ha 0⟩ h3⟩
theorem stealW (k : WA w W g h n A gs f) {p : Nat} (h0 : p ≠ 0) (hp : p < n) (ha : gat gs p = 0) :
    Calls Try.prog 16 #[.pointer (some ⟨g, 0, none⟩), .int .i64 (p : Int)] W fun e W' => e = .returned .nilIface ∧ WA w W' g h n A (dsteal gs p) f := by
  obtain ⟨s, hl, hr⟩ := k.lk
  have hsa : s.a p = 0 := (gatW hl.ok hr p).1.trans ha
  have h2 := stealL hl (p : Int)
  rw [show sStlE n s (p : Int) = 0 by unfold sStlE; rw [if_pos (by omega)]; exact if_pos hsa, show sStlS n s (p : Int) = dvbeg s p 9 0 by unfold sStlS; rw [if_pos (by omega)]; exact if_pos hsa] at h2
  exact h2.mono fun e W' ⟨h1, h3, h4⟩ => ⟨h1, k.turn ⟨_, h3, hr.steal (by omega) 0⟩ h4⟩
end
/-- While work is done; when hand 0 found nothing. -/
def WOn (g : DS) (m n k : Nat) : Prop := WI g m ∧ WR n k (drank g)
def WDn (g : DS) (m : Nat) : Prop := DOk g ∧ (∀ d, d < m → g.had d = true) ∧ g.E = g.T ∧ g.pd = m

set_option maxHeartbeats 8000000 in
set_option maxRecDepth 100000 in
theorem work_law (z pz : Int) (sv : Value) (script : List Int) (w : World) (hn : Nums w w.heap.size sv script) :
    Calls Try.prog 5 #[.int .i64 z, .int .i64 pz, sv] w fun e w' => e = .returned (.bool true) ∧ Below w.heap.size w w' := by
  obtain ⟨A, c, rfl, hlen, -⟩ := id hn
  have HN := Lib.hid hn
  clear hn
  by_cases hz : 1 ≤ z ∧ z ≤ 4
  · obtain ⟨n, rfl⟩ := Int.eq_ofNat_of_zero_le (show 0 ≤ z by omega)
    have h1 : 1 ≤ n := by omega
    have h4 : n ≤ 4 := by omega
    have hwn : IntKind.i64.wrap ((n : Int) - 1) = (n : Int) - 1 := IntWalk.i64_in _ (by omega)
    have hn0 : ((n : Int) == 0) = false := by simp; omega
    have hnz : ¬ (n : Int) = 0 := by omega
    clear hz
    by_cases hp : 0 ≤ pz ∧ pz ≤ 8
    · have HIN := Lib.hid (inT_any pz 0 8 true (decide_eq_true hp))
      obtain ⟨m, rfl⟩ := Int.eq_ofNat_of_zero_le hp.1
      have hm8 : m ≤ 8 := by omega
      have hmk : ∀ W : World, (Instr.makeSlice 29 (.int .i64 9) (.int .i64 9)).run Try.prog W = .ok (.slice (some ⟨W.heap.size, 0, none⟩) 9 9) (W.alloc (.cells (madeCells #[.int .i64 0] 9) 3)) := make_ints 9 (by omega)
      clear hp
      go_enter Try.func5, Try.ntmps5
      go_upto_region 6 with (first | (go_at_call 7; refine (newL (Below.refl _ _) h1 h4).mono ?_; rintro e w2 ⟨g, rfl, hl⟩; have HL := Lib.hid hl; clear hl) | (go_at_call 14; (with_reducible refine (HIN.out _).mono ?_); rintro e wi ⟨rfl, rfl⟩))
      obtain ⟨h, hh⟩ : ∃ h, h = w2.heap.size := ⟨_, rfl⟩
      obtain ⟨W4, hW4⟩ : ∃ W, W = w2.alloc (.cells (madeCells #[.int .i64 0] 9) 3) := ⟨_, rfl⟩
      have HA0 := Lib.hid (show WA w W4 g h n 0 dnew (fun _ => 0) from ⟨⟨_, by rw [hW4]; exact HL.out.made _, DR.new⟩, by rw [hW4, hh]; exact IRow.made w2 9, by rw [hh]; exact HL.out.lt⟩)
      have hmk2 := hmk w2
      have HW4 := Lib.hid hW4
      have HH := Lib.hid hh
      clear hmk hW4 hh HL
      go_upto_region 7 with fail
      rw [← HW4.out, ← HH.out]
      clear hmk2 HIN HW4 HH
      go_wp2_with fail
      go_loopw [10] (fun i wr => ∃ (k : Nat) (gs : DS), i = .int .i64 k ∧ k ≤ m ∧ WA w wr g h n (3 * k) gs (fun _ => 0) ∧ DI gs k ∧ DOk gs) (fun i _ => m - (intOf i).toNat)
      case atStart => exact ⟨0, dnew, rfl, by omega, HA0.out, DI.new, dnew_ok⟩
      case round =>
        clear HA0
        obtain ⟨k, gs, rfl, hk, hwa, hdi, hok⟩ := hrel
        by_cases hgo : k < m
        · have hI : (k : Int) < (m : Int) := by omega
          obtain ⟨S, hpw, hok3⟩ := hdi.pw hok (by omega)
          have HP := Lib.hid (pushW hwa hdi.a (m := k) (by omega))
          rw [← hpw.zero] at HP
          have HPW := Lib.hid hpw
          have HOK3 := Lib.hid hok3
          clear hwa hdi hok hpw hok3 hgo
          go_upto_region 12 with (go_at_call 11; (with_reducible refine HP.out.mono ?_); rintro e w4 ⟨rfl, hl4⟩; have HT4 := Lib.hid hl4; clear hl4)
          clear HP
          go_wp2_with fail
          go_loopw [11] (fun j wr => ∃ i : Nat, j = .int .i64 i ∧ i ≤ 3 ∧ WA w wr g h n (3 * k + i) (S i) (fun _ => 0)) (fun j _ => 3 - (intOf j).toNat)
          case atStart => exact ⟨0, rfl, by omega, HT4.out⟩
          case round =>
            clear HT4
            obtain ⟨i, rfl, hi, hwa⟩ := hrel
            have HWA := Lib.hid hwa
            clear hwa
            by_cases hgo : i < 3
            · have hI3 : (i : Int) < 3 := by omega
              have hok : DOk (S i) := (HPW.out.ok i).resolve_right (by omega)
              have hst := step0W HWA.out hok (by omega) (HPW.out.line i hgo)
              rw [HPW.out.fin i hgo, HPW.out.told i hgo, ← HPW.out.next i hgo] at hst
              have HST := Lib.hid hst
              clear hst hok
              by_cases h2 : i = 2
              · subst h2
                rw [show decide (2 = 2) = true from rfl, if_pos rfl] at HST
                rw [show ((2 : Nat) : Int) = 2 from rfl] at *
                clear hgo hi
                go_wp2_with (go_at_call 13; (with_reducible refine HST.out.mono ?_); rintro e w5 ⟨rfl, hl5⟩; have HT5 := Lib.hid hl5; clear hl5)
                go_roundw
                case rel => exact ⟨2 + 1, by go_num, by omega, HT5.out⟩
                case measure => simp [intOf]
              · rw [decide_eq_false h2, if_neg h2] at HST
                have hI2 : ((i : Int) == 2) = false := by simp; omega
                clear h2 hgo
                go_wp2_with (go_at_call 13; (with_reducible refine HST.out.mono ?_); rintro e w5 ⟨rfl, hl5⟩; have HT5 := Lib.hid hl5; clear hl5)
                go_roundw
                case rel => exact ⟨i + 1, by go_num, by omega, HT5.out⟩
                case measure => simp [intOf]; omega
            · obtain rfl : i = 3 := by omega
              have hI3 : ¬ ((3 : Nat) : Int) < 3 := by omega
              clear hgo hi
              go_wp2
              go_roundw
              case rel => exact ⟨k + 1, S 3, by go_num, by omega, HWA.out.older (by omega), HPW.out.last, HOK3.out⟩
              case measure => simp [intOf]; omega
        · obtain rfl : k = m := by omega
          have hI : ¬ (k : Int) < (k : Int) := by omega
          have HWA := Lib.hid (show WA w wr g h n (24 + 0) gs (wasf gs.had) from by rw [wasf_none hdi.had]; exact hwa.older (by omega))
          have HON := Lib.hid (show WOn gs k n 0 from ⟨hdi.wi hok hm8, fun h => by omega⟩)
          clear hwa hdi hok hgo hk
          go_upto_region 19 with fail
          go_wp2_with fail
          go_loopw [15, 16] (fun nn i wr => ∃ (q : Nat) (gs : DS) (b : Bool), i = .int .i64 q ∧ q ≤ 700 ∧ nn = .bool b ∧ WA w wr g h n (24 + q) gs (wasf gs.had) ∧ (b = false → WOn gs k n q) ∧ (b = true → WDn gs k)) (fun _ i _ => 700 - (intOf i).toNat)
          case atStart => exact ⟨0, gs, false, rfl, by omega, rfl, HWA.out, fun _ => HON.out, fun e => (by cases e)⟩
          case round =>
            clear HWA HON
            obtain ⟨q, gs, b, rfl, hq, rfl, hwa, hon, hdn⟩ := hrel
            cases b with
            | false =>
              replace hon := hon rfl
              clear hdn
              by_cases hgo : q < 700
              · have hI7 : (q : Int) < 700 := by omega
                obtain ⟨r, hr⟩ : ∃ r, r = q % n := ⟨_, rfl⟩
                have hrn : r < n := by have := Nat.mod_lt q (show 0 < n by omega); omega
                have hrm : (q : Int).tmod (n : Int) = (r : Int) := by rw [hr]; exact (Int.ofNat_tmod q n).symm
                have hwr : IntKind.i64.wrap (r : Int) = (r : Int) := IntWalk.i64_in _ (by omega)
                have HWA := Lib.hid hwa
                have HON := Lib.hid hon
                have HR := Lib.hid hr
                clear hwa hon hr hq
                go_upto_region 23 with fail
                go_cut [106] (fun t106 wx => ∃ b : Bool, t106 = .bool b ∧ (b = true → ∃ p : Nat, script[q]? = some (p : Int) ∧ q < 300 ∧ p < n) ∧ wx = wr)
                case first =>
                  by_cases hs : q < script.length
                  · have hsI : (q : Int) < script.length := by omega
                    by_cases h3 : q < 300
                    · have h3I : (q : Int) < 300 := by omega
                      obtain ⟨x, hx⟩ : ∃ l, script[q]? = some l := ⟨script[q], List.getElem?_eq_getElem hs⟩
                      obtain ⟨bs, os, rfl, hbw, hxc⟩ := (HN.out.below HWA.out.below (Nat.le_refl _)).at_ hx
                      have HX := Lib.hid hx
                      clear hx
                      by_cases hin : 0 ≤ x ∧ x ≤ (n : Int) - 1
                      · have HIN := Lib.hid (inT_any x 0 ((n : Int) - 1) true (decide_eq_true hin))
                        have HX2 := Lib.hid (show ∃ p : Nat, script[q]? = some (p : Int) ∧ q < 300 ∧ p < n from by
                          obtain ⟨p, rfl⟩ := Int.eq_ofNat_of_zero_le hin.1
                          exact ⟨p, HX.out, h3, by omega⟩)
                        clear hin hs h3
                        go_wp2_with (go_at_call 14; (with_reducible refine (HIN.out _).mono ?_); rintro e wi ⟨rfl, rfl⟩)
                        go_meet
                        exact ⟨true, rfl, fun _ => HX2.out, rfl⟩
                      · have HIN := Lib.hid (inT_any x 0 ((n : Int) - 1) false (decide_eq_false hin))
                        clear hin hs h3
                        go_wp2_with (go_at_call 14; (with_reducible refine (HIN.out _).mono ?_); rintro e wi ⟨rfl, rfl⟩)
                        go_meet
                        exact ⟨false, rfl, fun e => (by cases e), rfl⟩
                    · have h3I : ¬ (q : Int) < 300 := by omega
                      clear hs h3
                      go_wp2
                      go_meet
                      exact ⟨false, rfl, fun e => (by cases e), rfl⟩
                  · have hsI : ¬ (q : Int) < script.length := by omega
                    clear hs
                    go_wp2
                    go_meet
                    exact ⟨false, rfl, fun e => (by cases e), rfl⟩
                case rest =>
                obtain ⟨b, rfl, hb, e⟩ := hcut
                subst e
                obtain ⟨wr, rfl⟩ : ∃ wr : World, wr = wc := ⟨_, rfl⟩
                go_upto_if 106 with fail
                go_cut [17] (fun t17 wx => ∃ p : Nat, t17 = .int .i64 p ∧ p < n ∧ (300 ≤ q → p = r) ∧ wx = wr)
                case first =>
                  cases b with
                  | true =>
                    obtain ⟨p, hx, h3, hpn⟩ := hb rfl
                    have hsI : (q : Int) < script.length := by have := (List.getElem?_eq_some_iff.1 hx).1; omega
                    obtain ⟨bs, os, rfl, hbw, hxc⟩ := (HN.out.below HWA.out.below (Nat.le_refl _)).at_ hx
                    clear hx hb
                    go_wp2
                    go_meet
                    exact ⟨p, rfl, hpn, fun h => by omega, rfl⟩
                  | false =>
                    clear hb
                    go_wp2
                    go_meet
                    exact ⟨r, rfl, hrn, fun _ => rfl, rfl⟩
                case rest =>
                obtain ⟨p, rfl, hpn, hpr, e⟩ := hcut
                subst e
                obtain ⟨wr, rfl⟩ : ∃ wr : World, wr = wc := ⟨_, rfl⟩
                have hwi := HON.out.1
                have hwrk := HON.out.2
                have HAT := Lib.hid (atW HWA.out hpn)
                by_cases hp0 : p = 0
                · subst hp0
                  have z0 : ((0 : Nat) : Int) = 0 := rfl
                  rw [z0] at HAT ⊢
                  obtain ⟨g1, hg1, hga1, hrk1, hh1, HBEG⟩ : ∃ g1 : DS, WI g1 k ∧ 4 ≤ g1.a ∧ drank g1 = drank gs ∧ g1.had = gs.had ∧ (gs.a = 0 ∧ g1 = dpop gs ∨ gs.a ≠ 0 ∧ g1 = gs) := by
                    by_cases ha : gs.a = 0
                    · obtain ⟨a1, a2⟩ := hwi.pop ha
                      exact ⟨dpop gs, a1, by show 4 ≤ 4; omega, a2, rfl, .inl ⟨ha, rfl⟩⟩
                    · refine ⟨gs, hwi, ?_, rfl, rfl, .inr ⟨ha, rfl⟩⟩
                      rcases hwi.pops with h | h
                      · exact absurd h ha
                      · exact h
                  have hrnk : ∀ r', r' + 1 ≤ drank g1 → WR n (q + 1) r' := fun r' hr' => hwrk.next h1 h4 (by have := hwi.rank; omega) (fun _ => by omega) (by omega)
                  have HRK := Lib.hid hrnk
                  have HH1 := Lib.hid hh1
                  have hcs := hg1.step0 hga1
                  have hok1 := hg1.ok
                  rcases HBEG with ⟨ha, rfl⟩ | ⟨ha, rfl⟩
                  · have HPOP := Lib.hid (popW HWA.out ha)
                    have haI : (((gat gs 0 : Nat) : Int) == 0) = true := by rw [show gat gs 0 = gs.a from rfl, ha]; rfl
                    have HSF := Lib.hid (fun W (hW : WA w W g h n (24 + q) (dpop gs) (wasf gs.had)) => step0W hW hok1 (by omega) (by omega))
                    obtain ⟨ga, hga⟩ : ∃ a, a = gat gs 0 := ⟨_, rfl⟩
                    rw [← hga] at HAT haI
                    clear hga hwi hwrk hrnk hh1 hpr hg1 hga1 hrk1 ha
                    rcases hcs with ⟨f1, t1, e1, e2, e3, e4, e5⟩ | ⟨e1, e2, e3⟩
                    · have HSR := Lib.hid (show ∀ W, WA w W g h n (24 + q) (dpop gs) (wasf gs.had) → Calls Try.prog 13 #[.pointer (some ⟨g, 0, none⟩), .int .i64 0] W fun e W' => e = .returned (.tuple #[.bool true, .int .i64 (-1), .nilIface]) ∧ WA w W' g h n (24 + q + 1) (dstep0 (dpop gs)) (wasf gs.had) from fun W hW => by have h := HSF.out W hW; rwa [f1, t1] at h)
                      have HDN := Lib.hid (show WDn (dstep0 (dpop gs)) k from ⟨e1, e2, e4, e5⟩)
                      have HHD := Lib.hid (show (dstep0 (dpop gs)).had = gs.had from e3.trans HH1.out)
                      clear f1 t1 e1 e2 e3 e4 e5 HSF
                      go_wp2_with (first | (go_at_call 15; (with_reducible refine HAT.out.mono ?_); rintro e w9 ⟨rfl, rfl⟩) | (go_at_call 12; (with_reducible refine HPOP.out.mono ?_); rintro e w4 ⟨rfl, hl4⟩; have HT4 := Lib.hid hl4; have HST := Lib.hid (HSR.out w4 hl4); clear hl4) | (go_at_call 13; (with_reducible refine HST.out.mono ?_); rintro e w5 ⟨rfl, hl5⟩; have HT5 := Lib.hid hl5;  clear hl5))
                      go_roundw
                      case rel => exact ⟨q + 1, dstep0 (dpop gs), true, by go_num, by omega, rfl, by rw [HHD.out]; exact HT5.out.older (by omega), fun e => (by cases e), fun _ => HDN.out⟩
                      case measure => simp [intOf]; omega
                    · rcases e3 with ⟨f1, d, t1, hd, hhd, hput⟩ | ⟨f1, hput⟩
                      · have HSR := Lib.hid (show ∀ W, WA w W g h n (24 + q) (dpop gs) (wasf gs.had) → Calls Try.prog 13 #[.pointer (some ⟨g, 0, none⟩), .int .i64 0] W fun e W' => e = .returned (.tuple #[.bool true, .int .i64 (d : Int), .nilIface]) ∧ WA w W' g h n (24 + q + 1) (dstep0 (dpop gs)) (wasf gs.had) from fun W hW => by have h := HSF.out W hW; rwa [f1, t1] at h)
                        have HON2 := Lib.hid (show WOn (dstep0 (dpop gs)) k n (q + 1) from ⟨e1, HRK.out _ e2⟩)
                        rw [HH1.out] at hhd hput
                        obtain ⟨p1, p2, p3⟩ := wasf_put hhd
                        have HPU := Lib.hid (show (dstep0 (dpop gs)).had = dput gs.had d true from hput)
                        have HP2 := Lib.hid (And.intro p2 p3)
                        have HP1 := Lib.hid p1
                        have hd8 : ¬ (8 : Int) < (d : Int) := by omega
                        have hd9 : (d : Int) < 9 := by omega
                        have hd9N : d < 9 := by omega
                        have hd0 : (0 : Int) ≤ (d : Int) := by omega
                        have hdm : ((d : Int) == -1) = false := by simp
                        clear f1 t1 e1 e2 hhd hput p1 p2 p3 hd HSF
                        go_wp2_with (first | (go_at_call 15; (with_reducible refine HAT.out.mono ?_); rintro e w9 ⟨rfl, rfl⟩) | (go_at_call 12; (with_reducible refine HPOP.out.mono ?_); rintro e w4 ⟨rfl, hl4⟩; have HT4 := Lib.hid hl4; have HST := Lib.hid (HSR.out w4 hl4); clear hl4) | (go_at_call 13; (with_reducible refine HST.out.mono ?_); rintro e w5 ⟨rfl, hl5⟩; have HT5 := Lib.hid hl5; have q1 := HT5.out.row.cell hd9N; rw [HP1.out] at q1; have fq := HT5.out.row.free d; clear hl5))
                        go_roundw
                        case rel => exact ⟨q + 1, dstep0 (dpop gs), false, by go_num, by omega, rfl, by rw [HPU.out]; exact (HT5.out.put hd9N (f' := wasf (dput gs.had d true)) HP2.out.2 HP2.out.1).older (by omega), fun _ => HON2.out, fun e => (by cases e)⟩
                        case measure => simp [intOf]; omega
                      · obtain ⟨G, hG⟩ : ∃ G, G = dtold0 (dpop gs) := ⟨_, rfl⟩
                        have HSR := Lib.hid (show ∀ W, WA w W g h n (24 + q) (dpop gs) (wasf gs.had) → Calls Try.prog 13 #[.pointer (some ⟨g, 0, none⟩), .int .i64 0] W fun e W' => e = .returned (.tuple #[.bool false, .int .i64 G, .nilIface]) ∧ WA w W' g h n (24 + q + 1) (dstep0 (dpop gs)) (wasf gs.had) from fun W hW => by have h := HSF.out W hW; rwa [f1, ← hG] at h)
                        have HON2 := Lib.hid (show WOn (dstep0 (dpop gs)) k n (q + 1) from ⟨e1, HRK.out _ e2⟩)
                        have HHD := Lib.hid (show (dstep0 (dpop gs)).had = gs.had from hput.trans HH1.out)
                        clear f1 e1 e2 hput hG HSF
                        go_wp2_with (first | (go_at_call 15; (with_reducible refine HAT.out.mono ?_); rintro e w9 ⟨rfl, rfl⟩) | (go_at_call 12; (with_reducible refine HPOP.out.mono ?_); rintro e w4 ⟨rfl, hl4⟩; have HT4 := Lib.hid hl4; have HST := Lib.hid (HSR.out w4 hl4); clear hl4) | (go_at_call 13; (with_reducible refine HST.out.mono ?_); rintro e w5 ⟨rfl, hl5⟩; have HT5 := Lib.hid hl5;  clear hl5))
                        go_roundw
                        case rel => exact ⟨q + 1, dstep0 (dpop gs), false, by go_num, by omega, rfl, by rw [HHD.out]; exact HT5.out.older (by omega), fun _ => HON2.out, fun e => (by cases e)⟩
                        case measure => simp [intOf]; omega
                  · have haI : (((gat g1 0 : Nat) : Int) == 0) = false := by rw [show gat g1 0 = g1.a from rfl]; simp; omega
                    have HSF := Lib.hid (fun W (hW : WA w W g h n (24 + q) g1 (wasf g1.had)) => step0W hW hok1 (by omega) (by omega))
                    obtain ⟨ga, hga⟩ : ∃ a, a = gat g1 0 := ⟨_, rfl⟩
                    rw [← hga] at HAT haI
                    clear hga hwi hwrk hrnk hh1 hpr hg1 hga1 hrk1 ha
                    rcases hcs with ⟨f1, t1, e1, e2, e3, e4, e5⟩ | ⟨e1, e2, e3⟩
                    · have HSR := Lib.hid (show ∀ W, WA w W g h n (24 + q) g1 (wasf g1.had) → Calls Try.prog 13 #[.pointer (some ⟨g, 0, none⟩), .int .i64 0] W fun e W' => e = .returned (.tuple #[.bool true, .int .i64 (-1), .nilIface]) ∧ WA w W' g h n (24 + q + 1) (dstep0 g1) (wasf g1.had) from fun W hW => by have h := HSF.out W hW; rwa [f1, t1] at h)
                      have HDN := Lib.hid (show WDn (dstep0 g1) k from ⟨e1, e2, e4, e5⟩)
                      have HHD := Lib.hid (show (dstep0 g1).had = g1.had from e3.trans HH1.out)
                      clear f1 t1 e1 e2 e3 e4 e5 HSF
                      have HST := Lib.hid (HSR.out _ HWA.out)
                      go_wp2_with (first | (go_at_call 15; (with_reducible refine HAT.out.mono ?_); rintro e w9 ⟨rfl, rfl⟩) | (go_at_call 13; (with_reducible refine HST.out.mono ?_); rintro e w5 ⟨rfl, hl5⟩; have HT5 := Lib.hid hl5;  clear hl5))
                      go_roundw
                      case rel => exact ⟨q + 1, dstep0 g1, true, by go_num, by omega, rfl, by rw [HHD.out]; exact HT5.out.older (by omega), fun e => (by cases e), fun _ => HDN.out⟩
                      case measure => simp [intOf]; omega
                    · rcases e3 with ⟨f1, d, t1, hd, hhd, hput⟩ | ⟨f1, hput⟩
                      · have HSR := Lib.hid (show ∀ W, WA w W g h n (24 + q) g1 (wasf g1.had) → Calls Try.prog 13 #[.pointer (some ⟨g, 0, none⟩), .int .i64 0] W fun e W' => e = .returned (.tuple #[.bool true, .int .i64 (d : Int), .nilIface]) ∧ WA w W' g h n (24 + q + 1) (dstep0 g1) (wasf g1.had) from fun W hW => by have h := HSF.out W hW; rwa [f1, t1] at h)
                        have HON2 := Lib.hid (show WOn (dstep0 g1) k n (q + 1) from ⟨e1, HRK.out _ e2⟩)
                        rw [HH1.out] at hhd hput
                        obtain ⟨p1, p2, p3⟩ := wasf_put hhd
                        have HPU := Lib.hid (show (dstep0 g1).had = dput g1.had d true from hput)
                        have HP2 := Lib.hid (And.intro p2 p3)
                        have HP1 := Lib.hid p1
                        have hd8 : ¬ (8 : Int) < (d : Int) := by omega
                        have hd9 : (d : Int) < 9 := by omega
                        have hd9N : d < 9 := by omega
                        have hd0 : (0 : Int) ≤ (d : Int) := by omega
                        have hdm : ((d : Int) == -1) = false := by simp
                        clear f1 t1 e1 e2 hhd hput p1 p2 p3 hd HSF
                        have HST := Lib.hid (HSR.out _ HWA.out)
                        go_wp2_with (first | (go_at_call 15; (with_reducible refine HAT.out.mono ?_); rintro e w9 ⟨rfl, rfl⟩) | (go_at_call 13; (with_reducible refine HST.out.mono ?_); rintro e w5 ⟨rfl, hl5⟩; have HT5 := Lib.hid hl5; have q1 := HT5.out.row.cell hd9N; rw [HP1.out] at q1; have fq := HT5.out.row.free d; clear hl5))
                        go_roundw
                        case rel => exact ⟨q + 1, dstep0 g1, false, by go_num, by omega, rfl, by rw [HPU.out]; exact (HT5.out.put hd9N (f' := wasf (dput g1.had d true)) HP2.out.2 HP2.out.1).older (by omega), fun _ => HON2.out, fun e => (by cases e)⟩
                        case measure => simp [intOf]; omega
                      · obtain ⟨G, hG⟩ : ∃ G, G = dtold0 g1 := ⟨_, rfl⟩
                        have HSR := Lib.hid (show ∀ W, WA w W g h n (24 + q) g1 (wasf g1.had) → Calls Try.prog 13 #[.pointer (some ⟨g, 0, none⟩), .int .i64 0] W fun e W' => e = .returned (.tuple #[.bool false, .int .i64 G, .nilIface]) ∧ WA w W' g h n (24 + q + 1) (dstep0 g1) (wasf g1.had) from fun W hW => by have h := HSF.out W hW; rwa [f1, ← hG] at h)
                        have HON2 := Lib.hid (show WOn (dstep0 g1) k n (q + 1) from ⟨e1, HRK.out _ e2⟩)
                        have HHD := Lib.hid (show (dstep0 g1).had = g1.had from hput.trans HH1.out)
                        clear f1 e1 e2 hput hG HSF
                        have HST := Lib.hid (HSR.out _ HWA.out)
                        go_wp2_with (first | (go_at_call 15; (with_reducible refine HAT.out.mono ?_); rintro e w9 ⟨rfl, rfl⟩) | (go_at_call 13; (with_reducible refine HST.out.mono ?_); rintro e w5 ⟨rfl, hl5⟩; have HT5 := Lib.hid hl5;  clear hl5))
                        go_roundw
                        case rel => exact ⟨q + 1, dstep0 g1, false, by go_num, by omega, rfl, by rw [HHD.out]; exact HT5.out.older (by omega), fun _ => HON2.out, fun e => (by cases e)⟩
                        case measure => simp [intOf]; omega
                · have hpI : ((p : Int) == 0) = false := by simp; omega
                  have hpI2 : (p == 0) = false := by simp; omega
                  obtain ⟨g1, hg1, hga1, hrk1, hh1, HBEG⟩ : ∃ g1 : DS, WI g1 k ∧ (9 ≤ (g1.th p).a ∧ (g1.th p).a ≤ 12) ∧ drank g1 = drank gs ∧ g1.had = gs.had ∧ (gat gs p = 0 ∧ g1 = dsteal gs p ∨ gat gs p ≠ 0 ∧ g1 = gs) := by
                    by_cases ha : gat gs p = 0
                    · obtain ⟨a1, a2⟩ := hwi.steal p
                      refine ⟨dsteal gs p, a1, ?_, a2, rfl, .inl ⟨ha, rfl⟩⟩
                      have : ((dsteal gs p).th p).a = 9 := by show (dput gs.th p _ p).a = 9; rw [dput_same]
                      omega
                    · exact ⟨gs, hwi, HWA.out.nine hp0 ha, rfl, rfl, .inr ⟨ha, rfl⟩⟩
                  have hgat1 : gat g1 p ≠ 0 := by unfold gat; rw [if_neg hp0]; omega
                  have hrnk : ∀ r', r' ≤ drank g1 → WR n (q + 1) r' := fun r' hr' => by
                    by_cases h3 : q < 300
                    · exact WR.early h3 (by have := hwi.rank; omega)
                    · exact hwrk.next h1 h4 (by have := hwi.rank; omega) (fun e => absurd ((hpr (by omega)).trans (HR.out.trans e)) hp0) (by omega)
                  have HRK := Lib.hid hrnk
                  have HH1 := Lib.hid hh1
                  have hcs := hg1.stepT hga1
                  have hok1 := hg1.ok
                  have efin : gfin g1 p = dfinT g1 p := by unfold gfin; rw [if_neg hp0]
                  have etold : gtold g1 p = dtoldT g1 p := by unfold gtold; rw [if_neg hp0]
                  have estep : gstep g1 p = dstepT g1 p := by unfold gstep; rw [if_neg hp0]
                  have HSF := Lib.hid (fun W (hW : WA w W g h n (24 + q) g1 (wasf gs.had)) => (by have h := stepW hW hok1 (by omega) hpn hgat1; rwa [efin, etold, estep] at h : Calls Try.prog 13 #[.pointer (some ⟨g, 0, none⟩), .int .i64 (p : Int)] W fun e W' => e = .returned (.tuple #[.bool (dfinT g1 p), .int .i64 (dtoldT g1 p), .nilIface]) ∧ WA w W' g h n (24 + q + 1) (dstepT g1 p) (wasf gs.had)))
                  rcases HBEG with ⟨ha, hge⟩ | ⟨ha, hge⟩
                  · have hpop := stealW HWA.out hp0 hpn ha
                    rw [← hge] at hpop
                    have HPOP := Lib.hid hpop
                    have haI : (((gat gs p : Nat) : Int) == 0) = true := by rw [ha]; rfl
                    clear hpop hge ha
                    obtain ⟨ga, hga⟩ : ∃ a, a = gat gs p := ⟨_, rfl⟩
                    rw [← hga] at HAT haI
                    clear hga hwi hwrk hrnk hh1 hpr hg1 hga1 hrk1 hgat1 efin etold estep hp0
                    obtain ⟨e1, e2, e3⟩ := hcs
                    rcases e3 with ⟨f1, d, t1, hd, hhd, hput⟩ | ⟨t1, hput⟩
                    · have HSR := Lib.hid (show ∀ W, WA w W g h n (24 + q) g1 (wasf gs.had) → Calls Try.prog 13 #[.pointer (some ⟨g, 0, none⟩), .int .i64 (p : Int)] W fun e W' => e = .returned (.tuple #[.bool true, .int .i64 (d : Int), .nilIface]) ∧ WA w W' g h n (24 + q + 1) (dstepT g1 p) (wasf gs.had) from fun W hW => by have h := HSF.out W hW; rwa [f1, t1] at h)
                      have HON2 := Lib.hid (show WOn (dstepT g1 p) k n (q + 1) from ⟨e1, HRK.out _ e2⟩)
                      rw [HH1.out] at hhd hput
                      obtain ⟨p1, p2, p3⟩ := wasf_put hhd
                      have HPU := Lib.hid (show (dstepT g1 p).had = dput gs.had d true from hput)
                      have HP2 := Lib.hid (And.intro p2 p3)
                      have HP1 := Lib.hid p1
                      have hd8 : ¬ (8 : Int) < (d : Int) := by omega
                      have hd9 : (d : Int) < 9 := by omega
                      have hd9N : d < 9 := by omega
                      have hd0 : (0 : Int) ≤ (d : Int) := by omega
                      have hdm : ((d : Int) == -1) = false := by simp
                      clear f1 t1 e1 e2 hhd hput p1 p2 p3 hd HSF
                      go_wp2_with (first | (go_at_call 15; (with_reducible refine HAT.out.mono ?_); rintro e w9 ⟨rfl, rfl⟩) | (go_at_call 16; (with_reducible refine HPOP.out.mono ?_); rintro e w4 ⟨rfl, hl4⟩; have HT4 := Lib.hid hl4; have HST := Lib.hid (HSR.out w4 hl4); clear hl4) | (go_at_call 13; (with_reducible refine HST.out.mono ?_); rintro e w5 ⟨rfl, hl5⟩; have HT5 := Lib.hid hl5; have q1 := HT5.out.row.cell hd9N; rw [HP1.out] at q1; have fq := HT5.out.row.free d; clear hl5))
                      go_roundw
                      case rel => exact ⟨q + 1, dstepT g1 p, false, by go_num, by omega, rfl, by rw [HPU.out]; exact (HT5.out.put hd9N (f' := wasf (dput gs.had d true)) HP2.out.2 HP2.out.1).older (by omega), fun _ => HON2.out, fun e => (by cases e)⟩
                      case measure => simp [intOf]; omega
                    · have HON2 := Lib.hid (show WOn (dstepT g1 p) k n (q + 1) from ⟨e1, HRK.out _ e2⟩)
                      have HHD := Lib.hid (show (dstepT g1 p).had = gs.had from hput.trans HH1.out)
                      obtain ⟨G, hG⟩ : ∃ G, G = dtoldT g1 p := ⟨_, rfl⟩
                      obtain ⟨R, hR⟩ : ∃ R, R = dfinT g1 p := ⟨_, rfl⟩
                      rw [← hG, ← hR] at t1
                      have HSR := Lib.hid (show ∀ W, WA w W g h n (24 + q) g1 (wasf gs.had) → Calls Try.prog 13 #[.pointer (some ⟨g, 0, none⟩), .int .i64 (p : Int)] W fun e W' => e = .returned (.tuple #[.bool R, .int .i64 G, .nilIface]) ∧ WA w W' g h n (24 + q + 1) (dstepT g1 p) (wasf gs.had) from fun W hW => by have h := HSF.out W hW; rwa [← hG, ← hR] at h)
                      clear e1 e2 hput hG hR HSF
                      cases R with
                      | false =>
                        clear t1
                        go_wp2_with (first | (go_at_call 15; (with_reducible refine HAT.out.mono ?_); rintro e w9 ⟨rfl, rfl⟩) | (go_at_call 16; (with_reducible refine HPOP.out.mono ?_); rintro e w4 ⟨rfl, hl4⟩; have HT4 := Lib.hid hl4; have HST := Lib.hid (HSR.out w4 hl4); clear hl4) | (go_at_call 13; (with_reducible refine HST.out.mono ?_); rintro e w5 ⟨rfl, hl5⟩; have HT5 := Lib.hid hl5;  clear hl5))
                        go_roundw
                        case rel => exact ⟨q + 1, dstepT g1 p, false, by go_num, by omega, rfl, by rw [HHD.out]; exact HT5.out.older (by omega), fun _ => HON2.out, fun e => (by cases e)⟩
                        case measure => simp [intOf]; omega
                      | true =>
                        have hneg : G < 0 := by rcases t1 with h | h; exact h; cases h
                        have hneg2 : ¬ 0 ≤ G := by omega
                        clear t1
                        go_wp2_with (first | (go_at_call 15; (with_reducible refine HAT.out.mono ?_); rintro e w9 ⟨rfl, rfl⟩) | (go_at_call 16; (with_reducible refine HPOP.out.mono ?_); rintro e w4 ⟨rfl, hl4⟩; have HT4 := Lib.hid hl4; have HST := Lib.hid (HSR.out w4 hl4); clear hl4) | (go_at_call 13; (with_reducible refine HST.out.mono ?_); rintro e w5 ⟨rfl, hl5⟩; have HT5 := Lib.hid hl5;  clear hl5))
                        go_roundw
                        case rel => exact ⟨q + 1, dstepT g1 p, false, by go_num, by omega, rfl, by rw [HHD.out]; exact HT5.out.older (by omega), fun _ => HON2.out, fun e => (by cases e)⟩
                        case measure => simp [intOf]; omega
                  · have haI : (((gat gs p : Nat) : Int) == 0) = false := by simp; omega
                    have haI2 : (gat gs p == 0) = false := by simp [ha]
                    subst hge
                    clear ha
                    obtain ⟨ga, hga⟩ : ∃ a, a = gat g1 p := ⟨_, rfl⟩
                    rw [← hga] at HAT haI haI2
                    clear hga hwi hwrk hrnk hh1 hpr hg1 hga1 hrk1 hgat1 efin etold estep hp0
                    obtain ⟨e1, e2, e3⟩ := hcs
                    rcases e3 with ⟨f1, d, t1, hd, hhd, hput⟩ | ⟨t1, hput⟩
                    · have HSR := Lib.hid (show ∀ W, WA w W g h n (24 + q) g1 (wasf g1.had) → Calls Try.prog 13 #[.pointer (some ⟨g, 0, none⟩), .int .i64 (p : Int)] W fun e W' => e = .returned (.tuple #[.bool true, .int .i64 (d : Int), .nilIface]) ∧ WA w W' g h n (24 + q + 1) (dstepT g1 p) (wasf g1.had) from fun W hW => by have h := HSF.out W hW; rwa [f1, t1] at h)
                      have HON2 := Lib.hid (show WOn (dstepT g1 p) k n (q + 1) from ⟨e1, HRK.out _ e2⟩)
                      rw [HH1.out] at hhd hput
                      obtain ⟨p1, p2, p3⟩ := wasf_put hhd
                      have HPU := Lib.hid (show (dstepT g1 p).had = dput g1.had d true from hput)
                      have HP2 := Lib.hid (And.intro p2 p3)
                      have HP1 := Lib.hid p1
                      have hd8 : ¬ (8 : Int) < (d : Int) := by omega
                      have hd9 : (d : Int) < 9 := by omega
                      have hd9N : d < 9 := by omega
                      have hd0 : (0 : Int) ≤ (d : Int) := by omega
                      have hdm : ((d : Int) == -1) = false := by simp
                      clear f1 t1 e1 e2 hhd hput p1 p2 p3 hd HSF
                      have HST := Lib.hid (HSR.out _ HWA.out)
                      go_wp2_with (first | (go_at_call 15; (with_reducible refine HAT.out.mono ?_); rintro e w9 ⟨rfl, rfl⟩) | (go_at_call 13; (with_reducible refine HST.out.mono ?_); rintro e w5 ⟨rfl, hl5⟩; have HT5 := Lib.hid hl5; have q1 := HT5.out.row.cell hd9N; rw [HP1.out] at q1; have fq := HT5.out.row.free d; clear hl5))
                      go_roundw
                      case rel => exact ⟨q + 1, dstepT g1 p, false, by go_num, by omega, rfl, by rw [HPU.out]; exact (HT5.out.put hd9N (f' := wasf (dput g1.had d true)) HP2.out.2 HP2.out.1).older (by omega), fun _ => HON2.out, fun e => (by cases e)⟩
                      case measure => simp [intOf]; omega
                    · have HON2 := Lib.hid (show WOn (dstepT g1 p) k n (q + 1) from ⟨e1, HRK.out _ e2⟩)
                      have HHD := Lib.hid (show (dstepT g1 p).had = g1.had from hput.trans HH1.out)
                      obtain ⟨G, hG⟩ : ∃ G, G = dtoldT g1 p := ⟨_, rfl⟩
                      obtain ⟨R, hR⟩ : ∃ R, R = dfinT g1 p := ⟨_, rfl⟩
                      rw [← hG, ← hR] at t1
                      have HSR := Lib.hid (show ∀ W, WA w W g h n (24 + q) g1 (wasf g1.had) → Calls Try.prog 13 #[.pointer (some ⟨g, 0, none⟩), .int .i64 (p : Int)] W fun e W' => e = .returned (.tuple #[.bool R, .int .i64 G, .nilIface]) ∧ WA w W' g h n (24 + q + 1) (dstepT g1 p) (wasf g1.had) from fun W hW => by have h := HSF.out W hW; rwa [← hG, ← hR] at h)
                      clear e1 e2 hput hG hR HSF
                      cases R with
                      | false =>
                        clear t1
                        have HST := Lib.hid (HSR.out _ HWA.out)
                        go_wp2_with (first | (go_at_call 15; (with_reducible refine HAT.out.mono ?_); rintro e w9 ⟨rfl, rfl⟩) | (go_at_call 13; (with_reducible refine HST.out.mono ?_); rintro e w5 ⟨rfl, hl5⟩; have HT5 := Lib.hid hl5;  clear hl5))
                        go_roundw
                        case rel => exact ⟨q + 1, dstepT g1 p, false, by go_num, by omega, rfl, by rw [HHD.out]; exact HT5.out.older (by omega), fun _ => HON2.out, fun e => (by cases e)⟩
                        case measure => simp [intOf]; omega
                      | true =>
                        have hneg : G < 0 := by rcases t1 with h | h; exact h; cases h
                        have hneg2 : ¬ 0 ≤ G := by omega
                        clear t1
                        have HST := Lib.hid (HSR.out _ HWA.out)
                        go_wp2_with (first | (go_at_call 15; (with_reducible refine HAT.out.mono ?_); rintro e w9 ⟨rfl, rfl⟩) | (go_at_call 13; (with_reducible refine HST.out.mono ?_); rintro e w5 ⟨rfl, hl5⟩; have HT5 := Lib.hid hl5;  clear hl5))
                        go_roundw
                        case rel => exact ⟨q + 1, dstepT g1 p, false, by go_num, by omega, rfl, by rw [HHD.out]; exact HT5.out.older (by omega), fun _ => HON2.out, fun e => (by cases e)⟩
                        case measure => simp [intOf]; omega
              · obtain rfl : q = 700 := by omega
                exact absurd (hon.2.done h1 h4) (fun h => h)
            | true =>
              have hdn := hdn rfl
              clear hon
              have HDN := Lib.hid hdn
              have HWA := Lib.hid (show WA w wr g h n (724 + 3 * 0) gs (wasf gs.had) from hwa.older (by omega))
              clear hwa hdn
              have hq7 : (q : Int) < 700 ∨ ¬ (q : Int) < 700 := by omega
              rcases hq7 with hI7 | hI7
              all_goals
                clear hq
                go_upto_region 40 with fail
                go_wp2_with fail
                go_loopw [22] (fun i wr => ∃ (a : Nat) (gs : DS), i = .int .i64 a ∧ a ≤ 8 ∧ WA w wr g h n (724 + 3 * a) gs (wasf gs.had) ∧ WDn gs k) (fun i _ => 8 - (intOf i).toNat)
                case atStart => exact ⟨0, gs, rfl, by omega, HWA.out, HDN.out⟩
                case round =>
                  clear HWA HDN
                  obtain ⟨a, gs, rfl, ha, hwa, hdn⟩ := hrel
                  by_cases hgo : a < 8
                  · have hI8 : (a : Int) < 8 := by omega
                    have HWA := Lib.hid (show WA w wr g h n (724 + 3 * a + (1 - 1)) gs (wasf gs.had) from hwa.older (by omega))
                    have HDN := Lib.hid hdn
                    clear hwa hdn hgo
                    go_upto_region 43 with fail
                    go_wp2_with fail
                    go_loopw [23] (fun i wr => ∃ (p : Nat) (gs : DS), i = .int .i64 p ∧ 1 ≤ p ∧ p ≤ n ∧ WA w wr g h n (724 + 3 * a + (p - 1)) gs (wasf gs.had) ∧ WDn gs k) (fun i _ => n - (intOf i).toNat)
                    case atStart => exact ⟨1, gs, rfl, by omega, by omega, HWA.out, HDN.out⟩
                    case round =>
                      clear HWA HDN
                      obtain ⟨p, gs, rfl, hp1, hpn, hwa, hdn⟩ := hrel
                      by_cases hgo : p < n
                      · have hIp : (p : Int) < (n : Int) := by omega
                        have HAT := Lib.hid (atW hwa hgo)
                        by_cases hat : gat gs p = 0
                        · have hatI : (((gat gs p : Nat) : Int) != 0) = false := by rw [hat]; rfl
                          rw [hat] at HAT
                          have HWA := Lib.hid hwa
                          have HDN := Lib.hid hdn
                          clear hwa hdn hat hatI
                          go_wp2_with (go_at_call 15; (with_reducible refine HAT.out.mono ?_); rintro e w9 ⟨rfl, rfl⟩)
                          go_roundw
                          case rel => exact ⟨p + 1, gs, by go_num, by omega, by omega, HWA.out.older (by omega), HDN.out⟩
                          case measure => simp [intOf]; omega
                        · have hatI : (((gat gs p : Nat) : Int) != 0) = true := by simp; omega
                          have h9 := hwa.nine (by omega) hat
                          obtain ⟨t1, t2, t3, t4, t5, t6⟩ := hdn.1.nothing hdn.2.2.1 h9
                          have hst := stepW hwa hdn.1 (by omega) hgo hat
                          rw [show gfin gs p = dfinT gs p by unfold gfin; rw [if_neg (by omega)], show gtold gs p = dtoldT gs p by unfold gtold; rw [if_neg (by omega)], show gstep gs p = dstepT gs p by unfold gstep; rw [if_neg (by omega)]] at hst
                          have HDN := Lib.hid (show WDn (dstepT gs p) k from ⟨hdn.1.stepT h9, by rw [t3]; exact hdn.2.1, t2, by rw [t5]; exact hdn.2.2.2⟩)
                          have HHAD := Lib.hid t3
                          obtain ⟨G, hG⟩ : ∃ G, G = dtoldT gs p := ⟨_, rfl⟩
                          obtain ⟨R, hR⟩ : ∃ R, R = dfinT gs p := ⟨_, rfl⟩
                          rw [← hG, ← hR] at hst t1
                          obtain ⟨ga, hga⟩ : ∃ a, a = gat gs p := ⟨_, rfl⟩
                          rw [← hga] at HAT hatI
                          have HST := Lib.hid hst
                          clear hwa hdn hat h9 t2 t3 t4 t5 t6 hst hG hR hga
                          cases R with
                          | false =>
                            clear t1
                            go_wp2_with (first | (go_at_call 15; (with_reducible refine HAT.out.mono ?_); rintro e w9 ⟨rfl, rfl⟩) | (go_at_call 13; (with_reducible refine HST.out.mono ?_); rintro e w5 ⟨rfl, hl5⟩; have HT5 := Lib.hid hl5; clear hl5))
                            go_roundw
                            case rel => exact ⟨p + 1, dstepT gs p, by go_num, by omega, by omega, by rw [HHAD.out]; exact HT5.out.older (by omega), HDN.out⟩
                            case measure => simp [intOf]; omega
                          | true =>
                            have hneg : G < 0 := by rcases t1 with h | h; exact h; cases h
                            have hneg2 : ¬ 0 ≤ G := by omega
                            have hneg3 : ¬ 8 < G := by omega
                            clear t1
                            go_wp2_with (first | (go_at_call 15; (with_reducible refine HAT.out.mono ?_); rintro e w9 ⟨rfl, rfl⟩) | (go_at_call 13; (with_reducible refine HST.out.mono ?_); rintro e w5 ⟨rfl, hl5⟩; have HT5 := Lib.hid hl5; clear hl5))
                            go_roundw
                            case rel => exact ⟨p + 1, dstepT gs p, by go_num, by omega, by omega, by rw [HHAD.out]; exact HT5.out.older (by omega), HDN.out⟩
                            case measure => simp [intOf]; omega
                      · obtain rfl : p = n := by omega
                        have hIp : ¬ (p : Int) < (p : Int) := by omega
                        have HWA := Lib.hid hwa
                        have HDN := Lib.hid hdn
                        clear hwa hdn hgo
                        go_wp2
                        go_roundw
                        case rel => exact ⟨a + 1, gs, by go_num, by omega, HWA.out.older (by omega), HDN.out⟩
                        case measure => simp [intOf]; omega
                  · obtain rfl : a = 8 := by omega
                    have hI8 : ¬ ((8 : Nat) : Int) < 8 := by omega
                    have HWA := Lib.hid hwa
                    have HDN := Lib.hid hdn
                    clear hwa hdn hgo ha
                    go_upto_region 52 with fail
                    go_wp2_with fail
                    go_loopw [27] (fun i wr => ∃ a : Nat, i = .int .i64 a ∧ a ≤ k ∧ WA w wr g h n (724 + 3 * 8) gs (wasf gs.had)) (fun i _ => k - (intOf i).toNat)
                    case atStart => exact ⟨0, rfl, by omega, HWA.out⟩
                    case round =>
                      clear HWA
                      obtain ⟨a, rfl, ha, hwa⟩ := hrel
                      have HWA := Lib.hid hwa
                      clear hwa
                      by_cases hgo : a < k
                      · have hIk : (a : Int) < (k : Int) := by omega
                        have ha9 : (a : Int) < 9 := by omega
                        have q1 := HWA.out.row.cell (i := a) (by omega)
                        rw [show wasf gs.had a = 1 from if_pos (HDN.out.2.1 a hgo)] at q1
                        clear hgo
                        go_wp2
                        go_roundw
                        case rel => exact ⟨a + 1, by go_num, by omega, HWA.out⟩
                        case measure => simp [intOf]; omega
                      · obtain rfl : a = k := by omega
                        have hIk : ¬ (a : Int) < (a : Int) := by omega
                        have q8 := HWA.out.row.cell (i := 8) (by omega)
                        have h8 : gs.had 8 = false := by
                          cases e : gs.had 8 with
                          | false => rfl
                          | true => have := HDN.out.1.hp 8 e; have := HDN.out.2.2.2; omega
                        rw [show wasf gs.had 8 = 0 by unfold wasf; rw [h8]; rfl] at q8
                        clear hgo h8
                        go_wp2
                        go_ret
                        exact ⟨rfl, HWA.out.below⟩
    · have HIN := Lib.hid (inT_any pz 0 8 false (decide_eq_false hp))
      clear hp
      go_enter Try.func5, Try.ntmps5
      go_wp2_with (first | (go_at_call 7; refine (newL (Below.refl _ _) h1 h4).mono ?_; rintro e w2 ⟨g, rfl, hl⟩; have HL := Lib.hid hl; clear hl) | (go_at_call 14; (with_reducible refine (HIN.out _).mono ?_); rintro e wi ⟨rfl, rfl⟩))
      go_ret
      exact ⟨rfl, HL.out.below⟩
  · have HZ := Lib.hid hz
    by_cases hz1 : z < 1
    all_goals
      clear hz
      go_enter Try.func5, Try.ntmps5
      go_wp2_with (go_at_call 7; refine (newBad (Below.refl _ _) z HZ.out).mono ?_; rw [err1]; rintro e w2 ⟨rfl, hb⟩; have HB2 := Lib.hid hb; clear hb)
      go_ret
      first | exact ⟨rfl, HB2.out⟩ | exact ⟨congrArg (fun b => Ending.returned (.bool b)) (badT HZ.out), HB2.out⟩
end Go.Proofs.Ytbicckeoidijpaa.Dq
