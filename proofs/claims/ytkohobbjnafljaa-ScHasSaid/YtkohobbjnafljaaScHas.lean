/-
  The walk of latchgarthlaw1.ScHas: it answers true, whatever the program and the script.
-/
import Derived.Test.YtkohobbjnafljaaScFact
import Derived.Test.YtkohobbjnafljaaBelow
import Derived.Test.YtkohobbjnafljaaScLaws
import Derived.Test.YtkohobbjnafljaaRun2
namespace Go.Proofs.Ytkohobbjnafljaa
open Go.RowKit

set_option maxRecDepth 100000 in
set_option maxHeartbeats 4000000 in
theorem has_law (words : Int) (hv sv : Value) (hs : List (List Ln)) (script : List Int) (w : World) (hh : Hands w w.heap.size hv hs) (hn : Nums w w.heap.size sv script) :
    Calls Try.prog 5 #[.agg #[.int .i64 words, hv], sv] w fun e w' => e = .returned (.bool true) ∧ Below w.heap.size w w' := by
  have HH := Lib.hid hh
  have HN := Lib.hid hn
  obtain ⟨A, c, rfl, hlen, _⟩ := hh
  obtain ⟨A2, c2, rfl, hlen2, _⟩ := hn
  have HK := Lib.hid (Block.made w 28 #[.int .i64 words, .slice A hs.length c])
  have HB := Lib.hid ((Below.refl w.heap.size w).alloc (Nat.le_refl _) (.cells #[.int .i64 words, .slice A hs.length c] 28))
  go_enter Try.func5, Try.ntmps5
  go_wp2_with fail
  refine (scFact_any _).mono ?_
  rintro e w1 ⟨rfl, hb1⟩
  have k1 : Block w1 w.heap.size 28 #[.int .i64 words, .slice A hs.length c] := HK.out.below hb1 (by simp)
  have HB1 := Lib.hid (HB.out.trans (hb1.mono (by simp)))
  have c0 := k1.cell 0
  have c1 := k1.cell 1
  simp at c0 c1
  have K1 := Lib.hid k1
  clear hb1 k1
  go_wp2_with fail
  refine (results_any words _ hs w1 ((HH.out.below HB1.out (Nat.le_refl _)).more HB1.out.size)).mono ?_
  by_cases hc : check words hs = 0
  · rintro e w2 ⟨v2, he, hl2, hb2⟩
    have HC := Lib.hid hc
    have hW := check_well hc
    have HW := Lib.hid hW
    rw [hc, show errV 23 0 = .nilIface from rfl] at he
    rw [resL, if_pos hc] at hl2
    subst he
    obtain ⟨ls, hls⟩ : ∃ ls, ls = scR words hs := ⟨_, rfl⟩
    rw [← hls] at hl2
    have HLS := Lib.hid hls
    have HL2 := Lib.hid hl2
    have hb02 : Below w.heap.size w w2 := HB1.out.trans (hb2.mono HB1.out.size)
    have HB2 := Lib.hid hb02
    have k2 : Block w2 w.heap.size 28 #[.int .i64 words, .slice A hs.length c] := K1.out.below hb2 K1.out.lt
    have d0 := k2.cell 0
    have d1 := k2.cell 1
    simp at d0 d1
    have HH2 := Lib.hid ((HH.out.below hb02 (Nat.le_refl _)).more hb02.size)
    have HN2 := Lib.hid ((HN.out.below hb02 (Nat.le_refl _)).more hb02.size)
    have K2 := Lib.hid k2
    obtain ⟨A3, c3, rfl, hl3, hcc⟩ := hl2
    have HCC := Lib.hid hcc
    clear hb2 hb02 k2 hls hc hW hcc c0 c1
    go_wp2_with fail
    go_loopw [8] (fun i wr => ∃ k : Nat, 1 ≤ k ∧ (k ≤ ls.length ∨ k = 1) ∧ i = .int .i64 k ∧ ∃ n, wr = w2.drewN n) (fun i _ => ls.length - (intOf i).toNat)
    case atStart => exact ⟨1, Nat.le_refl _, Or.inr rfl, rfl, 0, rfl⟩
    case round =>
      obtain ⟨k, hk1, hk, rfl, n, rfl⟩ := hrel
      have d0' : (w2.drewN n).cell? ⟨w.heap.size, 0, none⟩ = some (.int .i64 words) := d0
      have d1' : (w2.drewN n).cell? ⟨w.heap.size, 1, none⟩ = some (.slice A hs.length c) := d1
      by_cases hlt : k < ls.length
      · have i1 : (k : Int) < ls.length := by omega
        obtain ⟨b1, o1, rfl, hb1, hc1⟩ := HCC.out (by omega)
        obtain ⟨k', rfl⟩ : ∃ k', k = k' + 1 := ⟨k - 1, by omega⟩
        obtain ⟨x, hx⟩ : ∃ x, ls[k']? = some x := ⟨_, List.getElem?_eq_getElem (by omega)⟩
        obtain ⟨y, hy⟩ : ∃ y, ls[k' + 1]? = some y := ⟨_, List.getElem?_eq_getElem hlt⟩
        obtain ⟨u, hu, hnu, _⟩ := hc1 k' x hx
        obtain ⟨u', hu', hnu', _⟩ := hc1 (k' + 1) y hy
        have HU := Lib.hid hnu
        have HU' := Lib.hid hnu'
        obtain ⟨A4, c4, rfl, _, _⟩ := hnu
        obtain ⟨A5, c5, rfl, _, _⟩ := hnu'
        have g1 : (w2.drewN n).cell? ⟨b1, o1 + k', none⟩ = some (.slice A4 x.length c4) := hu
        have g2 : (w2.drewN n).cell? ⟨b1, o1 + (k' + 1), none⟩ = some (.slice A5 y.length c5) := hu'
        have hxm : x ∈ scR words hs := by rw [← HLS.out]; exact List.mem_of_getElem? hx
        have hym : y ∈ scR words hs := by rw [← HLS.out]; exact List.mem_of_getElem? hy
        have hle : x.length = y.length := by rw [scR_len hxm, scR_len hym]
        have hless : lessL x y = true := by
          have hr := (scR_facts words hs).1
          rw [← HLS.out] at hr
          have := (List.pairwise_iff_getElem.1 hr) k' (k' + 1) (by omega) hlt (by omega)
          rwa [(List.getElem?_eq_some_iff.1 hx).2, (List.getElem?_eq_some_iff.1 hy).2] at this
        have HLE := Lib.hid hle
        have HLESS := Lib.hid hless
        have i2 : (0 : Int) ≤ (k' : Int) := by omega
        have i3 : (k' : Int) < ls.length := by omega
        have i4 : IntKind.i64.wrap (((k' + 1 : Nat) : Int) - 1) = (k' : Int) := by simp [IntKind.wrap, IntKind.bits, IntKind.signed]; omega
        have i5 : IntKind.i64.wrap (k' : Int) = (k' : Int) := by simp [IntKind.wrap, IntKind.bits, IntKind.signed]; omega
        have i6 : (k' : Int) + 1 < ls.length := by omega
        have HCB := Lib.hid (show ∀ V : World, (∀ p, V.cell? p = w2.cell? p) → Calls Try.prog 13 #[.slice A4 x.length c4, .slice A5 y.length c5] V fun e w' => e = .returned (.bool true) ∧ ∃ m, w' = V.drewN m from fun V hV => by
          have h := below_any x y _ _ _ _ V HLE.out (HU.out.keep fun p _ => hV p) (HU'.out.keep fun p _ => hV p)
          rwa [HLESS.out] at h)
        have g3 : (w2.drewN n).drew.cell? ⟨b1, o1 + k', none⟩ = some (.slice A4 x.length c4) := hu
        have g4 : (w2.drewN n).drew.cell? ⟨b1, o1 + (k' + 1), none⟩ = some (.slice A5 y.length c5) := hu'
        clear hc1 hx hy hxm hym hle hless
        go_wp2_with fail
        go_region_with (go_at_call 13; refine (HCB.out (w2.drewN (n + 1)) (fun _ => rfl)).mono ?_; rintro e w5 ⟨rfl, m, rfl⟩)
        all_goals (
          go_wp2_with fail
          go_roundw
          case rel => exact ⟨k' + 1 + 1, by omega, Or.inl hlt, by go_num, _, rfl⟩
          case measure => simp [intOf]; omega)
      · have i1 : ¬ (k : Int) < ls.length := by omega
        have HLN := Lib.hid (show Lsts (w2.drewN n) w2.heap.size (.slice A3 ls.length c3) ls from HL2.out)
        have hH' : Hands (w2.drewN n) (w2.drewN n).heap.size (.slice A hs.length c) hs := HH2.out
        have hN' : Nums (w2.drewN n) (w2.drewN n).heap.size (.slice A2 script.length c2) script := HN2.out
        have HHD := Lib.hid hH'
        have HND := Lib.hid hN'
        clear hH' hN'
        go_wp2_with fail
        refine (run_any words _ _ hs script _ HHD.out HND.out).mono ?_
        by_cases hr : runErr words hs script = 0
        · rintro e w3 ⟨v3, he, hn3, hb3⟩
          rw [hr, show errV 23 0 = .nilIface from rfl] at he
          subst he
          have HN3 := Lib.hid hn3
          obtain ⟨A6, c6, rfl, _, _⟩ := hn3
          have HB3 := Lib.hid hb3
          have HM := Lib.hid (show decide (runTold words hs script ∈ ls) = true from decide_eq_true (by rw [HLS.out]; exact run_in_scR hr))
          clear hb3
          go_wp2_with (go_at_call 14; refine (has_any ls (runTold words hs script) _ _ _ _ w3 (HLN.out.below HB3.out (by simp)) HN3.out).mono ?_; rw [HM.out]; rintro e w6 ⟨rfl, m, rfl⟩)
          go_ret
          exact ⟨rfl, below_drewN (HB2.out.trans ((below_drewN (Below.refl w2.heap.size w2) n).trans HB3.out |>.mono HB2.out.size)) _⟩
        · rintro e w3 ⟨v3, he, hn3, hb3⟩
          rw [show errV 23 (runErr words hs script) = .iface 23 (.int .i64 (runErr words hs script)) from if_neg hr] at he
          subst he
          obtain ⟨A6, c6, rfl, _, _⟩ := hn3
          have HB3 := Lib.hid hb3
          clear hb3
          go_wp2_with fail
          go_ret
          exact ⟨rfl, HB2.out.trans ((below_drewN (Below.refl w2.heap.size w2) n).trans HB3.out |>.mono HB2.out.size)⟩
  · rintro e w2 ⟨v2, he, hl2, hb2⟩
    rw [show errV 23 (check words hs) = .iface 23 (.int .i64 (check words hs)) from if_neg hc] at he
    rw [resL, if_neg hc] at hl2
    subst he
    obtain ⟨A3, c3, rfl, _, _⟩ := hl2
    have HB2 := Lib.hid hb2
    clear hb2
    go_wp2_with fail
    go_ret
    exact ⟨rfl, HB1.out.trans (HB2.out.mono HB1.out.size)⟩
end Go.Proofs.Ytkohobbjnafljaa
