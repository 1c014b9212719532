/-
  The walk of latchgarthlaw1.ProgAgain: it answers true, whatever the program.
-/
import Derived.Test.YtkohobbjnafljaaFactOne
namespace Go.Proofs.Ytkohobbjnafljaa
open Go.RowKit

set_option maxHeartbeats 1000000 in
theorem again_bad (words : Int) (hv : Value) (hs : List (List Ln)) (w : World) (hh : Hands w w.heap.size hv hs) (hc : check words hs ≠ 0) :
    Calls Try.prog 4 #[.agg #[.int .i64 words, hv]] w fun e w' => e = .returned (.bool true) ∧ Below w.heap.size w w' := by
  have hre := runErr_check (script := []) hc
  have HT := Lib.hid (runTold_bad (script := []) (by rw [hre]; exact hc))
  have HV := Lib.hid (show errV 23 (runErr words hs []) = .iface 23 (.int .i64 (check words hs)) by simp [errV, hre, hc])
  have HH := Lib.hid hh
  obtain ⟨A, c, rfl, hlen, hh⟩ := hh
  clear hh hc hre
  have K0 := Lib.hid (Block.made w 28 #[.int .i64 words, .slice A hs.length c])
  have HB0 := Lib.hid ((Below.refl w.heap.size w).alloc (Nat.le_refl _) (.cells #[.int .i64 words, .slice A hs.length c] 28))
  go_enter Try.func4, Try.ntmps4
  go_wp2_with fail
  refine (progFact_any _).mono ?_
  rintro e w1 ⟨rfl, hb1⟩
  have k1 : Block w1 w.heap.size 28 #[.int .i64 words, .slice A hs.length c] := K0.out.below hb1 (by simp)
  have HB1 := Lib.hid (HB0.out.trans (hb1.mono (by simp)))
  have c0 := k1.cell 0
  have c1 := k1.cell 1
  simp at c0 c1
  clear hb1 k1
  go_wp2_with fail
  refine (run_any words _ _ hs [] _ ((HH.out.below HB1.out (Nat.le_refl _)).more HB1.out.size) (nums_nil _ _)).mono ?_
  rintro e w2 ⟨v2, he, hn2, hb2⟩
  rw [HV.out] at he
  rw [HT.out] at hn2
  subst he
  obtain ⟨A2, c2, rfl, _, _⟩ := hn2
  have HB2 := Lib.hid hb2
  clear hb2
  go_wp2_with fail
  go_ret
  exact ⟨rfl, HB1.out.trans (HB2.out.mono HB1.out.size)⟩

set_option maxRecDepth 100000 in
set_option maxHeartbeats 2000000 in
theorem again_good (words : Int) (hv : Value) (hs : List (List Ln)) (w : World) (hh : Hands w w.heap.size hv hs) (hc : check words hs = 0) :
    Calls Try.prog 4 #[.agg #[.int .i64 words, hv]] w fun e w' => e = .returned (.bool true) ∧ Below w.heap.size w w' := by
  obtain ⟨e1, e2, e3⟩ := told_again hc
  have hW := check_well hc
  have hlt := told_length hc [] e1
  obtain ⟨xs, hxs⟩ : ∃ xs, xs = runTold words hs [] := ⟨_, rfl⟩
  rw [← hxs] at e3 hlt
  have HXS := Lib.hid hxs
  have HLT := Lib.hid hlt
  have E1 := Lib.hid e1
  have E2 := Lib.hid e2
  have E3 := Lib.hid e3
  have h3 := hW.few
  have hw1 := hW.lo
  have hw4 := hW.hi
  have hAl := againS_length hW
  have HAL := Lib.hid hAl
  have HH := Lib.hid hh
  obtain ⟨i0, hi, hz0, hz1, hz2⟩ := info_parts Tin.info
  obtain ⟨A, c, rfl, hlen, hh⟩ := hh
  have HC := Lib.hid hh
  clear hh hc e1 e2 e3 hxs hlt hAl
  have K0 := Lib.hid (Block.made w 28 #[.int .i64 words, .slice A hs.length c])
  have HB0 := Lib.hid ((Below.refl w.heap.size w).alloc (Nat.le_refl _) (.cells #[.int .i64 words, .slice A hs.length c] 28))
  go_enter Try.func4, Try.ntmps4
  go_wp2_with fail
  refine (progFact_any _).mono ?_
  rintro e w1 ⟨rfl, hb1⟩
  have k1 : Block w1 w.heap.size 28 #[.int .i64 words, .slice A hs.length c] := K0.out.below hb1 (by simp)
  have HB1 := Lib.hid (HB0.out.trans (hb1.mono (by simp)))
  have c0 := k1.cell 0
  have c1 := k1.cell 1
  simp at c0 c1
  have K1 := Lib.hid k1
  clear hb1 k1
  go_wp2_with fail
  refine (run_any words _ _ hs [] _ ((HH.out.below HB1.out (Nat.le_refl _)).more HB1.out.size) (nums_nil _ _)).mono ?_
  rintro e w2 ⟨v2, he, hn2, hb2⟩
  rw [E1.out, show errV 23 0 = .nilIface from rfl] at he
  rw [← HXS.out] at hn2
  subst he
  have HN2 := Lib.hid hn2
  obtain ⟨A2, c2, rfl, hl2, _⟩ := hn2
  have k2 : Block w2 w.heap.size 28 #[.int .i64 words, .slice A hs.length c] := K1.out.below hb2 K1.out.lt
  have HB2 := Lib.hid (HB1.out.trans (hb2.mono HB1.out.size))
  have K2 := Lib.hid k2
  clear hb2 k2 c0 c1
  go_wp2_with fail
  go_loopw [6, 7] (fun v i wr => ∃ k : Nat, k ≤ hs.length ∧ i = .int .i64 k ∧ wr.ownsRow w2.heap.size 3 1 v (againS hs k).length ((againS hs k).map (Value.int .i64)) ∧ Block wr w.heap.size 28 #[.int .i64 words, .slice A hs.length c] ∧ Below w2.heap.size w2 wr) (fun _ i _ => hs.length - (intOf i).toNat)
  case atStart => exact ⟨0, Nat.zero_le _, rfl, World.ownsRow_nil _ _ _ _, K2.out, Below.refl _ _⟩
  case round =>
    obtain ⟨k, hk, rfl, hown, kb, hb⟩ := hrel
    have c0 := kb.cell 0
    have c1 := kb.cell 1
    simp at c0 c1
    have KB := Lib.hid kb
    have HO := Lib.hid hown
    have HB := Lib.hid hb
    clear kb hown hb
    by_cases hlt : k < hs.length
    · have hkI : (k : Int) < hs.length := by omega
      obtain ⟨b, o, rfl, hbb, hcc⟩ := HC.out (by omega)
      obtain ⟨ls, hls⟩ : ∃ ls, hs[k]? = some ls := ⟨_, List.getElem?_eq_getElem hlt⟩
      obtain ⟨u, hu, hL⟩ := hcc k ls hls
      obtain ⟨A3, c3, rfl, hl3, _⟩ := hL
      have HU := Lib.hid hu
      have HLS := Lib.hid hls
      have h5 := hW.short k ls hls
      clear hcc hu hls
      obtain ⟨wo, rfl⟩ : ∃ wo : World, wo = wr := ⟨_, rfl⟩
      go_wp2_with fail
      go_loopw [6, 8] (fun v i wr => ∃ j : Nat, j ≤ ls.length ∧ i = .int .i64 j ∧ wr.ownsRow w2.heap.size 3 1 v (againS hs k ++ List.replicate j (k : Int)).length ((againS hs k ++ List.replicate j (k : Int)).map (Value.int .i64)) ∧ Block wr w.heap.size 28 #[.int .i64 words, .slice (some ⟨b, o, none⟩) hs.length c] ∧ Below w2.heap.size w2 wr) (fun _ i _ => ls.length - (intOf i).toNat)
      case atStart => exact ⟨0, Nat.zero_le _, rfl, by simpa using HO.out, KB.out, HB.out⟩
      case round =>
        clear HB KB HO c0 c1
        obtain ⟨j, hj, rfl, hown, kb, hb⟩ := hrel
        have c0 := kb.cell 0
        have c1 := kb.cell 1
        simp at c0 c1
        have hsz := kb.lt
        have hbW := HB2.out.trans (hb.mono HB2.out.size)
        have hu := (hbW.cell (p := ⟨b, o + k, none⟩) hbb).trans HU.out
        have hlen := HAL.out k hk
        have KB := Lib.hid kb
        have HO := Lib.hid hown
        have HB := Lib.hid hb
        have HBW := Lib.hid hbW
        have HLEN := Lib.hid hlen
        clear kb hown hb hbW hlen
        by_cases hjl : j < ls.length
        · have hjI : (j : Int) < ls.length := by omega
          go_wp2_with (at_builtin; refine wpList_append_own _ rfl (.tmp 41) (.tmp 43) 29 rfl w2.heap.size 3 i0 (.int .i64 0) 1 8 Try.underlying29 hi hz0 hz1 hz2 rfl (by decide) _ _ _ rfl (HO.out.alloc _) ⟨wr.heap.size, 0, none⟩ 1 1 [.int .i64 k] rfl rfl (one_cell (by simp)) (by intro u hu; simp at hu; subst hu; rfl) (by have := HLEN.out; rw [List.length_append, List.length_replicate]; unfold maxLen; omega) (by have := HLEN.out; rw [List.length_append, List.length_replicate]; omega) (by have := HB.out.size; simp; omega) ?_; intro v' w3 hown3 hg3 _; have hlt3 := HO.out.lt; have hsz3 := hg3.size; simp at hsz3; have HO3 := Lib.hid hown3; have KB3 := Lib.hid ((hg3.block w.heap.size (KB.out.alloc _).lt (fun e => by have := (hlt3 _ e.symm).1; have := K2.out.lt; omega)).trans (KB.out.alloc _)); have HB3 := Lib.hid ((HB.out.alloc HB.out.size _).grown hg3 (by have := HB.out.size; simp; omega) (fun q hq => (hlt3 q hq).1)); clear hown3 hg3 hlt3)
          go_roundw
          case rel =>
            refine ⟨j + 1, by omega, by go_num, ?_, KB3.out, HB3.out⟩
            rw [List.replicate_succ', ← List.append_assoc, List.length_append, List.map_append]
            exact HO3.out
          case measure => simp [intOf]; omega
        · have e : againS hs (k + 1) = againS hs k ++ List.replicate j (k : Int) := by
            rw [againS, List.getD_eq_getElem?_getD, HLS.out, Option.getD_some, show j = ls.length by omega]
          have HE := Lib.hid e
          clear e
          go_wp2_with fail
          go_roundw
          case rel => exact ⟨k + 1, by omega, by go_num, by rw [HE.out]; exact HO.out, KB.out, HB.out⟩
          case measure => simp [intOf]; omega
    · have hkI : ¬ (k : Int) < hs.length := by omega
      have HK := Lib.hid (show k = hs.length by omega)
      have hlen := HAL.out k hk
      have hbW := HB2.out.trans (HB.out.mono HB2.out.size)
      have hnu : Nums wr wr.heap.size _ (againS hs k) := nums_of_own (base := w2.heap.size) (e := 3) HO.out (by omega)
      have HNU := Lib.hid hnu
      have HBW := Lib.hid hbW
      obtain ⟨A4, c4, rfl, _, _⟩ := hnu
      clear hlen hbW
      go_wp2_with fail
      refine (run_any words _ _ hs (againS hs k) _ ((HH.out.below HBW.out (Nat.le_refl _)).more HBW.out.size) HNU.out).mono ?_
      rintro e w4 ⟨v4, he, hn4, hb4⟩
      have hke := HK.out
      rw [hke, E2.out, show errV 23 0 = .nilIface from rfl] at he
      rw [hke, E3.out] at hn4
      clear hke
      subst he
      have HN4 := Lib.hid hn4
      obtain ⟨A5, c5, rfl, _, _⟩ := hn4
      have k4 := KB.out.below hb4 KB.out.lt
      have d0 := k4.cell 0
      have d1 := k4.cell 1
      simp at d0 d1
      have HB4 := Lib.hid hb4
      have hleq : ((xs.length : Int) == 2 * (hs.length : Int) + words) = true := beq_iff_eq.2 HLT.out
      clear k4 hb4 c0 c1
      go_wp2_with fail
      refine (ints_any xs xs _ _ _ _ _ ((HN2.out.below HB.out (Nat.le_refl _)).below HB4.out HB.out.size) HN4.out).mono ?_
      rw [decide_eq_true rfl]
      rintro e w5 ⟨rfl, n, rfl⟩
      go_wp2
      go_ret
      exact ⟨by simp, below_drewN (HBW.out.trans (HB4.out.mono HBW.out.size)) _⟩
end Go.Proofs.Ytkohobbjnafljaa
