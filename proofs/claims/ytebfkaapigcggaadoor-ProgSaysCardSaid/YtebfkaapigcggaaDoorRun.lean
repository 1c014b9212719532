/-
  What (prog.state).finish, told and prog.Run answer.
-/
import Derived.Test.YtebfkaapigcggaaDoorStep
import Derived.Deep.LoopGhost
namespace Go.Proofs.YtebfkaapigcggaaDoor
open Go.RowKit

set_option maxRecDepth 100000 in
set_option maxHeartbeats 2000000 in
theorem finish_any (zs : List Int) (words : Int) (hv : Value) (hs : List (List Ln)) (w : World) (hh : Hands w w.heap.size hv hs) (hW : Well words hs) (hf : Fit hs zs) :
    Calls Tryd.prog 20 #[.agg (row zs), .agg #[.int .i64 words, hv]] w fun e w' => e = .returned (.agg (row (finN hs hs.length zs))) ∧ Below w.heap.size w w' := by
  have hh0 := hh
  obtain ⟨A, c, rfl, hlen, hh⟩ := hh
  have HH := Lib.hid hh0
  have HF := Lib.hid hf
  have h3 := hW.few
  clear hh hh0 hf
  have k1 : Block (((w.alloc (.cells (row zs) 53)).alloc (.cells #[.int .i64 words, .slice A hs.length c] 24)).alloc (.cells #[.int .i64 0, .int .i64 0, .int .i64 0, .int .i64 0, .int .i64 0, .int .i64 0, .int .i64 0, .int .i64 0, .int .i64 0, .int .i64 0, .int .i64 0, .int .i64 0, .int .i64 0, .int .i64 0, .int .i64 0, .int .i64 0] 53)) w.heap.size 53 (row zs) := ((Block.made _ _ _).alloc _).alloc _
  have k2 : Block (((w.alloc (.cells (row zs) 53)).alloc (.cells #[.int .i64 words, .slice A hs.length c] 24)).alloc (.cells #[.int .i64 0, .int .i64 0, .int .i64 0, .int .i64 0, .int .i64 0, .int .i64 0, .int .i64 0, .int .i64 0, .int .i64 0, .int .i64 0, .int .i64 0, .int .i64 0, .int .i64 0, .int .i64 0, .int .i64 0, .int .i64 0] 53)) (w.heap.size + 1) 24 #[.int .i64 words, .slice A hs.length c] := (by simpa using (Block.made (w.alloc _) _ _).alloc _)
  have k3 : Block (((w.alloc (.cells (row zs) 53)).alloc (.cells #[.int .i64 words, .slice A hs.length c] 24)).alloc (.cells #[.int .i64 0, .int .i64 0, .int .i64 0, .int .i64 0, .int .i64 0, .int .i64 0, .int .i64 0, .int .i64 0, .int .i64 0, .int .i64 0, .int .i64 0, .int .i64 0, .int .i64 0, .int .i64 0, .int .i64 0, .int .i64 0] 53)) (w.heap.size + 2) 53 #[.int .i64 0, .int .i64 0, .int .i64 0, .int .i64 0, .int .i64 0, .int .i64 0, .int .i64 0, .int .i64 0, .int .i64 0, .int .i64 0, .int .i64 0, .int .i64 0, .int .i64 0, .int .i64 0, .int .i64 0, .int .i64 0] := (by simpa using Block.made ((w.alloc _).alloc _) _ _)
  have K1 := Lib.hid k1
  have K2 := Lib.hid k2
  have K3 := Lib.hid k3
  clear k1 k2 k3
  go_enter Tryd.func20, Tryd.ntmps20
  go_wp2_with fail
  go_loopg [9] hs.length (fun g i wr => ∃ k : Nat, g + k = hs.length ∧ i = .int .i64 k ∧ Block wr w.heap.size 53 (row (finN hs k zs)) ∧ Block wr (w.heap.size + 1) 24 #[.int .i64 words, .slice A hs.length c] ∧
      Block wr (w.heap.size + 2) 53 #[.int .i64 0, .int .i64 0, .int .i64 0, .int .i64 0, .int .i64 0, .int .i64 0, .int .i64 0, .int .i64 0, .int .i64 0, .int .i64 0, .int .i64 0, .int .i64 0, .int .i64 0, .int .i64 0, .int .i64 0, .int .i64 0] ∧ Below w.heap.size w wr)
  case atStart => exact ⟨0, by omega, rfl, K1.out, K2.out, K3.out, (((Below.refl _ _).alloc (Nat.le_refl _) _).alloc (by simp) _).alloc (by simp; omega) _⟩
  case round =>
    obtain ⟨k, hk, rfl, b1, b2, b3, hb⟩ := hrel
    have B1 := Lib.hid b1
    have B2 := Lib.hid b2
    have B3 := Lib.hid b3
    clear b1 b2 b3 K1 K2 K3
    by_cases hlt : k < hs.length
    · have hkI : (k : Int) < hs.length := by omega
      obtain ⟨ls, hls⟩ : ∃ ls, ls = hs[k] := ⟨_, rfl⟩
      have hl : hs[k]? = some ls := by rw [hls]; exact List.getElem?_eq_getElem hlt
      have HL := Lib.hid hl
      have HOK := Lib.hid (hW.okay k ls hl)
      have h5 := hW.short k ls hl
      have hFk := finN_fit hW HF.out k (by omega)
      obtain ⟨n0, hn0⟩ := hFk.2 k hlt
      have HFk := Lib.hid hFk
      have HN0 := Lib.hid hn0
      clear hls hl hFk hn0
      have hw4 := hW.hi
      obtain ⟨wo, rfl⟩ : ∃ wo : World, wo = wr := ⟨_, rfl⟩
      obtain ⟨go, rfl⟩ : ∃ go : Nat, go = gk := ⟨_, rfl⟩
      go_wp2
      go_loopg [] (ls.length - n0) (fun g wr => ∃ (cur : List Int) (n : Nat), Fit hs cur ∧ cur[k * 4 + 2]? = some (n : Int) ∧ allOf hs cur k = allOf hs (finN hs k zs) k ∧ g = ls.length - n ∧ Block wr w.heap.size 53 (row cur) ∧ Block wr (w.heap.size + 1) 24 #[.int .i64 words, .slice A hs.length c] ∧
          Block wr (w.heap.size + 2) 53 #[.int .i64 0, .int .i64 0, .int .i64 0, .int .i64 0, .int .i64 0, .int .i64 0, .int .i64 0, .int .i64 0, .int .i64 0, .int .i64 0, .int .i64 0, .int .i64 0, .int .i64 0, .int .i64 0, .int .i64 0, .int .i64 0] ∧ Below w.heap.size w wr)
      case atStart => exact ⟨_, n0, HFk.out, HN0.out, rfl, rfl, B1.out, B2.out, B3.out, hb⟩
      case round =>
        clear B1 B2 B3 hb
        obtain ⟨cur, n, hfc, hn, hall, hg, b1, b2, b3, hb⟩ := hrel
        have c20 := b2.cell 0
        have c21 := b2.cell 1
        simp at c20 c21
        have hsz := b3.lt
        have B1 := Lib.hid b1
        have B2 := Lib.hid b2
        have B3 := Lib.hid b3
        have HN := Lib.hid hn
        have HFC := Lib.hid hfc
        have HA := Lib.hid hall
        have HG := Lib.hid hg
        have HSZ := Lib.hid ((row_size cur).trans hfc.1)
        have HHr := Lib.hid ((HH.out.below hb (Nat.le_refl _)).more hb.size)
        clear b1 b2 b3 hn hfc hall hg
        by_cases hd : n < ls.length
        · have hdb : decide ((ls.length : Int) ≤ n) = false := decide_eq_false (by omega)
          go_wp2_with (first | (refine wpList_load_row rfl 53 (.tmp 2) rfl w.heap.size rfl _ (row cur) _ _ B1.out Tryd.underlying53 rfl (by rw [HSZ.out]; exact Tst.info) ?_) | (go_at_call 24; refine (done_any cur words _ hs k ls n _ HHr.out HL.out h3 HN.out).mono ?_; rw [hdb]; rintro e w1 ⟨rfl, hb1⟩; have hsz1 := hb1.size; have C1 := Lib.hid (B1.out.below hb1 (by omega)); have C2 := Lib.hid (B2.out.below hb1 (by omega)); have C3 := Lib.hid (B3.out.below hb1 (by omega)); have HHr1 := Lib.hid ((HHr.out.below hb1 (Nat.le_refl _)).more hb1.size); have d20 := (hb1.cell (p := ⟨w.heap.size + 1, 0, none⟩) (by simp; omega)).trans c20; have d21 := (hb1.cell (p := ⟨w.heap.size + 1, 1, none⟩) (by simp; omega)).trans c21) | (refine wpList_load_row rfl 53 (.tmp 2) rfl w.heap.size rfl _ (row cur) _ _ C1.out Tryd.underlying53 rfl (by rw [HSZ.out]; exact Tst.info) ?_) | (go_at_call 19; refine (step_any cur words _ hs k ls n _ HHr1.out HL.out h3 HN.out HFC.out.1 hw4 h5 HOK.out).mono ?_; rintro e w2 ⟨rfl, hb2⟩; have hsz2 := hb2.size; have D1 := Lib.hid (C1.out.below hb2 (by omega)); have D2 := Lib.hid (C2.out.below hb2 (by omega)); have D3 := Lib.hid (C3.out.below hb2 (by omega)); obtain ⟨hfs, m, hm, hnm⟩ : Fit hs (stp hs cur k) ∧ ∃ m : Nat, (stp hs cur k)[k * 4 + 2]? = some (m : Int) ∧ n < m := ⟨(stp_fit hW HFC.out hlt).1, (stp_fit hW HFC.out hlt).2 n HN.out (by rw [List.getD_eq_getElem?_getD, HL.out]; exact hd)⟩; have HS2 := Lib.hid ((row_size (stp hs cur k)).trans hfs.1); have HFS := Lib.hid hfs; have HM := Lib.hid hm; clear hfs hm) | (refine wpList_store_row rfl 53 (.tmp 2) (.tmp 20) rfl w.heap.size (row (stp hs cur k)) rfl rfl _ _ D1.out (by rw [HS2.out]; exact Tst.info) (by rw [HS2.out, HSZ.out]) (row_one _) ?_))
          go_roundg (ls.length - m)
          case measure => have := HG.out; omega
          case rel =>
            refine ⟨stp hs cur k, m, HFS.out, HM.out, by rw [allOf_stp hW HFC.out hlt, HA.out], rfl, setRow_heap _ _ _ _ _ _ D1.out, (setRow_other _ _ _ _ (by omega)).trans D2.out, (setRow_other _ _ _ _ (by omega)).trans D3.out, ?_⟩
            exact below_setRow ((hb.trans (hb1.mono (by omega))).trans (hb2.mono (by omega))) (Nat.le_refl _) _
        · have hdb : decide ((ls.length : Int) ≤ n) = true := decide_eq_true (by omega)
          go_wp2_with (first | (refine wpList_load_row rfl 53 (.tmp 2) rfl w.heap.size rfl _ (row cur) _ _ B1.out Tryd.underlying53 rfl (by rw [HSZ.out]; exact Tst.info) ?_) | (go_at_call 24; refine (done_any cur words _ hs k ls n _ HHr.out HL.out h3 HN.out).mono ?_; rw [hdb]; rintro e w1 ⟨rfl, hb1⟩))
          go_roundg (hs.length - (k + 1))
          case measure => omega
          case rel => exact ⟨k + 1, by omega, by go_num, by rw [finN, ← HA.out, allOf_done HL.out HN.out (by omega)]; exact B1.out.below hb1 (by omega), B2.out.below hb1 (by omega), B3.out.below hb1 (by omega), hb.trans (hb1.mono (by omega))⟩
    · have hkI : ¬ (k : Int) < hs.length := by omega
      have hke : k = hs.length := by omega
      have HK := Lib.hid hke
      clear hke
      have HSZ := Lib.hid ((row_size (finN hs k zs)).trans (finN_fit hW HF.out k (by omega)).1)
      go_wp2_with (first | (refine wpList_load_row rfl 53 (.tmp 2) rfl w.heap.size rfl _ (row (finN hs k zs)) _ _ B1.out Tryd.underlying53 rfl (by rw [HSZ.out]; exact Tst.info) ?_) | (refine wpList_store_row rfl 53 (.tmp 4) (.tmp 22) rfl (w.heap.size + 2) (row (finN hs k zs)) rfl rfl _ _ B3.out (by rw [HSZ.out]; exact Tst.info) (by rw [HSZ.out]; rfl) (row_one _) ?_))
      refine bodyPost_ret (v := .agg (row (finN hs k zs))) (results_cell_row rfl _ _ (w.heap.size + 2) 53 _ (0, 0) _ rfl (setRow_heap _ _ _ _ _ _ B3.out) Tryd.underlying53 rfl (by rw [HSZ.out]; exact Tst.info)) rfl ⟨by rw [HK.out], below_setRow hb (by omega) _⟩
end Go.Proofs.YtebfkaapigcggaaDoor
