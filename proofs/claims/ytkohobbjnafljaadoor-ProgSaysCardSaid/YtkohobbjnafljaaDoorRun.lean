/-
  What (prog.State).finish answers.
-/
import Derived.Test.YtkohobbjnafljaaDoorStep
import Derived.Test.YtkohobbjnafljaaDoorAgainMath
import Derived.Deep.LoopGhost
import Derived.Deep.MidRow
namespace Go.Proofs.YtkohobbjnafljaaDoor
open Go.RowKit

set_option maxRecDepth 100000 in
set_option maxHeartbeats 2000000 in
theorem finish_any (zs : List Int) (words : Int) (hv : Value) (hs : List (List Ln)) (w : World) (hh : Hands w w.heap.size hv hs) (hW : Well words hs) (hf : Fit hs zs) :
    Calls Tryd.prog 26 #[.agg (row zs), .agg #[.int .i64 words, hv]] w fun e w' => e = .returned (.agg (row (finN hs hs.length zs))) ∧ Below w.heap.size w w' := by
  have hh0 := hh
  obtain ⟨A, c, rfl, hlen, hh⟩ := hh
  have HH := Lib.hid hh0
  have HF := Lib.hid hf
  have HA := Lib.hid hh
  have h3 := hW.few
  have hw4 := hW.hi
  clear hh hh0 hf
  have k1 : Block (((w.alloc (.cells (row zs) 61)).alloc (.cells #[.int .i64 words, .slice A hs.length c] 24)).alloc (.cells #[.int .i64 0, .int .i64 0, .int .i64 0, .int .i64 0, .int .i64 0, .int .i64 0, .int .i64 0, .int .i64 0, .int .i64 0, .int .i64 0, .int .i64 0, .int .i64 0, .int .i64 0, .int .i64 0, .int .i64 0, .int .i64 0] 61)) w.heap.size 61 (row zs) := ((Block.made _ _ _).alloc _).alloc _
  have k2 : Block (((w.alloc (.cells (row zs) 61)).alloc (.cells #[.int .i64 words, .slice A hs.length c] 24)).alloc (.cells #[.int .i64 0, .int .i64 0, .int .i64 0, .int .i64 0, .int .i64 0, .int .i64 0, .int .i64 0, .int .i64 0, .int .i64 0, .int .i64 0, .int .i64 0, .int .i64 0, .int .i64 0, .int .i64 0, .int .i64 0, .int .i64 0] 61)) (w.heap.size + 1) 24 #[.int .i64 words, .slice A hs.length c] := (by simpa using (Block.made (w.alloc _) _ _).alloc _)
  have k3 : Block (((w.alloc (.cells (row zs) 61)).alloc (.cells #[.int .i64 words, .slice A hs.length c] 24)).alloc (.cells #[.int .i64 0, .int .i64 0, .int .i64 0, .int .i64 0, .int .i64 0, .int .i64 0, .int .i64 0, .int .i64 0, .int .i64 0, .int .i64 0, .int .i64 0, .int .i64 0, .int .i64 0, .int .i64 0, .int .i64 0, .int .i64 0] 61)) (w.heap.size + 2) 61 #[.int .i64 0, .int .i64 0, .int .i64 0, .int .i64 0, .int .i64 0, .int .i64 0, .int .i64 0, .int .i64 0, .int .i64 0, .int .i64 0, .int .i64 0, .int .i64 0, .int .i64 0, .int .i64 0, .int .i64 0, .int .i64 0] := (by simpa using Block.made ((w.alloc _).alloc _) _ _)
  have K1 := Lib.hid k1
  have K2 := Lib.hid k2
  have K3 := Lib.hid k3
  clear k1 k2 k3
  go_enter Tryd.func26, Tryd.ntmps26
  go_wp2_with fail
  go_loopw [10] (fun i wr => ∃ k : Nat, k ≤ hs.length ∧ i = .int .i64 k ∧ Block wr w.heap.size 61 (row (finN hs k zs)) ∧ Block wr (w.heap.size + 1) 24 #[.int .i64 words, .slice A hs.length c] ∧ Block wr (w.heap.size + 2) 61 #[.int .i64 0, .int .i64 0, .int .i64 0, .int .i64 0, .int .i64 0, .int .i64 0, .int .i64 0, .int .i64 0, .int .i64 0, .int .i64 0, .int .i64 0, .int .i64 0, .int .i64 0, .int .i64 0, .int .i64 0, .int .i64 0] ∧ Below w.heap.size w wr) (fun i _ => hs.length - (intOf i).toNat)
  case atStart => exact ⟨0, Nat.zero_le _, rfl, K1.out, K2.out, K3.out, (((Below.refl _ _).alloc (Nat.le_refl _) _).alloc (by simp) _).alloc (by simp; omega) _⟩
  case round =>
    obtain ⟨k, hk, rfl, b1, b2, b3, hb⟩ := hrel
    have B1 := Lib.hid b1
    have B2 := Lib.hid b2
    have B3 := Lib.hid b3
    clear b1 b2 b3 K1 K2 K3
    by_cases hlt : k < hs.length
    · obtain ⟨ls, hls⟩ : ∃ ls, ls = hs[k] := ⟨_, rfl⟩
      have hl : hs[k]? = some ls := by rw [hls]; exact List.getElem?_eq_getElem hlt
      have HL := Lib.hid hl
      have HOK := Lib.hid (hW.okay k ls hl)
      have h5 := hW.short k ls hl
      have HFk := Lib.hid (finN_fit hW HF.out k (by omega))
      obtain ⟨bh, oh, rfl, hbh, hc⟩ := HA.out (by omega)
      obtain ⟨u, hu, hL⟩ := hc k ls hl
      obtain ⟨A', c', rfl, hl2, hL⟩ := hL
      have hu' := (hb.cell (p := ⟨bh, oh + k, none⟩) hbh).trans hu
      clear hls hl hc hL hu
      obtain ⟨wo, rfl⟩ : ∃ wo : World, wo = wr := ⟨_, rfl⟩
      go_wp2_with fail
      go_loopw [17] (fun i wr => ∃ j : Nat, j ≤ ls.length ∧ i = .int .i64 j ∧ Block wr w.heap.size 61 (row (iter (fun z => stp hs z k) j (finN hs k zs))) ∧ Block wr (w.heap.size + 1) 24 #[.int .i64 words, .slice (some ⟨bh, oh, none⟩) hs.length c] ∧ Block wr (w.heap.size + 2) 61 #[.int .i64 0, .int .i64 0, .int .i64 0, .int .i64 0, .int .i64 0, .int .i64 0, .int .i64 0, .int .i64 0, .int .i64 0, .int .i64 0, .int .i64 0, .int .i64 0, .int .i64 0, .int .i64 0, .int .i64 0, .int .i64 0] ∧ Below w.heap.size w wr) (fun i _ => ls.length - (intOf i).toNat)
      case atStart => exact ⟨0, Nat.zero_le _, rfl, B1.out, B2.out, B3.out, hb⟩
      case round =>
        clear B1 B2 B3 hb hu'
        obtain ⟨j, hj, rfl, b1, b2, b3, hb⟩ := hrel
        obtain ⟨cur, hcur⟩ : ∃ cur, cur = iter (fun z => stp hs z k) j (finN hs k zs) := ⟨_, rfl⟩
        have hfc : Fit hs cur := by rw [hcur]; exact (iter_fit hW HFk.out hlt j).1
        rw [← hcur] at b1
        obtain ⟨n, hn⟩ := hfc.2 k hlt
        have c20 := b2.cell 0
        have c21 := b2.cell 1
        simp at c20 c21
        have hsz := b3.lt
        have B1 := Lib.hid b1
        have B2 := Lib.hid b2
        have B3 := Lib.hid b3
        have HN := Lib.hid hn
        have HFC := Lib.hid hfc
        have HC := Lib.hid hcur
        have HSZ := Lib.hid ((row_size cur).trans hfc.1)
        have HHr := Lib.hid ((HH.out.below hb (Nat.le_refl _)).more hb.size)
        clear b1 b2 b3 hn hfc hcur
        by_cases hjl : j < ls.length
        · go_wp2_with (first | (refine wpList_load_row rfl 61 (.tmp 2) rfl w.heap.size rfl _ (row cur) _ _ B1.out Tryd.underlying61 rfl (by rw [HSZ.out]; exact Tst.info) ?_) | (go_at_call 25; refine (step_any cur words _ hs k ls n _ HHr.out HL.out h3 HN.out HFC.out.1 hw4 h5 HOK.out).mono ?_; rintro e w2 ⟨rfl, hb2⟩; have hsz2 := hb2.size; have D1 := Lib.hid (B1.out.below hb2 (by omega)); have D2 := Lib.hid (B2.out.below hb2 (by omega)); have D3 := Lib.hid (B3.out.below hb2 (by omega)); have HS2 := Lib.hid ((row_size (stp hs cur k)).trans (stp_fit hW HFC.out hlt).1.1)) | (refine wpList_store_row rfl 61 (.tmp 2) (.tmp 22) rfl w.heap.size (row (stp hs cur k)) rfl rfl _ _ D1.out (by rw [HS2.out]; exact Tst.info) (by rw [HS2.out, HSZ.out]) (row_one _) ?_))
          go_roundw
          case rel =>
            refine ⟨j + 1, by omega, by go_num, ?_, (setRow_other _ _ _ _ (by omega)).trans D2.out, (setRow_other _ _ _ _ (by omega)).trans D3.out, below_setRow (hb.trans (hb2.mono (by omega))) (Nat.le_refl _) _⟩
            rw [iter_succ, ← HC.out]
            exact setRow_heap _ _ _ _ _ _ D1.out
          case measure => simp [intOf]; omega
        · have e : cur = finN hs (k + 1) zs := by
            have hjl' : j = (hs.getD k []).length := by rw [List.getD_eq_getElem?_getD, HL.out]; simp; omega
            rw [HC.out, finN, ← iter_len hW HFk.out hlt, hjl']
          have HE := Lib.hid e
          clear e
          go_wp2_with fail
          go_roundw
          case rel => exact ⟨k + 1, by omega, by go_num, by rw [← HE.out]; exact B1.out, B2.out, B3.out, hb⟩
          case measure => simp [intOf]; omega
    · have hke : k = hs.length := by omega
      have HK := Lib.hid hke
      clear hke
      have HSZ := Lib.hid ((row_size (finN hs k zs)).trans (finN_fit hW HF.out k (by omega)).1)
      go_wp2_with (first | (refine wpList_load_row rfl 61 (.tmp 2) rfl w.heap.size rfl _ (row (finN hs k zs)) _ _ B1.out Tryd.underlying61 rfl (by rw [HSZ.out]; exact Tst.info) ?_) | (refine wpList_store_row rfl 61 (.tmp 4) (.tmp 25) rfl (w.heap.size + 2) (row (finN hs k zs)) rfl rfl _ _ B3.out (by rw [HSZ.out]; exact Tst.info) (by rw [HSZ.out]; rfl) (row_one _) ?_))
      refine bodyPost_ret (v := .agg (row (finN hs k zs))) (results_cell_row rfl _ _ (w.heap.size + 2) 61 _ (0, 0) _ rfl (setRow_heap _ _ _ _ _ _ B3.out) Tryd.underlying61 rfl (by rw [HSZ.out]; exact Tst.info)) rfl ⟨by rw [HK.out], below_setRow hb (by omega) _⟩
end Go.Proofs.YtkohobbjnafljaaDoor
