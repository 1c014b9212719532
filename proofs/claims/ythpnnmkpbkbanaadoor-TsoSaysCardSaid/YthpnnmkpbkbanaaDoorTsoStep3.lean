/-
  What (tso.state).step answers: a line that must wait.
-/
import Derived.Test.YthpnnmkpbkbanaaDoorTsoSt
namespace Go.Proofs.YthpnnmkpbkbanaaDoor
open Go.RowKit

set_option maxRecDepth 100000 in
set_option maxHeartbeats 2000000 in
theorem tstep_block (z A C : List Int) (q : List (Nat × Int)) (p : Nat) (zs : List Int) (words : Int) (hv : Value) (hs : List (List Ln)) (ls : List Ln) (n : Nat) (w : World) (hr : TRow z A q C p zs) (hh : Hands w w.heap.size hv hs) (hl : hs[p]? = some ls) (h3 : hs.length ≤ 3)
    (hn : z[p * 4 + 2]? = some (n : Int)) (lk lr ld lv : Int) (hln : ls[n]? = some ⟨lk, lr, ld, lv⟩) (hq0 : 0 < q.length) (hk : lk = 3 ∨ lk = 4) :
    Calls Tryd.prog 36 #[.agg (row zs), .agg #[.int .i64 words, hv], .int .i64 p] w fun e w' => e = .returned (.agg (row zs)) ∧ Below w.heap.size w w' := by
  have HH := Lib.hid hh
  obtain ⟨Ah, ch, rfl, hlen, hh⟩ := hh
  have hp := hr.hand
  have i1 : (0 : Int) ≤ p := by omega
  have i2 : (p : Int) < 3 := by omega
  obtain ⟨hb2, hb3, hb6, hbe⟩ := z49_alloc w zs (.slice Ah hs.length ch) words
  obtain ⟨W, hW⟩ : ∃ W, W = (((w.alloc (.cells (row zs) 80)).alloc (.cells #[.int .i64 words, .slice Ah hs.length ch] 24)).alloc (.cells #[.int .i64 0, .int .i64 0, .int .i64 0, .int .i64 0, .int .i64 0, .int .i64 0, .int .i64 0, .int .i64 0, .int .i64 0, .int .i64 0, .int .i64 0, .int .i64 0, .int .i64 0, .int .i64 0, .int .i64 0, .int .i64 0, .int .i64 0, .int .i64 0, .int .i64 0, .int .i64 0, .int .i64 0, .int .i64 0, .int .i64 0, .int .i64 0, .int .i64 0, .int .i64 0, .int .i64 0, .int .i64 0, .int .i64 0, .int .i64 0, .int .i64 0, .int .i64 0, .int .i64 0, .int .i64 0, .int .i64 0, .int .i64 0, .int .i64 0, .int .i64 0, .int .i64 0, .int .i64 0, .int .i64 0, .int .i64 0, .int .i64 0, .int .i64 0, .int .i64 0, .int .i64 0, .int .i64 0, .int .i64 0, .int .i64 0] 80)) := ⟨_, rfl⟩
  rw [← hW] at hb2 hb3 hb6 hbe
  have HW := Lib.hid hW
  have HR := Lib.hid hr
  have B2 := Lib.hid hb2
  have B3 := Lib.hid hb3
  have B6 := Lib.hid hb6
  have HBE := Lib.hid hbe
  have HZ := Lib.hid (show (z.map (Value.int .i64)).length = 16 by rw [List.length_map, hr.z16])
  have HL := Lib.hid hl
  have HN := Lib.hid hn
  have HLN := Lib.hid hln
  obtain ⟨e1, e2⟩ := hr.mid
  obtain ⟨m, hm⟩ : ∃ m, m = q.length := ⟨_, rfl⟩
  have hmc : (row zs)[16 + p * 11]? = some (.int .i64 m) := by
    rw [e1, ← e2, ← Nat.add_zero (z ++ A).length, hm]
    exact row_mid (i := 0) rfl
  have g1 : (0 : Int) < m := by omega
  have HMC := Lib.hid hmc
  have HRL := Lib.hid (show (row zs).size = 49 by rw [row_size, hr.len])
  clear hh hl hn hW hb2 hb3 hb6 hbe hr hp hln hm e1 e2 hmc hq0
  go_enter Tryd.func36, Tryd.ntmps36
  go_upto_region 2 with fail
  rw [← HW.out]
  have c0 := B3.out.cell 0
  have c1 := B3.out.cell 1
  simp at c0 c1
  go_wp2_with (refine wpList_load_mid rfl 63 (.tmp 15) rfl w.heap.size 0 rfl (z.map (Value.int .i64)) _ (by have h := B2.out; rw [HR.out.eq] at h; exact h.range16) Tryd.underlying63 rfl (by rw [HZ.out]; exact Tst.info) ?_)
  refine (next_some z words _ hs p ls n ⟨lk, lr, ld, lv⟩ W ((HH.out.below HBE.out (Nat.le_refl _)).more HBE.out.size) HL.out h3 HN.out HLN.out).mono ?_
  rintro e w1 ⟨rfl, hb1⟩
  have b2 := B2.out.below hb1 B2.out.lt
  have b6 := B6.out.below hb1 B6.out.lt
  have HBE1 := Lib.hid (HBE.out.trans (hb1.mono HBE.out.size))
  have hlt := b6.lt
  have hlt0 : w.heap.size < w1.heap.size := by omega
  have hcm := (b2.cell (16 + p * 11)).trans HMC.out
  have K2 := Lib.hid (b2.alloc (.cells #[.int .i64 lk, .int .i64 lr, .int .i64 ld, .int .i64 lv] 40))
  have K6 := Lib.hid (b6.alloc (.cells #[.int .i64 lk, .int .i64 lr, .int .i64 ld, .int .i64 lv] 40))
  clear hb1 b2 b6 c0 c1 HW
  rcases hk with rfl | rfl
  all_goals
    go_wp2_with (first | (refine wpList_load_row rfl 80 (.tmp 3) rfl w.heap.size rfl _ (row zs) _ _ K2.out Tryd.underlying80 rfl (by rw [HRL.out]; exact T64.info) ?_) | (refine wpList_store_row rfl 80 (.tmp 6) (.tmp 41) rfl (w.heap.size + 1 + 1) (row zs) rfl rfl _ _ K6.out (by rw [HRL.out]; exact T64.info) (by rw [HRL.out]; rfl) (row_one _) ?_))
    have hB := setRow_heap _ (w.heap.size + 1 + 1) _ (row zs) 80 _ K6.out
    exact bodyPost_ret (v := .agg (row zs)) (results_cell_row rfl _ _ (w.heap.size + 1 + 1) _ _ _ _ rfl hB Tryd.underlying80 rfl (by rw [HRL.out]; exact T64.info)) rfl ⟨rfl, below_setRow (HBE1.out.alloc HBE1.out.size _) (by omega) _⟩
end Go.Proofs.YthpnnmkpbkbanaaDoor
