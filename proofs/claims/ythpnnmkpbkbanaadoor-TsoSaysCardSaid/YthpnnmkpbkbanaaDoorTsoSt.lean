/-
  Texts merged: TsoStep, TsoStep2.
-/
import Derived.Test.YthpnnmkpbkbanaaDoorTsoEnd
import Derived.Test.YthpnnmkpbkbanaaDoorStep
import Derived.Deep.RegionHeld3
/-
  What (tso.state).step answers.
-/
namespace Go.Proofs.YthpnnmkpbkbanaaDoor
open Go.RowKit

theorem z49_alloc (w : World) (zs : List Int) (hv : Value) (words : Int) :
    Block (((w.alloc (.cells (row zs) 80)).alloc (.cells #[.int .i64 words, hv] 24)).alloc (.cells #[.int .i64 0, .int .i64 0, .int .i64 0, .int .i64 0, .int .i64 0, .int .i64 0, .int .i64 0, .int .i64 0, .int .i64 0, .int .i64 0, .int .i64 0, .int .i64 0, .int .i64 0, .int .i64 0, .int .i64 0, .int .i64 0, .int .i64 0, .int .i64 0, .int .i64 0, .int .i64 0, .int .i64 0, .int .i64 0, .int .i64 0, .int .i64 0, .int .i64 0, .int .i64 0, .int .i64 0, .int .i64 0, .int .i64 0, .int .i64 0, .int .i64 0, .int .i64 0, .int .i64 0, .int .i64 0, .int .i64 0, .int .i64 0, .int .i64 0, .int .i64 0, .int .i64 0, .int .i64 0, .int .i64 0, .int .i64 0, .int .i64 0, .int .i64 0, .int .i64 0, .int .i64 0, .int .i64 0, .int .i64 0, .int .i64 0] 80)) w.heap.size 80 (row zs) ∧
    Block (((w.alloc (.cells (row zs) 80)).alloc (.cells #[.int .i64 words, hv] 24)).alloc (.cells #[.int .i64 0, .int .i64 0, .int .i64 0, .int .i64 0, .int .i64 0, .int .i64 0, .int .i64 0, .int .i64 0, .int .i64 0, .int .i64 0, .int .i64 0, .int .i64 0, .int .i64 0, .int .i64 0, .int .i64 0, .int .i64 0, .int .i64 0, .int .i64 0, .int .i64 0, .int .i64 0, .int .i64 0, .int .i64 0, .int .i64 0, .int .i64 0, .int .i64 0, .int .i64 0, .int .i64 0, .int .i64 0, .int .i64 0, .int .i64 0, .int .i64 0, .int .i64 0, .int .i64 0, .int .i64 0, .int .i64 0, .int .i64 0, .int .i64 0, .int .i64 0, .int .i64 0, .int .i64 0, .int .i64 0, .int .i64 0, .int .i64 0, .int .i64 0, .int .i64 0, .int .i64 0, .int .i64 0, .int .i64 0, .int .i64 0] 80)) (w.heap.size + 1) 24 #[.int .i64 words, hv] ∧
    Block (((w.alloc (.cells (row zs) 80)).alloc (.cells #[.int .i64 words, hv] 24)).alloc (.cells #[.int .i64 0, .int .i64 0, .int .i64 0, .int .i64 0, .int .i64 0, .int .i64 0, .int .i64 0, .int .i64 0, .int .i64 0, .int .i64 0, .int .i64 0, .int .i64 0, .int .i64 0, .int .i64 0, .int .i64 0, .int .i64 0, .int .i64 0, .int .i64 0, .int .i64 0, .int .i64 0, .int .i64 0, .int .i64 0, .int .i64 0, .int .i64 0, .int .i64 0, .int .i64 0, .int .i64 0, .int .i64 0, .int .i64 0, .int .i64 0, .int .i64 0, .int .i64 0, .int .i64 0, .int .i64 0, .int .i64 0, .int .i64 0, .int .i64 0, .int .i64 0, .int .i64 0, .int .i64 0, .int .i64 0, .int .i64 0, .int .i64 0, .int .i64 0, .int .i64 0, .int .i64 0, .int .i64 0, .int .i64 0, .int .i64 0] 80)) (w.heap.size + 1 + 1) 80 #[.int .i64 0, .int .i64 0, .int .i64 0, .int .i64 0, .int .i64 0, .int .i64 0, .int .i64 0, .int .i64 0, .int .i64 0, .int .i64 0, .int .i64 0, .int .i64 0, .int .i64 0, .int .i64 0, .int .i64 0, .int .i64 0, .int .i64 0, .int .i64 0, .int .i64 0, .int .i64 0, .int .i64 0, .int .i64 0, .int .i64 0, .int .i64 0, .int .i64 0, .int .i64 0, .int .i64 0, .int .i64 0, .int .i64 0, .int .i64 0, .int .i64 0, .int .i64 0, .int .i64 0, .int .i64 0, .int .i64 0, .int .i64 0, .int .i64 0, .int .i64 0, .int .i64 0, .int .i64 0, .int .i64 0, .int .i64 0, .int .i64 0, .int .i64 0, .int .i64 0, .int .i64 0, .int .i64 0, .int .i64 0, .int .i64 0] ∧
    Below w.heap.size w (((w.alloc (.cells (row zs) 80)).alloc (.cells #[.int .i64 words, hv] 24)).alloc (.cells #[.int .i64 0, .int .i64 0, .int .i64 0, .int .i64 0, .int .i64 0, .int .i64 0, .int .i64 0, .int .i64 0, .int .i64 0, .int .i64 0, .int .i64 0, .int .i64 0, .int .i64 0, .int .i64 0, .int .i64 0, .int .i64 0, .int .i64 0, .int .i64 0, .int .i64 0, .int .i64 0, .int .i64 0, .int .i64 0, .int .i64 0, .int .i64 0, .int .i64 0, .int .i64 0, .int .i64 0, .int .i64 0, .int .i64 0, .int .i64 0, .int .i64 0, .int .i64 0, .int .i64 0, .int .i64 0, .int .i64 0, .int .i64 0, .int .i64 0, .int .i64 0, .int .i64 0, .int .i64 0, .int .i64 0, .int .i64 0, .int .i64 0, .int .i64 0, .int .i64 0, .int .i64 0, .int .i64 0, .int .i64 0, .int .i64 0] 80)) := by
  refine ⟨((Block.made _ _ _).alloc _).alloc _, ?_, ?_, (((Below.refl _ _).alloc (Nat.le_refl _) _).alloc (by simp) _).alloc (by simp; omega) _⟩
  · have := Block.made (w.alloc (.cells (row zs) 80)) 24 #[.int .i64 words, hv]
    rw [World.size_alloc] at this
    exact this.alloc _
  · have := Block.made ((w.alloc (.cells (row zs) 80)).alloc (.cells #[.int .i64 words, hv] 24)) 80 #[.int .i64 0, .int .i64 0, .int .i64 0, .int .i64 0, .int .i64 0, .int .i64 0, .int .i64 0, .int .i64 0, .int .i64 0, .int .i64 0, .int .i64 0, .int .i64 0, .int .i64 0, .int .i64 0, .int .i64 0, .int .i64 0, .int .i64 0, .int .i64 0, .int .i64 0, .int .i64 0, .int .i64 0, .int .i64 0, .int .i64 0, .int .i64 0, .int .i64 0, .int .i64 0, .int .i64 0, .int .i64 0, .int .i64 0, .int .i64 0, .int .i64 0, .int .i64 0, .int .i64 0, .int .i64 0, .int .i64 0, .int .i64 0, .int .i64 0, .int .i64 0, .int .i64 0, .int .i64 0, .int .i64 0, .int .i64 0, .int .i64 0, .int .i64 0, .int .i64 0, .int .i64 0, .int .i64 0, .int .i64 0, .int .i64 0]
    rwa [World.size_alloc, World.size_alloc] at this

set_option maxRecDepth 100000 in
set_option maxHeartbeats 2000000 in
theorem tstep_none (z A C : List Int) (q : List (Nat × Int)) (p : Nat) (zs : List Int) (words : Int) (hv : Value) (hs : List (List Ln)) (ls : List Ln) (n : Nat) (w : World) (hr : TRow z A q C p zs) (hh : Hands w w.heap.size hv hs) (hl : hs[p]? = some ls) (h3 : hs.length ≤ 3)
    (hn : z[p * 4 + 2]? = some (n : Int)) (hge : ls.length ≤ n) :
    Calls Tryd.prog 36 #[.agg (row zs), .agg #[.int .i64 words, hv], .int .i64 p] w fun e w' => e = .returned (.agg (row zs)) ∧ Below w.heap.size w w' := by
  have HH := Lib.hid hh
  obtain ⟨Ah, ch, rfl, hlen, hh⟩ := hh
  have hp := hr.hand
  have i1 : (0 : Int) ≤ p := by omega
  have i2 : (p : Int) < 3 := by omega
  obtain ⟨hb2, hb3, hb6, hbe⟩ := z49_alloc w zs (.slice Ah hs.length ch) words
  obtain ⟨W, hW⟩ : ∃ W, W = (((w.alloc (.cells (row zs) 80)).alloc (.cells #[.int .i64 words, .slice Ah hs.length ch] 24)).alloc (.cells #[.int .i64 0, .int .i64 0, .int .i64 0, .int .i64 0, .int .i64 0, .int .i64 0, .int .i64 0, .int .i64 0, .int .i64 0, .int .i64 0, .int .i64 0, .int .i64 0, .int .i64 0, .int .i64 0, .int .i64 0, .int .i64 0, .int .i64 0, .int .i64 0, .int .i64 0, .int .i64 0, .int .i64 0, .int .i64 0, .int .i64 0, .int .i64 0, .int .i64 0, .int .i64 0, .int .i64 0, .int .i64 0, .int .i64 0, .int .i64 0, .int .i64 0, .int .i64 0, .int .i64 0, .int .i64 0, .int .i64 0, .int .i64 0, .int .i64 0, .int .i64 0, .int .i64 0, .int .i64 0, .int .i64 0, .int .i64 0, .int .i64 0, .int .i64 0, .int .i64 0, .int .i64 0, .int .i64 0, .int .i64 0, .int .i64 0] 80)) := ⟨_, rfl⟩
  rw [← hW] at hb2 hb3 hb6 hbe
  have HW := Lib.hid hW
  have HR := Lib.hid hr
  have B2 := Lib.hid hb2
  have B3 := Lib.hid hb3
  have B6 := Lib.hid hb6
  have HBE := Lib.hid hbe
  have HZ := Lib.hid (show (z.map (Value.int .i64)).length = 16 by rw [List.length_map, hr.z16])
  have HL := Lib.hid hl
  have HN := Lib.hid hn
  have HRL := Lib.hid (show (row zs).size = 49 by rw [row_size, hr.len])
  clear hh hl hn hW hb2 hb3 hb6 hbe hr hp
  go_enter Tryd.func36, Tryd.ntmps36
  go_upto_region 2 with fail
  rw [← HW.out]
  have c0 := B3.out.cell 0
  have c1 := B3.out.cell 1
  simp at c0 c1
  go_wp2_with (refine wpList_load_mid rfl 63 (.tmp 15) rfl w.heap.size 0 rfl (z.map (Value.int .i64)) _ (by have h := B2.out; rw [HR.out.eq] at h; exact h.range16) Tryd.underlying63 rfl (by rw [HZ.out]; exact Tst.info) ?_)
  refine (next_none z words _ hs p ls n W ((HH.out.below HBE.out (Nat.le_refl _)).more HBE.out.size) HL.out h3 HN.out hge).mono ?_
  rintro e w1 ⟨rfl, hb1⟩
  have b2 := B2.out.below hb1 B2.out.lt
  have b6 := B6.out.below hb1 B6.out.lt
  have HBE1 := Lib.hid (HBE.out.trans (hb1.mono HBE.out.size))
  have hlt := b6.lt
  have K2 := Lib.hid (b2.alloc (.cells #[.int .i64 0, .int .i64 0, .int .i64 0, .int .i64 0] 40))
  have K6 := Lib.hid (b6.alloc (.cells #[.int .i64 0, .int .i64 0, .int .i64 0, .int .i64 0] 40))
  clear hb1 b2 b6 c0 c1 HW
  go_wp2_with (first | (refine wpList_load_row rfl 80 (.tmp 3) rfl w.heap.size rfl _ (row zs) _ _ K2.out Tryd.underlying80 rfl (by rw [HRL.out]; exact T64.info) ?_) | (refine wpList_store_row rfl 80 (.tmp 6) (.tmp 41) rfl (w.heap.size + 1 + 1) (row zs) rfl rfl _ _ K6.out (by rw [HRL.out]; exact T64.info) (by rw [HRL.out]; rfl) (row_one _) ?_))
  have hB := setRow_heap _ (w.heap.size + 1 + 1) _ (row zs) 80 _ K6.out
  exact bodyPost_ret (v := .agg (row zs)) (results_cell_row rfl _ _ (w.heap.size + 1 + 1) _ _ _ _ rfl hB Tryd.underlying80 rfl (by rw [HRL.out]; exact T64.info)) rfl ⟨rfl, below_setRow (HBE1.out.alloc HBE1.out.size _) (by omega) _⟩
end Go.Proofs.YthpnnmkpbkbanaaDoor

/-
  What (tso.state).step answers: a line that is done.
-/
namespace Go.Proofs.YthpnnmkpbkbanaaDoor
open Go.RowKit

theorem stp_length (hs : List (List Ln)) (z : List Int) (p : Nat) (hz : z.length = 16) : (stp hs z p).length = 16 := by
  unfold stp
  dsimp only
  repeat' split
  all_goals simp [hz]
theorem index4 (ys : List Int) (d : Nat) (v : Int) (h : ys[d]? = some v) (hd : d < 4) (w : World) : (Instr.index 61 (.agg (row ys)) (.int .i64 d)).run Tryd.prog w = .ok (.int .i64 v) w := by
  have hsz : (sizeOf 3).run Tryd.prog w = .ok 1 w := by
    cases hq : Tryd.prog.info? 3 with
    | none => have := T1.info; rw [hq] at this; cases this
    | some i =>
      have : i.size = 1 := by have := T1.info; rw [hq] at this; simpa using this
      simp [sizeOf, typeInfo, hq, this]
  simp [Instr.index, asIntOf, run_underlying Tryd.underlying61, go_sem, hsz, row_get h, hd]
/-- A state behind a line that is done. -/
def tso49 (hs : List (List Ln)) (z A C : List Int) (q : List (Nat × Int)) (p : Nat) (lk ld : Int) : List Int :=
  if lk = 3 then stp hs (z.take 12 ++ ovr (z.drop 12) q) p ++ (A ++ (qrow q ++ C))
  else if lk = 2 then ((stp hs (z.take 12 ++ ovr (z.drop 12) q) p).take 12 ++ z.drop 12) ++ (A ++ (qrow (q ++ [(ld.toNat, ((stp hs (z.take 12 ++ ovr (z.drop 12) q) p).drop 12).getD ld.toNat 0)]) ++ C))
  else ((stp hs (z.take 12 ++ ovr (z.drop 12) q) p).take 12 ++ z.drop 12) ++ (A ++ (qrow q ++ C))
theorem node_intro {F : Nat → Array Bool → Act → World → Prop} {f : Nat} {l : Array Bool} {a : Act} {w : World} (h : ∀ G : Nat → Array Bool → Act → World → Prop, (∀ f l a w, G f l a w = F f l a w) → G f l a w) : F f l a w := h F fun _ _ _ _ => rfl
set_option maxRecDepth 100000 in
set_option maxHeartbeats 4000000 in
theorem tstep_go (z A C : List Int) (q : List (Nat × Int)) (p : Nat) (zs : List Int) (words : Int) (hv : Value) (hs : List (List Ln)) (ls : List Ln) (n : Nat) (lk lr ld lv : Int) (w : World) (hr : TRow z A q C p zs) (hh : Hands w w.heap.size hv hs) (hl : hs[p]? = some ls) (h3 : hs.length ≤ 3)
    (hn : z[p * 4 + 2]? = some (n : Int)) (hln : ls[n]? = some ⟨lk, lr, ld, lv⟩) (hq : q.length < 5) (hq4 : ∀ e ∈ q, e.1 < 4) (hw4 : words ≤ 4) (h5 : ls.length ≤ 5) (hok : ls.all (okLn words) = true)
    (b1 b2 : Bool) (hb1 : b1 = decide ((0 : Int) < q.length)) (hb2 : b2 = ((lk == 3) || (lk == 4))) (hgo : (b1 && b2) = false) (hd : lk = 2 → 0 ≤ ld ∧ ld < 4) :
    Calls Tryd.prog 36 #[.agg (row zs), .agg #[.int .i64 words, hv], .int .i64 p] w fun e w' => e = .returned (.agg (row (tso49 hs z A C q p lk ld))) ∧ Below w.heap.size w w' := by
  have HH := Lib.hid hh
  obtain ⟨Ah, ch, rfl, hlen, hh⟩ := hh
  have hp := hr.hand
  have i1 : (0 : Int) ≤ p := by omega
  have i2 : (p : Int) < 3 := by omega
  obtain ⟨hb2', hb3, hb6, hbe⟩ := z49_alloc w zs (.slice Ah hs.length ch) words
  obtain ⟨W, hW⟩ : ∃ W, W = (((w.alloc (.cells (row zs) 80)).alloc (.cells #[.int .i64 words, .slice Ah hs.length ch] 24)).alloc (.cells #[.int .i64 0, .int .i64 0, .int .i64 0, .int .i64 0, .int .i64 0, .int .i64 0, .int .i64 0, .int .i64 0, .int .i64 0, .int .i64 0, .int .i64 0, .int .i64 0, .int .i64 0, .int .i64 0, .int .i64 0, .int .i64 0, .int .i64 0, .int .i64 0, .int .i64 0, .int .i64 0, .int .i64 0, .int .i64 0, .int .i64 0, .int .i64 0, .int .i64 0, .int .i64 0, .int .i64 0, .int .i64 0, .int .i64 0, .int .i64 0, .int .i64 0, .int .i64 0, .int .i64 0, .int .i64 0, .int .i64 0, .int .i64 0, .int .i64 0, .int .i64 0, .int .i64 0, .int .i64 0, .int .i64 0, .int .i64 0, .int .i64 0, .int .i64 0, .int .i64 0, .int .i64 0, .int .i64 0, .int .i64 0, .int .i64 0] 80)) := ⟨_, rfl⟩
  rw [← hW] at hb2' hb3 hb6 hbe
  obtain ⟨e1, e2⟩ := hr.mid
  obtain ⟨m, hm⟩ : ∃ m, m = q.length := ⟨_, rfl⟩
  have hmc : (row zs)[16 + p * 11]? = some (.int .i64 m) := by
    rw [e1, ← e2, ← Nat.add_zero (z ++ A).length, hm]
    exact row_mid (i := 0) rfl
  rw [← hm] at hb1
  have HW := Lib.hid hW
  have HR := Lib.hid hr
  have B2 := Lib.hid hb2'
  have B3 := Lib.hid hb3
  have B6 := Lib.hid hb6
  have HBE := Lib.hid hbe
  have HZ := Lib.hid (show (z.map (Value.int .i64)).length = 16 by rw [List.length_map, hr.z16])
  have HL := Lib.hid hl
  have HN := Lib.hid hn
  have HLN := Lib.hid hln
  have HQ := Lib.hid hq
  have HQ4 := Lib.hid hq4
  have HM := Lib.hid hm
  have HOK := Lib.hid hok
  have HMC := Lib.hid hmc
  have HE := Lib.hid e2
  have HRL := Lib.hid (show (row zs).size = 49 by rw [row_size, hr.len])
  have HB1 := Lib.hid hb1
  have HB2 := Lib.hid hb2
  have HGO := Lib.hid hgo
  have HD := Lib.hid hd
  clear hh hl hn hW hb2' hb3 hb6 hbe hr hp hln hq hq4 hm hok e1 e2 hmc hb1 hb2 hgo hd
  go_enter Tryd.func36, Tryd.ntmps36
  go_upto_region 2 with fail
  rw [← HW.out]
  have c0 := B3.out.cell 0
  have c1 := B3.out.cell 1
  simp at c0 c1
  go_wp2_with (refine wpList_load_mid rfl 63 (.tmp 15) rfl w.heap.size 0 rfl (z.map (Value.int .i64)) _ (by have h := B2.out; rw [HR.out.eq] at h; exact h.range16) Tryd.underlying63 rfl (by rw [HZ.out]; exact Tst.info) ?_)
  refine (next_some z words _ hs p ls n ⟨lk, lr, ld, lv⟩ W ((HH.out.below HBE.out (Nat.le_refl _)).more HBE.out.size) HL.out h3 HN.out HLN.out).mono ?_
  rintro e w1 ⟨rfl, hb1⟩
  have HW1 := Lib.hid hb1.size
  have K2 := Lib.hid (B2.out.below hb1 B2.out.lt)
  have K3 := Lib.hid (B3.out.below hb1 B3.out.lt)
  have K6 := Lib.hid (B6.out.below hb1 B6.out.lt)
  have HBE1 := Lib.hid (HBE.out.trans (hb1.mono HBE.out.size))
  have hcm := (K2.out.cell (16 + p * 11)).trans HMC.out
  have hlt := K6.out.lt
  have hlt0 : w.heap.size < w1.heap.size := by omega
  clear hb1 c0 c1 HW B2 B3 B6 HBE HMC
  go_upto_region 3 with fail
  go_cut [40] (fun t40 wx => t40 = .bool false ∧ wx = w1.alloc (.cells #[.int .i64 lk, .int .i64 lr, .int .i64 ld, .int .i64 lv] 40))
  case first =>
    have hb1 := HB1.out
    have hb2 := HB2.out
    have hgo := HGO.out
    by_cases g1 : (0 : Int) < m
    · by_cases g2 : lk = 3
      · exfalso
        rw [hb1, hb2, g2] at hgo
        simp at hgo
        omega
      · by_cases g3 : lk = 4
        · exfalso
          rw [hb1, hb2, g3] at hgo
          simp at hgo
          omega
        · clear hb1 hb2 hgo
          have k3 : (lk == 3) = false := by simpa using g2
          have k4 : (lk == 4) = false := by simpa using g3
          go_wp2_with fail
          go_meet
          exact ⟨rfl, rfl⟩
    · clear hb1 hb2 hgo
      go_wp2_with fail
      go_meet
      exact ⟨rfl, rfl⟩
  case rest =>
  obtain ⟨rfl, rfl⟩ := hcut
  have hd5 : (w1.alloc (.cells #[.int .i64 lk, .int .i64 lr, .int .i64 ld, .int .i64 lv] 40)).heap.size = w1.heap.size + 1 := by simp
  have b2 := Block.made w1 40 #[.int .i64 lk, .int .i64 lr, .int .i64 ld, .int .i64 lv]
  obtain ⟨w2, hw2⟩ : ∃ w2, w2 = w1.alloc (.cells #[.int .i64 lk, .int .i64 lr, .int .i64 ld, .int .i64 lv] 40) := ⟨_, rfl⟩
  have t2 : Touch (fun _ => False) w1 w2 := by rw [hw2]; exact (Touch.refl _ w1).alloc _
  rw [← hw2] at b2 hd5 ⊢
  have L2 := Lib.hid b2
  have M2 := Lib.hid (K2.out.touch t2 (fun h => h))
  have M3 := Lib.hid (K3.out.touch t2 (fun h => h))
  have M6 := Lib.hid (K6.out.touch t2 (fun h => h))
  have HBE2 := Lib.hid (HBE1.out.trans (t2.below HBE1.out.size (fun _ h => h.elim)))
  have HD5 := Lib.hid hd5
  clear hw2 t2 b2 hd5 K2 K3 K6 HBE1 hcm HB1 HB2 HGO HW1
  go_upto_region 5 with fail
  go_wp2_with (refine wpList_load_mid rfl 63 (.tmp 42) rfl w.heap.size 0 rfl (z.map (Value.int .i64)) _ (by have h := M2.out; rw [HR.out.eq] at h; exact h.range16) Tryd.underlying63 rfl (by rw [HZ.out]; exact Tst.info) ?_)
  have hz16 : z.length = 16 := HR.out.z16
  refine (words_any z w2 hz16).mono ?_
  rintro e w3 ⟨rfl, hb3⟩
  obtain ⟨ws, hws⟩ : ∃ ws, ws = z.drop 12 := ⟨_, rfl⟩
  have hw4' : ws.length = 4 := by rw [hws, List.length_drop, hz16]
  rw [← hws]
  have HWS := Lib.hid hws
  have HW4 := Lib.hid (show (row ws).size = 4 by rw [row_size, hw4'])
  have HZ16 := Lib.hid hz16
  have m2 := M2.out.below hb3 M2.out.lt
  have m3 := M3.out.below hb3 M3.out.lt
  have m6 := M6.out.below hb3 M6.out.lt
  have l2 := L2.out.below hb3 L2.out.lt
  have HBE3 := Lib.hid (HBE2.out.trans (hb3.mono HBE2.out.size))
  have hs3 := l2.lt
  have N2 := Lib.hid m2
  have N3 := Lib.hid m3
  have N6 := Lib.hid m6
  have NL := Lib.hid l2
  clear hb3 hws hw4' hz16 m2 m3 m6 l2 M2 M3 M6 L2 HBE2 HD5
  go_upto_region 6 with (refine wpList_store_row rfl 61 (.tmp 10) (.tmp 44) rfl w3.heap.size (row ws) rfl rfl _ _ (heap_alloc_new w3 _) (by rw [HW4.out]; exact T4.info) (by rw [HW4.out]; rfl) (row_one _) ?_)
  obtain ⟨w4, hw4e⟩ : ∃ w4, w4 = (w3.alloc (.cells #[.int .i64 0, .int .i64 0, .int .i64 0, .int .i64 0] 61)).setRow w3.heap.size (row ws) := ⟨_, rfl⟩
  rw [← hw4e]
  have t4 : Touch (fun _ => False) w3 w4 := by rw [hw4e]; exact ((Touch.refl _ w3).alloc _).setRow (Or.inr (Nat.le_refl _)) _
  have kt : Block w4 w3.heap.size 61 (row ws) := by rw [hw4e]; exact setRow_heap _ _ _ _ _ _ (heap_alloc_new w3 _)
  have O2 := Lib.hid (N2.out.touch t4 (fun h => h))
  have O3 := Lib.hid (N3.out.touch t4 (fun h => h))
  have O6 := Lib.hid (N6.out.touch t4 (fun h => h))
  have OL := Lib.hid (NL.out.touch t4 (fun h => h))
  have OT := Lib.hid kt
  have HBE4 := Lib.hid (HBE3.out.trans (t4.below HBE3.out.size (fun _ h => h.elim)))
  have hs4 := kt.lt
  clear hw4e t4 kt N2 N3 N6 NL HBE3
  obtain ⟨y1, hy1⟩ : ∃ y1, y1 = z.take 12 ++ ovr ws q := ⟨_, rfl⟩
  have hy1l : y1.length = 16 := by have := HW4.out; rw [row_size] at this; rw [hy1, List.length_append, List.length_take, HZ16.out, ovr_length, this]; rfl
  have hy1n : y1[p * 4 + 2]? = some (n : Int) := by rw [hy1, List.getElem?_append_left (by rw [List.length_take, HZ16.out]; omega), List.getElem?_take, if_pos (by omega)]; exact HN.out
  obtain ⟨y2, hy2⟩ : ∃ y2, y2 = stp hs y1 p := ⟨_, rfl⟩
  have hy2l : y2.length = 16 := by rw [hy2]; exact stp_length hs y1 p hy1l
  have HY1 := Lib.hid hy1
  have HY1L := Lib.hid hy1l
  have HY1N := Lib.hid hy1n
  have HY2 := Lib.hid hy2
  have HY2L := Lib.hid hy2l
  have HRY := Lib.hid (show (row y2).size = 16 by rw [row_size, hy2l])
  clear hy1 hy1l hy1n hy2 hy2l
  dsimp only [Act.put]
  go_cut [] (fun wx => Block wx w.heap.size 80 (row (y2 ++ (A ++ (qrow q ++ C)))) ∧ Block wx (w.heap.size + 1 + 1) 80 #[.int .i64 0, .int .i64 0, .int .i64 0, .int .i64 0, .int .i64 0, .int .i64 0, .int .i64 0, .int .i64 0, .int .i64 0, .int .i64 0, .int .i64 0, .int .i64 0, .int .i64 0, .int .i64 0, .int .i64 0, .int .i64 0, .int .i64 0, .int .i64 0, .int .i64 0, .int .i64 0, .int .i64 0, .int .i64 0, .int .i64 0, .int .i64 0, .int .i64 0, .int .i64 0, .int .i64 0, .int .i64 0, .int .i64 0, .int .i64 0, .int .i64 0, .int .i64 0, .int .i64 0, .int .i64 0, .int .i64 0, .int .i64 0, .int .i64 0, .int .i64 0, .int .i64 0, .int .i64 0, .int .i64 0, .int .i64 0, .int .i64 0, .int .i64 0, .int .i64 0, .int .i64 0, .int .i64 0, .int .i64 0, .int .i64 0] ∧ Block wx w1.heap.size 40 #[.int .i64 lk, .int .i64 lr, .int .i64 ld, .int .i64 lv] ∧ Block wx w3.heap.size 61 (row ws) ∧ Below w.heap.size w wx)
  case first =>
    have hA : ∀ x, Below w4.heap.size w4 x → World.rangeAt x w.heap.size 0 (z.map (Value.int .i64)) := fun x hx => by
      have h := O2.out.below hx O2.out.lt
      rw [HR.out.eq] at h
      exact h.range16
    have hB : ∀ x, Below w4.heap.size w4 x → World.rangeAt x w3.heap.size 0 (ws.map (Value.int .i64)) := fun x hx => by
      have h := OT.out.below hx OT.out.lt
      rw [← List.append_nil ws] at h
      exact h.range16
    have hC : ∀ x, Below w4.heap.size w4 x → World.rangeAt x (w.heap.size + 1) 0 [.int .i64 words, .slice Ah hs.length ch] := fun x hx => by
      have h := O3.out.below hx O3.out.lt
      intro j u hj
      rw [Nat.zero_add, h.cell j]
      simpa using hj
    have hD : ∀ x, Below w4.heap.size w4 x → World.there x w.heap.size 0 (row y2).size := fun x hx => by
      have h := O2.out.below hx O2.out.lt
      rw [HR.out.eq] at h
      exact h.there16 (by rw [HRY.out, HZ16.out])
    have HWM := Lib.hid (show (ws.map (Value.int .i64)).length = 4 by have := HW4.out; rw [row_size] at this; rw [List.length_map, this])
    have HOV := Lib.hid (show (ovr ws q).length = 4 by have := HW4.out; rw [row_size] at this; rw [ovr_length, this])
    have hover : ∀ x, Below w4.heap.size w4 x → Calls Tryd.prog 56 #[.pointer (some ⟨w.heap.size, 16 + p * 11, none⟩), .agg (ws.map (Value.int .i64)).toArray] x fun e w' => e = .returned (.agg (row (ovr ws q))) ∧ Below x.heap.size x w' := fun x hx => by
      have h := O2.out.below hx O2.out.lt
      rw [HR.out.mid.1] at h
      have := rover_any w.heap.size 80 (z ++ A) C q ws x h (Nat.le_of_lt HQ.out) (by have := HW4.out; rwa [row_size] at this) HQ4.out
      rwa [HE.out] at this
    have hstep : ∀ x, Below w4.heap.size w4 x → Calls Tryd.prog 47 #[.agg (row (z.take 12 ++ ovr ws q)), .agg #[.int .i64 words, .slice Ah hs.length ch], .int .i64 p] x fun e w' => e = .returned (.agg (row y2)) ∧ Below x.heap.size x w' := fun x hx => by
      have hb : Below w.heap.size w x := HBE4.out.trans (hx.mono HBE4.out.size)
      have h1 := step_any y1 words _ hs p ls n x ((HH.out.below hb (Nat.le_refl _)).more hb.size) HL.out h3 HY1N.out HY1L.out hw4 h5 HOK.out
      rwa [HY1.out, ← HY1.out, ← HY2.out, HY1.out] at h1
    have hfin : ∀ x, Below w4.heap.size w4 x → Block (x.setCells w.heap.size 0 (row y2).toList) w.heap.size 80 (row (y2 ++ (A ++ (qrow q ++ C)))) ∧ Block (x.setCells w.heap.size 0 (row y2).toList) (w.heap.size + 1 + 1) 80 #[.int .i64 0, .int .i64 0, .int .i64 0, .int .i64 0, .int .i64 0, .int .i64 0, .int .i64 0, .int .i64 0, .int .i64 0, .int .i64 0, .int .i64 0, .int .i64 0, .int .i64 0, .int .i64 0, .int .i64 0, .int .i64 0, .int .i64 0, .int .i64 0, .int .i64 0, .int .i64 0, .int .i64 0, .int .i64 0, .int .i64 0, .int .i64 0, .int .i64 0, .int .i64 0, .int .i64 0, .int .i64 0, .int .i64 0, .int .i64 0, .int .i64 0, .int .i64 0, .int .i64 0, .int .i64 0, .int .i64 0, .int .i64 0, .int .i64 0, .int .i64 0, .int .i64 0, .int .i64 0, .int .i64 0, .int .i64 0, .int .i64 0, .int .i64 0, .int .i64 0, .int .i64 0, .int .i64 0, .int .i64 0, .int .i64 0] ∧ Block (x.setCells w.heap.size 0 (row y2).toList) w1.heap.size 40 #[.int .i64 lk, .int .i64 lr, .int .i64 ld, .int .i64 lv] ∧ Block (x.setCells w.heap.size 0 (row y2).toList) w3.heap.size 61 (row ws) ∧ Below w.heap.size w (x.setCells w.heap.size 0 (row y2).toList) := fun x hx => by
      have ht : Touch (fun k => k = w.heap.size) x (x.setCells w.heap.size 0 (row y2).toList) := touch_setCells (O := fun k => k = w.heap.size) (Touch.refl _ x) (Or.inl rfl) _ _
      have h2 := O2.out.below hx O2.out.lt
      rw [HR.out.eq] at h2
      have hb : Below w.heap.size w x := HBE4.out.trans (hx.mono HBE4.out.size)
      exact ⟨h2.set16 HZ16.out HY2L.out, (O6.out.below hx O6.out.lt).touch ht (by omega), (OL.out.below hx OL.out.lt).touch ht (by omega), (OT.out.below hx OT.out.lt).touch ht (by omega), hb.trans (ht.below hb.size (fun i h => by omega))⟩
    have hb4 : Below w4.heap.size w4 w4.drew := (Below.refl _ w4).drew
    refine wp_region_any (by kernel_rfl) ?_
    refine node_intro (F := wpAny Tryd.prog .any _ _) (fun G hG => ?_)
    have nd_1_3_4_5_6_8_9 : ∀ x, Below w4.heap.size w4 x → G 1 #[true, true, true, true, true, true, true, true, true, true, false] ⟨#[.agg (row zs), .agg #[.int .i64 words, .slice Ah hs.length ch], .int .i64 p, .pointer (some ⟨w.heap.size, 0, none⟩), .pointer (some ⟨w.heap.size + 1, 0, none⟩), undef, .pointer (some ⟨w.heap.size + 1 + 1, 0, none⟩), .pointer (some ⟨w.heap.size, 16 + p * 11, none⟩), .pointer (some ⟨w1.heap.size, 0, none⟩), .bool true, .pointer (some ⟨w3.heap.size, 0, none⟩), u11, u12, u13, u14, u15, u16, u17, u18, u19, u20, u21, u22, u23, u24, u25, u26, u27, u28, u29, u30, u31, u32, u33, u34, u35, u36, u37, u38, u39, .bool false, u41, .pointer (some ⟨w.heap.size, 0, none⟩), .agg (z.map (Value.int .i64)).toArray, .agg (row ws), .pointer (some ⟨w.heap.size, 0, none⟩), .agg (z.map (Value.int .i64)).toArray, .pointer (some ⟨w.heap.size, 16 + p * 11, none⟩), .agg (ws.map (Value.int .i64)).toArray, .agg (row (ovr ws q)), .agg (row (z.take 12 ++ ovr ws q)), .agg #[.int .i64 words, .slice Ah hs.length ch], .int .i64 p, .agg (row y2), .pointer (some ⟨w.heap.size, 0, none⟩), u55, u56, u57, u58, u59, u60, u61, u62, u63, u64, u65, u66, u67, u68, u69, u70, u71, u72, u73, u74, u75, u76, u77], []⟩ x := by
      intro x hb
      rw [hG]
      refine wpAny_ready (rs := [10]) (by kernel_rfl) (by simp) ?_
      refine AllReady.cons rfl (fun K hK => ?_) ?_
      · rw [if_pos (by rfl)]
        refine wp_store_mid 63 (.tmp 54) (.tmp 53) rfl w.heap.size 0 (row y2) rfl rfl (hD _ hb) (by rw [HRY.out]; exact Tst.info) (row_one _) ?_
        refine hK _ _ ?_
        refine wpAny_done (by kernel_rfl) ?_ _
        go_wp2_with fail
        go_meet
        exact hfin _ hb
      exact AllReady.nil
    have nd_1_3_4_5_6_8 : ∀ x, Below w4.heap.size w4 x → G 2 #[true, true, true, true, true, true, true, true, true, false, false] ⟨#[.agg (row zs), .agg #[.int .i64 words, .slice Ah hs.length ch], .int .i64 p, .pointer (some ⟨w.heap.size, 0, none⟩), .pointer (some ⟨w.heap.size + 1, 0, none⟩), undef, .pointer (some ⟨w.heap.size + 1 + 1, 0, none⟩), .pointer (some ⟨w.heap.size, 16 + p * 11, none⟩), .pointer (some ⟨w1.heap.size, 0, none⟩), .bool true, .pointer (some ⟨w3.heap.size, 0, none⟩), u11, u12, u13, u14, u15, u16, u17, u18, u19, u20, u21, u22, u23, u24, u25, u26, u27, u28, u29, u30, u31, u32, u33, u34, u35, u36, u37, u38, u39, .bool false, u41, .pointer (some ⟨w.heap.size, 0, none⟩), .agg (z.map (Value.int .i64)).toArray, .agg (row ws), .pointer (some ⟨w.heap.size, 0, none⟩), .agg (z.map (Value.int .i64)).toArray, .pointer (some ⟨w.heap.size, 16 + p * 11, none⟩), .agg (ws.map (Value.int .i64)).toArray, .agg (row (ovr ws q)), .agg (row (z.take 12 ++ ovr ws q)), .agg #[.int .i64 words, .slice Ah hs.length ch], .int .i64 p, .agg (row y2), u54, u55, u56, u57, u58, u59, u60, u61, u62, u63, u64, u65, u66, u67, u68, u69, u70, u71, u72, u73, u74, u75, u76, u77], []⟩ x := by
      intro x hb
      rw [hG]
      refine wpAny_ready (rs := [9]) (by kernel_rfl) (by simp) ?_
      refine AllReady.cons rfl (fun K hK => ?_) ?_
      · go_simp
        refine hK _ _ ?_
        rw [← hG]
        exact nd_1_3_4_5_6_8_9 _ hb
      exact AllReady.nil
    have nd_1_3_4_5_6 : ∀ x, Below w4.heap.size w4 x → G 3 #[true, true, true, true, true, true, true, true, false, false, false] ⟨#[.agg (row zs), .agg #[.int .i64 words, .slice Ah hs.length ch], .int .i64 p, .pointer (some ⟨w.heap.size, 0, none⟩), .pointer (some ⟨w.heap.size + 1, 0, none⟩), undef, .pointer (some ⟨w.heap.size + 1 + 1, 0, none⟩), .pointer (some ⟨w.heap.size, 16 + p * 11, none⟩), .pointer (some ⟨w1.heap.size, 0, none⟩), .bool true, .pointer (some ⟨w3.heap.size, 0, none⟩), u11, u12, u13, u14, u15, u16, u17, u18, u19, u20, u21, u22, u23, u24, u25, u26, u27, u28, u29, u30, u31, u32, u33, u34, u35, u36, u37, u38, u39, .bool false, u41, .pointer (some ⟨w.heap.size, 0, none⟩), .agg (z.map (Value.int .i64)).toArray, .agg (row ws), .pointer (some ⟨w.heap.size, 0, none⟩), .agg (z.map (Value.int .i64)).toArray, .pointer (some ⟨w.heap.size, 16 + p * 11, none⟩), .agg (ws.map (Value.int .i64)).toArray, .agg (row (ovr ws q)), .agg (row (z.take 12 ++ ovr ws q)), .agg #[.int .i64 words, .slice Ah hs.length ch], .int .i64 p, u53, u54, u55, u56, u57, u58, u59, u60, u61, u62, u63, u64, u65, u66, u67, u68, u69, u70, u71, u72, u73, u74, u75, u76, u77], []⟩ x := by
      intro x hb
      rw [hG]
      refine wpAny_ready (rs := [8]) (by kernel_rfl) (by simp) ?_
      refine AllReady.cons rfl (fun K hK => ?_) ?_
      · go_simp
        refine (hstep _ hb).mono ?_
        rintro e w5 ⟨rfl, hb5⟩
        have hb := hb.trans (hb5.mono hb.size)
        refine hK _ _ ?_
        rw [← hG]
        exact nd_1_3_4_5_6_8 _ hb
      exact AllReady.nil
    have nd_1_3_4_5 : ∀ x, Below w4.heap.size w4 x → G 4 #[true, true, true, true, true, true, false, true, false, false, false] ⟨#[.agg (row zs), .agg #[.int .i64 words, .slice Ah hs.length ch], .int .i64 p, .pointer (some ⟨w.heap.size, 0, none⟩), .pointer (some ⟨w.heap.size + 1, 0, none⟩), undef, .pointer (some ⟨w.heap.size + 1 + 1, 0, none⟩), .pointer (some ⟨w.heap.size, 16 + p * 11, none⟩), .pointer (some ⟨w1.heap.size, 0, none⟩), .bool true, .pointer (some ⟨w3.heap.size, 0, none⟩), u11, u12, u13, u14, u15, u16, u17, u18, u19, u20, u21, u22, u23, u24, u25, u26, u27, u28, u29, u30, u31, u32, u33, u34, u35, u36, u37, u38, u39, .bool false, u41, .pointer (some ⟨w.heap.size, 0, none⟩), .agg (z.map (Value.int .i64)).toArray, .agg (row ws), .pointer (some ⟨w.heap.size, 0, none⟩), .agg (z.map (Value.int .i64)).toArray, .pointer (some ⟨w.heap.size, 16 + p * 11, none⟩), .agg (ws.map (Value.int .i64)).toArray, .agg (row (ovr ws q)), .agg (row (z.take 12 ++ ovr ws q)), u51, .int .i64 p, u53, u54, u55, u56, u57, u58, u59, u60, u61, u62, u63, u64, u65, u66, u67, u68, u69, u70, u71, u72, u73, u74, u75, u76, u77], []⟩ x := by
      intro x hb
      rw [hG]
      refine wpAny_ready (rs := [6]) (by kernel_rfl) (by simp) ?_
      refine AllReady.cons rfl (fun K hK => ?_) ?_
      · rw [if_pos (by rfl)]
        refine wp_load_mid 24 (.tmp 4) rfl (w.heap.size + 1) 0 rfl [.int .i64 words, .slice Ah hs.length ch] _ (hC _ hb) Tryd.underlying24 rfl (Tpr.info) ?_
        refine hK _ _ ?_
        rw [← hG]
        exact nd_1_3_4_5_6 _ hb
      exact AllReady.nil
    have nd_1_3_4_6 : ∀ x, Below w4.heap.size w4 x → G 4 #[true, true, true, true, true, false, true, true, false, false, false] ⟨#[.agg (row zs), .agg #[.int .i64 words, .slice Ah hs.length ch], .int .i64 p, .pointer (some ⟨w.heap.size, 0, none⟩), .pointer (some ⟨w.heap.size + 1, 0, none⟩), undef, .pointer (some ⟨w.heap.size + 1 + 1, 0, none⟩), .pointer (some ⟨w.heap.size, 16 + p * 11, none⟩), .pointer (some ⟨w1.heap.size, 0, none⟩), .bool true, .pointer (some ⟨w3.heap.size, 0, none⟩), u11, u12, u13, u14, u15, u16, u17, u18, u19, u20, u21, u22, u23, u24, u25, u26, u27, u28, u29, u30, u31, u32, u33, u34, u35, u36, u37, u38, u39, .bool false, u41, .pointer (some ⟨w.heap.size, 0, none⟩), .agg (z.map (Value.int .i64)).toArray, .agg (row ws), .pointer (some ⟨w.heap.size, 0, none⟩), .agg (z.map (Value.int .i64)).toArray, .pointer (some ⟨w.heap.size, 16 + p * 11, none⟩), .agg (ws.map (Value.int .i64)).toArray, .agg (row (ovr ws q)), u50, .agg #[.int .i64 words, .slice Ah hs.length ch], .int .i64 p, u53, u54, u55, u56, u57, u58, u59, u60, u61, u62, u63, u64, u65, u66, u67, u68, u69, u70, u71, u72, u73, u74, u75, u76, u77], []⟩ x := by
      intro x hb
      rw [hG]
      refine wpAny_ready (rs := [5]) (by kernel_rfl) (by simp) ?_
      refine AllReady.cons rfl (fun K hK => ?_) ?_
      · go_simp
        refine (with_any z (ovr ws q) _ HZ16.out HOV.out).mono ?_
        rintro e w5 ⟨rfl, hb5⟩
        have hb := hb.trans (hb5.mono hb.size)
        refine hK _ _ ?_
        rw [← hG]
        exact nd_1_3_4_5_6 _ hb
      exact AllReady.nil
    have nd_1_3_6 : ∀ x, Below w4.heap.size w4 x → G 5 #[true, true, true, true, false, false, true, true, false, false, false] ⟨#[.agg (row zs), .agg #[.int .i64 words, .slice Ah hs.length ch], .int .i64 p, .pointer (some ⟨w.heap.size, 0, none⟩), .pointer (some ⟨w.heap.size + 1, 0, none⟩), undef, .pointer (some ⟨w.heap.size + 1 + 1, 0, none⟩), .pointer (some ⟨w.heap.size, 16 + p * 11, none⟩), .pointer (some ⟨w1.heap.size, 0, none⟩), .bool true, .pointer (some ⟨w3.heap.size, 0, none⟩), u11, u12, u13, u14, u15, u16, u17, u18, u19, u20, u21, u22, u23, u24, u25, u26, u27, u28, u29, u30, u31, u32, u33, u34, u35, u36, u37, u38, u39, .bool false, u41, .pointer (some ⟨w.heap.size, 0, none⟩), .agg (z.map (Value.int .i64)).toArray, .agg (row ws), .pointer (some ⟨w.heap.size, 0, none⟩), .agg (z.map (Value.int .i64)).toArray, .pointer (some ⟨w.heap.size, 16 + p * 11, none⟩), .agg (ws.map (Value.int .i64)).toArray, u49, u50, .agg #[.int .i64 words, .slice Ah hs.length ch], .int .i64 p, u53, u54, u55, u56, u57, u58, u59, u60, u61, u62, u63, u64, u65, u66, u67, u68, u69, u70, u71, u72, u73, u74, u75, u76, u77], []⟩ x := by
      intro x hb
      rw [hG]
      refine wpAny_ready (rs := [4]) (by kernel_rfl) (by simp) ?_
      refine AllReady.cons rfl (fun K hK => ?_) ?_
      · go_simp
        refine (hover _ hb).mono ?_
        rintro e w5 ⟨rfl, hb5⟩
        have hb := hb.trans (hb5.mono hb.size)
        refine hK _ _ ?_
        rw [← hG]
        exact nd_1_3_4_6 _ hb
      exact AllReady.nil
    have nd_3_4_6 : ∀ x, Below w4.heap.size w4 x → G 5 #[true, false, true, true, true, false, true, true, false, false, false] ⟨#[.agg (row zs), .agg #[.int .i64 words, .slice Ah hs.length ch], .int .i64 p, .pointer (some ⟨w.heap.size, 0, none⟩), .pointer (some ⟨w.heap.size + 1, 0, none⟩), undef, .pointer (some ⟨w.heap.size + 1 + 1, 0, none⟩), .pointer (some ⟨w.heap.size, 16 + p * 11, none⟩), .pointer (some ⟨w1.heap.size, 0, none⟩), .bool true, .pointer (some ⟨w3.heap.size, 0, none⟩), u11, u12, u13, u14, u15, u16, u17, u18, u19, u20, u21, u22, u23, u24, u25, u26, u27, u28, u29, u30, u31, u32, u33, u34, u35, u36, u37, u38, u39, .bool false, u41, .pointer (some ⟨w.heap.size, 0, none⟩), .agg (z.map (Value.int .i64)).toArray, .agg (row ws), .pointer (some ⟨w.heap.size, 0, none⟩), u46, .pointer (some ⟨w.heap.size, 16 + p * 11, none⟩), .agg (ws.map (Value.int .i64)).toArray, .agg (row (ovr ws q)), u50, .agg #[.int .i64 words, .slice Ah hs.length ch], .int .i64 p, u53, u54, u55, u56, u57, u58, u59, u60, u61, u62, u63, u64, u65, u66, u67, u68, u69, u70, u71, u72, u73, u74, u75, u76, u77], []⟩ x := by
      intro x hb
      rw [hG]
      refine wpAny_ready (rs := [1]) (by kernel_rfl) (by simp) ?_
      refine AllReady.cons rfl (fun K hK => ?_) ?_
      · rw [if_pos (by rfl)]
        refine wp_load_mid 63 (.tmp 45) rfl (w.heap.size) 0 rfl (z.map (Value.int .i64)) _ (hA _ hb) Tryd.underlying63 rfl (by rw [HZ.out]; exact Tst.info) ?_
        refine hK _ _ ?_
        rw [← hG]
        exact nd_1_3_4_6 _ hb
      exact AllReady.nil
    have nd_1_3_4 : ∀ x, Below w4.heap.size w4 x → G 5 #[true, true, true, true, true, false, false, true, false, false, false] ⟨#[.agg (row zs), .agg #[.int .i64 words, .slice Ah hs.length ch], .int .i64 p, .pointer (some ⟨w.heap.size, 0, none⟩), .pointer (some ⟨w.heap.size + 1, 0, none⟩), undef, .pointer (some ⟨w.heap.size + 1 + 1, 0, none⟩), .pointer (some ⟨w.heap.size, 16 + p * 11, none⟩), .pointer (some ⟨w1.heap.size, 0, none⟩), .bool true, .pointer (some ⟨w3.heap.size, 0, none⟩), u11, u12, u13, u14, u15, u16, u17, u18, u19, u20, u21, u22, u23, u24, u25, u26, u27, u28, u29, u30, u31, u32, u33, u34, u35, u36, u37, u38, u39, .bool false, u41, .pointer (some ⟨w.heap.size, 0, none⟩), .agg (z.map (Value.int .i64)).toArray, .agg (row ws), .pointer (some ⟨w.heap.size, 0, none⟩), .agg (z.map (Value.int .i64)).toArray, .pointer (some ⟨w.heap.size, 16 + p * 11, none⟩), .agg (ws.map (Value.int .i64)).toArray, .agg (row (ovr ws q)), u50, u51, .int .i64 p, u53, u54, u55, u56, u57, u58, u59, u60, u61, u62, u63, u64, u65, u66, u67, u68, u69, u70, u71, u72, u73, u74, u75, u76, u77], []⟩ x := by
      intro x hb
      rw [hG]
      refine wpAny_ready (rs := [5, 6]) (by kernel_rfl) (by simp) ?_
      refine AllReady.cons rfl (fun K hK => ?_) ?_
      · go_simp
        refine (with_any z (ovr ws q) _ HZ16.out HOV.out).mono ?_
        rintro e w5 ⟨rfl, hb5⟩
        have hb := hb.trans (hb5.mono hb.size)
        refine hK _ _ ?_
        rw [← hG]
        exact nd_1_3_4_5 _ hb
      refine AllReady.cons rfl (fun K hK => ?_) ?_
      · rw [if_pos (by rfl)]
        refine wp_load_mid 24 (.tmp 4) rfl (w.heap.size + 1) 0 rfl [.int .i64 words, .slice Ah hs.length ch] _ (hC _ hb) Tryd.underlying24 rfl (Tpr.info) ?_
        refine hK _ _ ?_
        rw [← hG]
        exact nd_1_3_4_6 _ hb
      exact AllReady.nil
    have nd_3_4 : ∀ x, Below w4.heap.size w4 x → G 6 #[true, false, true, true, true, false, false, true, false, false, false] ⟨#[.agg (row zs), .agg #[.int .i64 words, .slice Ah hs.length ch], .int .i64 p, .pointer (some ⟨w.heap.size, 0, none⟩), .pointer (some ⟨w.heap.size + 1, 0, none⟩), undef, .pointer (some ⟨w.heap.size + 1 + 1, 0, none⟩), .pointer (some ⟨w.heap.size, 16 + p * 11, none⟩), .pointer (some ⟨w1.heap.size, 0, none⟩), .bool true, .pointer (some ⟨w3.heap.size, 0, none⟩), u11, u12, u13, u14, u15, u16, u17, u18, u19, u20, u21, u22, u23, u24, u25, u26, u27, u28, u29, u30, u31, u32, u33, u34, u35, u36, u37, u38, u39, .bool false, u41, .pointer (some ⟨w.heap.size, 0, none⟩), .agg (z.map (Value.int .i64)).toArray, .agg (row ws), .pointer (some ⟨w.heap.size, 0, none⟩), u46, .pointer (some ⟨w.heap.size, 16 + p * 11, none⟩), .agg (ws.map (Value.int .i64)).toArray, .agg (row (ovr ws q)), u50, u51, .int .i64 p, u53, u54, u55, u56, u57, u58, u59, u60, u61, u62, u63, u64, u65, u66, u67, u68, u69, u70, u71, u72, u73, u74, u75, u76, u77], []⟩ x := by
      intro x hb
      rw [hG]
      refine wpAny_ready (rs := [1, 6]) (by kernel_rfl) (by simp) ?_
      refine AllReady.cons rfl (fun K hK => ?_) ?_
      · rw [if_pos (by rfl)]
        refine wp_load_mid 63 (.tmp 45) rfl (w.heap.size) 0 rfl (z.map (Value.int .i64)) _ (hA _ hb) Tryd.underlying63 rfl (by rw [HZ.out]; exact Tst.info) ?_
        refine hK _ _ ?_
        rw [← hG]
        exact nd_1_3_4 _ hb
      refine AllReady.cons rfl (fun K hK => ?_) ?_
      · rw [if_pos (by rfl)]
        refine wp_load_mid 24 (.tmp 4) rfl (w.heap.size + 1) 0 rfl [.int .i64 words, .slice Ah hs.length ch] _ (hC _ hb) Tryd.underlying24 rfl (Tpr.info) ?_
        refine hK _ _ ?_
        rw [← hG]
        exact nd_3_4_6 _ hb
      exact AllReady.nil
    have nd_3_6 : ∀ x, Below w4.heap.size w4 x → G 6 #[true, false, true, true, false, false, true, true, false, false, false] ⟨#[.agg (row zs), .agg #[.int .i64 words, .slice Ah hs.length ch], .int .i64 p, .pointer (some ⟨w.heap.size, 0, none⟩), .pointer (some ⟨w.heap.size + 1, 0, none⟩), undef, .pointer (some ⟨w.heap.size + 1 + 1, 0, none⟩), .pointer (some ⟨w.heap.size, 16 + p * 11, none⟩), .pointer (some ⟨w1.heap.size, 0, none⟩), .bool true, .pointer (some ⟨w3.heap.size, 0, none⟩), u11, u12, u13, u14, u15, u16, u17, u18, u19, u20, u21, u22, u23, u24, u25, u26, u27, u28, u29, u30, u31, u32, u33, u34, u35, u36, u37, u38, u39, .bool false, u41, .pointer (some ⟨w.heap.size, 0, none⟩), .agg (z.map (Value.int .i64)).toArray, .agg (row ws), .pointer (some ⟨w.heap.size, 0, none⟩), u46, .pointer (some ⟨w.heap.size, 16 + p * 11, none⟩), .agg (ws.map (Value.int .i64)).toArray, u49, u50, .agg #[.int .i64 words, .slice Ah hs.length ch], .int .i64 p, u53, u54, u55, u56, u57, u58, u59, u60, u61, u62, u63, u64, u65, u66, u67, u68, u69, u70, u71, u72, u73, u74, u75, u76, u77], []⟩ x := by
      intro x hb
      rw [hG]
      refine wpAny_ready (rs := [1, 4]) (by kernel_rfl) (by simp) ?_
      refine AllReady.cons rfl (fun K hK => ?_) ?_
      · rw [if_pos (by rfl)]
        refine wp_load_mid 63 (.tmp 45) rfl (w.heap.size) 0 rfl (z.map (Value.int .i64)) _ (hA _ hb) Tryd.underlying63 rfl (by rw [HZ.out]; exact Tst.info) ?_
        refine hK _ _ ?_
        rw [← hG]
        exact nd_1_3_6 _ hb
      refine AllReady.cons rfl (fun K hK => ?_) ?_
      · go_simp
        refine (hover _ hb).mono ?_
        rintro e w5 ⟨rfl, hb5⟩
        have hb := hb.trans (hb5.mono hb.size)
        refine hK _ _ ?_
        rw [← hG]
        exact nd_3_4_6 _ hb
      exact AllReady.nil
    have nd_1_6 : ∀ x, Below w4.heap.size w4 x → G 6 #[true, true, true, false, false, false, true, true, false, false, false] ⟨#[.agg (row zs), .agg #[.int .i64 words, .slice Ah hs.length ch], .int .i64 p, .pointer (some ⟨w.heap.size, 0, none⟩), .pointer (some ⟨w.heap.size + 1, 0, none⟩), undef, .pointer (some ⟨w.heap.size + 1 + 1, 0, none⟩), .pointer (some ⟨w.heap.size, 16 + p * 11, none⟩), .pointer (some ⟨w1.heap.size, 0, none⟩), .bool true, .pointer (some ⟨w3.heap.size, 0, none⟩), u11, u12, u13, u14, u15, u16, u17, u18, u19, u20, u21, u22, u23, u24, u25, u26, u27, u28, u29, u30, u31, u32, u33, u34, u35, u36, u37, u38, u39, .bool false, u41, .pointer (some ⟨w.heap.size, 0, none⟩), .agg (z.map (Value.int .i64)).toArray, .agg (row ws), .pointer (some ⟨w.heap.size, 0, none⟩), .agg (z.map (Value.int .i64)).toArray, .pointer (some ⟨w.heap.size, 16 + p * 11, none⟩), u48, u49, u50, .agg #[.int .i64 words, .slice Ah hs.length ch], .int .i64 p, u53, u54, u55, u56, u57, u58, u59, u60, u61, u62, u63, u64, u65, u66, u67, u68, u69, u70, u71, u72, u73, u74, u75, u76, u77], []⟩ x := by
      intro x hb
      rw [hG]
      refine wpAny_ready (rs := [3]) (by kernel_rfl) (by simp) ?_
      refine AllReady.cons rfl (fun K hK => ?_) ?_
      · rw [if_pos (by rfl)]
        refine wp_load_mid 61 (.tmp 10) rfl (w3.heap.size) 0 rfl (ws.map (Value.int .i64)) _ (hB _ hb) Tryd.underlying61 rfl (by rw [HWM.out]; exact T4.info) ?_
        refine hK _ _ ?_
        rw [← hG]
        exact nd_1_3_6 _ hb
      exact AllReady.nil
    have nd_1_3 : ∀ x, Below w4.heap.size w4 x → G 6 #[true, true, true, true, false, false, false, true, false, false, false] ⟨#[.agg (row zs), .agg #[.int .i64 words, .slice Ah hs.length ch], .int .i64 p, .pointer (some ⟨w.heap.size, 0, none⟩), .pointer (some ⟨w.heap.size + 1, 0, none⟩), undef, .pointer (some ⟨w.heap.size + 1 + 1, 0, none⟩), .pointer (some ⟨w.heap.size, 16 + p * 11, none⟩), .pointer (some ⟨w1.heap.size, 0, none⟩), .bool true, .pointer (some ⟨w3.heap.size, 0, none⟩), u11, u12, u13, u14, u15, u16, u17, u18, u19, u20, u21, u22, u23, u24, u25, u26, u27, u28, u29, u30, u31, u32, u33, u34, u35, u36, u37, u38, u39, .bool false, u41, .pointer (some ⟨w.heap.size, 0, none⟩), .agg (z.map (Value.int .i64)).toArray, .agg (row ws), .pointer (some ⟨w.heap.size, 0, none⟩), .agg (z.map (Value.int .i64)).toArray, .pointer (some ⟨w.heap.size, 16 + p * 11, none⟩), .agg (ws.map (Value.int .i64)).toArray, u49, u50, u51, .int .i64 p, u53, u54, u55, u56, u57, u58, u59, u60, u61, u62, u63, u64, u65, u66, u67, u68, u69, u70, u71, u72, u73, u74, u75, u76, u77], []⟩ x := by
      intro x hb
      rw [hG]
      refine wpAny_ready (rs := [4, 6]) (by kernel_rfl) (by simp) ?_
      refine AllReady.cons rfl (fun K hK => ?_) ?_
      · go_simp
        refine (hover _ hb).mono ?_
        rintro e w5 ⟨rfl, hb5⟩
        have hb := hb.trans (hb5.mono hb.size)
        refine hK _ _ ?_
        rw [← hG]
        exact nd_1_3_4 _ hb
      refine AllReady.cons rfl (fun K hK => ?_) ?_
      · rw [if_pos (by rfl)]
        refine wp_load_mid 24 (.tmp 4) rfl (w.heap.size + 1) 0 rfl [.int .i64 words, .slice Ah hs.length ch] _ (hC _ hb) Tryd.underlying24 rfl (Tpr.info) ?_
        refine hK _ _ ?_
        rw [← hG]
        exact nd_1_3_6 _ hb
      exact AllReady.nil
    have nd_3 : ∀ x, Below w4.heap.size w4 x → G 7 #[true, false, true, true, false, false, false, true, false, false, false] ⟨#[.agg (row zs), .agg #[.int .i64 words, .slice Ah hs.length ch], .int .i64 p, .pointer (some ⟨w.heap.size, 0, none⟩), .pointer (some ⟨w.heap.size + 1, 0, none⟩), undef, .pointer (some ⟨w.heap.size + 1 + 1, 0, none⟩), .pointer (some ⟨w.heap.size, 16 + p * 11, none⟩), .pointer (some ⟨w1.heap.size, 0, none⟩), .bool true, .pointer (some ⟨w3.heap.size, 0, none⟩), u11, u12, u13, u14, u15, u16, u17, u18, u19, u20, u21, u22, u23, u24, u25, u26, u27, u28, u29, u30, u31, u32, u33, u34, u35, u36, u37, u38, u39, .bool false, u41, .pointer (some ⟨w.heap.size, 0, none⟩), .agg (z.map (Value.int .i64)).toArray, .agg (row ws), .pointer (some ⟨w.heap.size, 0, none⟩), u46, .pointer (some ⟨w.heap.size, 16 + p * 11, none⟩), .agg (ws.map (Value.int .i64)).toArray, u49, u50, u51, .int .i64 p, u53, u54, u55, u56, u57, u58, u59, u60, u61, u62, u63, u64, u65, u66, u67, u68, u69, u70, u71, u72, u73, u74, u75, u76, u77], []⟩ x := by
      intro x hb
      rw [hG]
      refine wpAny_ready (rs := [1, 4, 6]) (by kernel_rfl) (by simp) ?_
      refine AllReady.cons rfl (fun K hK => ?_) ?_
      · rw [if_pos (by rfl)]
        refine wp_load_mid 63 (.tmp 45) rfl (w.heap.size) 0 rfl (z.map (Value.int .i64)) _ (hA _ hb) Tryd.underlying63 rfl (by rw [HZ.out]; exact Tst.info) ?_
        refine hK _ _ ?_
        rw [← hG]
        exact nd_1_3 _ hb
      refine AllReady.cons rfl (fun K hK => ?_) ?_
      · go_simp
        refine (hover _ hb).mono ?_
        rintro e w5 ⟨rfl, hb5⟩
        have hb := hb.trans (hb5.mono hb.size)
        refine hK _ _ ?_
        rw [← hG]
        exact nd_3_4 _ hb
      refine AllReady.cons rfl (fun K hK => ?_) ?_
      · rw [if_pos (by rfl)]
        refine wp_load_mid 24 (.tmp 4) rfl (w.heap.size + 1) 0 rfl [.int .i64 words, .slice Ah hs.length ch] _ (hC _ hb) Tryd.underlying24 rfl (Tpr.info) ?_
        refine hK _ _ ?_
        rw [← hG]
        exact nd_3_6 _ hb
      exact AllReady.nil
    have nd_1 : ∀ x, Below w4.heap.size w4 x → G 7 #[true, true, true, false, false, false, false, true, false, false, false] ⟨#[.agg (row zs), .agg #[.int .i64 words, .slice Ah hs.length ch], .int .i64 p, .pointer (some ⟨w.heap.size, 0, none⟩), .pointer (some ⟨w.heap.size + 1, 0, none⟩), undef, .pointer (some ⟨w.heap.size + 1 + 1, 0, none⟩), .pointer (some ⟨w.heap.size, 16 + p * 11, none⟩), .pointer (some ⟨w1.heap.size, 0, none⟩), .bool true, .pointer (some ⟨w3.heap.size, 0, none⟩), u11, u12, u13, u14, u15, u16, u17, u18, u19, u20, u21, u22, u23, u24, u25, u26, u27, u28, u29, u30, u31, u32, u33, u34, u35, u36, u37, u38, u39, .bool false, u41, .pointer (some ⟨w.heap.size, 0, none⟩), .agg (z.map (Value.int .i64)).toArray, .agg (row ws), .pointer (some ⟨w.heap.size, 0, none⟩), .agg (z.map (Value.int .i64)).toArray, .pointer (some ⟨w.heap.size, 16 + p * 11, none⟩), u48, u49, u50, u51, .int .i64 p, u53, u54, u55, u56, u57, u58, u59, u60, u61, u62, u63, u64, u65, u66, u67, u68, u69, u70, u71, u72, u73, u74, u75, u76, u77], []⟩ x := by
      intro x hb
      rw [hG]
      refine wpAny_ready (rs := [3, 6]) (by kernel_rfl) (by simp) ?_
      refine AllReady.cons rfl (fun K hK => ?_) ?_
      · rw [if_pos (by rfl)]
        refine wp_load_mid 61 (.tmp 10) rfl (w3.heap.size) 0 rfl (ws.map (Value.int .i64)) _ (hB _ hb) Tryd.underlying61 rfl (by rw [HWM.out]; exact T4.info) ?_
        refine hK _ _ ?_
        rw [← hG]
        exact nd_1_3 _ hb
      refine AllReady.cons rfl (fun K hK => ?_) ?_
      · rw [if_pos (by rfl)]
        refine wp_load_mid 24 (.tmp 4) rfl (w.heap.size + 1) 0 rfl [.int .i64 words, .slice Ah hs.length ch] _ (hC _ hb) Tryd.underlying24 rfl (Tpr.info) ?_
        refine hK _ _ ?_
        rw [← hG]
        exact nd_1_6 _ hb
      exact AllReady.nil
    have nd_6 : ∀ x, Below w4.heap.size w4 x → G 7 #[true, false, true, false, false, false, true, true, false, false, false] ⟨#[.agg (row zs), .agg #[.int .i64 words, .slice Ah hs.length ch], .int .i64 p, .pointer (some ⟨w.heap.size, 0, none⟩), .pointer (some ⟨w.heap.size + 1, 0, none⟩), undef, .pointer (some ⟨w.heap.size + 1 + 1, 0, none⟩), .pointer (some ⟨w.heap.size, 16 + p * 11, none⟩), .pointer (some ⟨w1.heap.size, 0, none⟩), .bool true, .pointer (some ⟨w3.heap.size, 0, none⟩), u11, u12, u13, u14, u15, u16, u17, u18, u19, u20, u21, u22, u23, u24, u25, u26, u27, u28, u29, u30, u31, u32, u33, u34, u35, u36, u37, u38, u39, .bool false, u41, .pointer (some ⟨w.heap.size, 0, none⟩), .agg (z.map (Value.int .i64)).toArray, .agg (row ws), .pointer (some ⟨w.heap.size, 0, none⟩), u46, .pointer (some ⟨w.heap.size, 16 + p * 11, none⟩), u48, u49, u50, .agg #[.int .i64 words, .slice Ah hs.length ch], .int .i64 p, u53, u54, u55, u56, u57, u58, u59, u60, u61, u62, u63, u64, u65, u66, u67, u68, u69, u70, u71, u72, u73, u74, u75, u76, u77], []⟩ x := by
      intro x hb
      rw [hG]
      refine wpAny_ready (rs := [1, 3]) (by kernel_rfl) (by simp) ?_
      refine AllReady.cons rfl (fun K hK => ?_) ?_
      · rw [if_pos (by rfl)]
        refine wp_load_mid 63 (.tmp 45) rfl (w.heap.size) 0 rfl (z.map (Value.int .i64)) _ (hA _ hb) Tryd.underlying63 rfl (by rw [HZ.out]; exact Tst.info) ?_
        refine hK _ _ ?_
        rw [← hG]
        exact nd_1_6 _ hb
      refine AllReady.cons rfl (fun K hK => ?_) ?_
      · rw [if_pos (by rfl)]
        refine wp_load_mid 61 (.tmp 10) rfl (w3.heap.size) 0 rfl (ws.map (Value.int .i64)) _ (hB _ hb) Tryd.underlying61 rfl (by rw [HWM.out]; exact T4.info) ?_
        refine hK _ _ ?_
        rw [← hG]
        exact nd_3_6 _ hb
      exact AllReady.nil
    have nd : ∀ x, Below w4.heap.size w4 x → G 8 #[true, false, true, false, false, false, false, true, false, false, false] ⟨#[.agg (row zs), .agg #[.int .i64 words, .slice Ah hs.length ch], .int .i64 p, .pointer (some ⟨w.heap.size, 0, none⟩), .pointer (some ⟨w.heap.size + 1, 0, none⟩), undef, .pointer (some ⟨w.heap.size + 1 + 1, 0, none⟩), .pointer (some ⟨w.heap.size, 16 + p * 11, none⟩), .pointer (some ⟨w1.heap.size, 0, none⟩), .bool true, .pointer (some ⟨w3.heap.size, 0, none⟩), u11, u12, u13, u14, u15, u16, u17, u18, u19, u20, u21, u22, u23, u24, u25, u26, u27, u28, u29, u30, u31, u32, u33, u34, u35, u36, u37, u38, u39, .bool false, u41, .pointer (some ⟨w.heap.size, 0, none⟩), .agg (z.map (Value.int .i64)).toArray, .agg (row ws), .pointer (some ⟨w.heap.size, 0, none⟩), u46, .pointer (some ⟨w.heap.size, 16 + p * 11, none⟩), u48, u49, u50, u51, .int .i64 p, u53, u54, u55, u56, u57, u58, u59, u60, u61, u62, u63, u64, u65, u66, u67, u68, u69, u70, u71, u72, u73, u74, u75, u76, u77], []⟩ x := by
      intro x hb
      rw [hG]
      refine wpAny_ready (rs := [1, 3, 6]) (by kernel_rfl) (by simp) ?_
      refine AllReady.cons rfl (fun K hK => ?_) ?_
      · rw [if_pos (by rfl)]
        refine wp_load_mid 63 (.tmp 45) rfl (w.heap.size) 0 rfl (z.map (Value.int .i64)) _ (hA _ hb) Tryd.underlying63 rfl (by rw [HZ.out]; exact Tst.info) ?_
        refine hK _ _ ?_
        rw [← hG]
        exact nd_1 _ hb
      refine AllReady.cons rfl (fun K hK => ?_) ?_
      · rw [if_pos (by rfl)]
        refine wp_load_mid 61 (.tmp 10) rfl (w3.heap.size) 0 rfl (ws.map (Value.int .i64)) _ (hB _ hb) Tryd.underlying61 rfl (by rw [HWM.out]; exact T4.info) ?_
        refine hK _ _ ?_
        rw [← hG]
        exact nd_3 _ hb
      refine AllReady.cons rfl (fun K hK => ?_) ?_
      · rw [if_pos (by rfl)]
        refine wp_load_mid 24 (.tmp 4) rfl (w.heap.size + 1) 0 rfl [.int .i64 words, .slice Ah hs.length ch] _ (hC _ hb) Tryd.underlying24 rfl (Tpr.info) ?_
        refine hK _ _ ?_
        rw [← hG]
        exact nd_6 _ hb
      exact AllReady.nil
    rw [hG]
    change wpAny _ _ _ _ _ _ _ w4.drew
    refine wpAny_take (i := 0) (v := .pointer (some ⟨w.heap.size, 0, none⟩)) rfl (by kernel_rfl) (by kernel_rfl) (by kernel_rfl) (fun _ _ _ h => h) (Or.inl ⟨by rfl, fun x => by go_simp⟩) ?_
    try dsimp only [Act.put]
    refine wpAny_take (i := 2) (v := .pointer (some ⟨w.heap.size, 16 + p * 11, none⟩)) rfl (by kernel_rfl) (by kernel_rfl) (by kernel_rfl) (fun _ _ _ h => h) (Or.inl ⟨by rfl, fun x => by go_simp⟩) ?_
    try dsimp only [Act.put]
    refine wpAny_take (i := 7) (v := .int .i64 p) rfl (by kernel_rfl) (by kernel_rfl) (by kernel_rfl) (fun _ _ _ h => h) (Or.inl ⟨by rfl, fun x => by go_simp⟩) ?_
    try dsimp only [Act.put]
    rw [← hG]
    exact nd _ hb4
  case rest =>
  obtain ⟨p2, p6, pl, pt, hbe5⟩ := hcut
  obtain ⟨w5, rfl⟩ : ∃ w5 : World, w5 = wc := ⟨_, rfl⟩
  have P2 := Lib.hid p2
  have P6 := Lib.hid p6
  have PL := Lib.hid pl
  have PT := Lib.hid pt
  have HBE5 := Lib.hid hbe5
  have c0 := pl.cell 0
  have c2 := pl.cell 2
  simp at c0 c2
  have hs5 := pt.lt
  have hs6 := pl.lt
  clear p2 p6 pl pt hbe5 O2 O3 O6 OL OT HBE4
  have hfit : ∀ y q', y.length = 16 → q'.length ≤ 5 → (row (y ++ (A ++ (qrow q' ++ C)))).size = 49 := fun y q' h1 h2 => by
    rw [row_size, (HR.out.mk' (q' := q') h1 (Nat.le_of_lt HQ.out) h2).len]
  have HFIT := Lib.hid hfit
  clear hfit
  by_cases k3 : lk = 3
  · have k3' : (lk == 3) = true := by simpa using k3
    have HK3 := Lib.hid k3
    have H49 := Lib.hid (HFIT.out y2 q HY2L.out (Nat.le_of_lt HQ.out))
    clear k3
    go_wp2_with (first | (refine wpList_load_row rfl 80 (.tmp 3) rfl w.heap.size rfl _ (row (y2 ++ (A ++ (qrow q ++ C)))) _ _ P2.out Tryd.underlying80 rfl (by rw [H49.out]; exact T64.info) ?_) | (refine wpList_store_row rfl 80 (.tmp 6) (.tmp 58) rfl (w.heap.size + 1 + 1) (row (y2 ++ (A ++ (qrow q ++ C)))) rfl rfl _ _ P6.out (by rw [H49.out]; exact T64.info) (by rw [H49.out]; rfl) (row_one _) ?_))
    have hB := setRow_heap w5 (w.heap.size + 1 + 1) _ (row (y2 ++ (A ++ (qrow q ++ C)))) 80 _ P6.out
    exact bodyPost_ret (v := .agg (row (y2 ++ (A ++ (qrow q ++ C))))) (results_cell_row rfl _ _ (w.heap.size + 1 + 1) _ _ _ _ rfl hB Tryd.underlying80 rfl (by rw [H49.out]; exact T64.info)) rfl ⟨by rw [tso49, if_pos HK3.out, HY2.out, HY1.out, HWS.out], below_setRow HBE5.out (by omega) _⟩
  · have k3' : (lk == 3) = false := by simpa using k3
    by_cases k2 : lk = 2
    · have k2' : (lk == 2) = true := by simpa using k2
      have HK3 := Lib.hid k3
      have HK2 := Lib.hid k2
      clear k3 k2
      obtain ⟨d, hd⟩ : ∃ d : Nat, ld = d := ⟨ld.toNat, by have := HD.out HK2.out; omega⟩
      subst hd
      have hd4 : (d : Int) < 4 := by have := HD.out HK2.out; omega
      have hd0 : (0 : Int) ≤ d := by omega
      go_upto_region 10 with fail
      obtain ⟨v, hv⟩ : ∃ v, v = (y2.drop 12).getD d 0 := ⟨_, rfl⟩
      have hix := index4 (y2.drop 12) d v (by rw [hv]; exact getD_at' (by rw [List.length_drop, HY2L.out]; omega)) (by omega)
      have HV := Lib.hid hv
      clear hv
      go_cut [] (fun wx => Block wx w.heap.size 80 (row (y2 ++ (A ++ (qrow (q ++ [(d, v)]) ++ C)))) ∧ Block wx (w.heap.size + 1 + 1) 80 #[.int .i64 0, .int .i64 0, .int .i64 0, .int .i64 0, .int .i64 0, .int .i64 0, .int .i64 0, .int .i64 0, .int .i64 0, .int .i64 0, .int .i64 0, .int .i64 0, .int .i64 0, .int .i64 0, .int .i64 0, .int .i64 0, .int .i64 0, .int .i64 0, .int .i64 0, .int .i64 0, .int .i64 0, .int .i64 0, .int .i64 0, .int .i64 0, .int .i64 0, .int .i64 0, .int .i64 0, .int .i64 0, .int .i64 0, .int .i64 0, .int .i64 0, .int .i64 0, .int .i64 0, .int .i64 0, .int .i64 0, .int .i64 0, .int .i64 0, .int .i64 0, .int .i64 0, .int .i64 0, .int .i64 0, .int .i64 0, .int .i64 0, .int .i64 0, .int .i64 0, .int .i64 0, .int .i64 0, .int .i64 0, .int .i64 0] ∧ Block wx w3.heap.size 61 (row ws) ∧ Below w.heap.size w wx)
      case first =>
        have hA2 : ∀ x, Below w5.heap.size w5 x → World.rangeAt x w.heap.size 0 (y2.map (Value.int .i64)) := fun x hx => (P2.out.below hx P2.out.lt).range16
        have hE : ∀ x, Below w5.heap.size w5 x → x.cell? ⟨w1.heap.size, 2, none⟩ = some (.int .i64 d) := fun x hx => ((PL.out.below hx PL.out.lt).cell 2).trans rfl
        have hput : ∀ x, Below w5.heap.size w5 x → Calls Tryd.prog 57 #[.pointer (some ⟨w.heap.size, 16 + p * 11, none⟩), .int .i64 d, .int .i64 v] x fun e w' => e = .returned (.tuple #[]) ∧ Touch (fun k => k = w.heap.size) x w' ∧ Block w' w.heap.size 80 (row (y2 ++ (A ++ (qrow (q ++ [(d, v)]) ++ C)))) := fun x hx => by
          have h := P2.out.below hx P2.out.lt
          rw [← List.append_assoc] at h
          have h1 := rput_any w.heap.size 80 (y2 ++ A) C q d v x h HQ.out
          rw [show (y2 ++ A).length = 16 + p * 11 by rw [List.length_append, HY2L.out]; have := HR.out.at_; have := HR.out.z16; omega, List.append_assoc] at h1
          exact h1
        have hfin2 : ∀ x x', Below w5.heap.size w5 x → Touch (fun k => k = w.heap.size) x x' → Block x' w.heap.size 80 (row (y2 ++ (A ++ (qrow (q ++ [(d, v)]) ++ C)))) → Block x' w.heap.size 80 (row (y2 ++ (A ++ (qrow (q ++ [(d, v)]) ++ C)))) ∧ Block x' (w.heap.size + 1 + 1) 80 #[.int .i64 0, .int .i64 0, .int .i64 0, .int .i64 0, .int .i64 0, .int .i64 0, .int .i64 0, .int .i64 0, .int .i64 0, .int .i64 0, .int .i64 0, .int .i64 0, .int .i64 0, .int .i64 0, .int .i64 0, .int .i64 0, .int .i64 0, .int .i64 0, .int .i64 0, .int .i64 0, .int .i64 0, .int .i64 0, .int .i64 0, .int .i64 0, .int .i64 0, .int .i64 0, .int .i64 0, .int .i64 0, .int .i64 0, .int .i64 0, .int .i64 0, .int .i64 0, .int .i64 0, .int .i64 0, .int .i64 0, .int .i64 0, .int .i64 0, .int .i64 0, .int .i64 0, .int .i64 0, .int .i64 0, .int .i64 0, .int .i64 0, .int .i64 0, .int .i64 0, .int .i64 0, .int .i64 0, .int .i64 0, .int .i64 0] ∧ Block x' w3.heap.size 61 (row ws) ∧ Below w.heap.size w x' := fun x x' hx ht hbl => by
          have hb : Below w.heap.size w x := HBE5.out.trans (hx.mono HBE5.out.size)
          exact ⟨hbl, (P6.out.below hx P6.out.lt).touch ht (by omega), (PT.out.below hx PT.out.lt).touch ht (by omega), hb.trans (ht.below hb.size (fun i h => by omega))⟩
        have hb4 : Below w5.heap.size w5 w5.drew := (Below.refl _ w5).drew
        refine wp_region_any (by kernel_rfl) ?_
        refine node_intro (F := wpAny Tryd.prog .any _ _) (fun G hG => ?_)
        have nd_2_4_5_7_8 : ∀ x, Below w5.heap.size w5 x → G 1 #[true, true, true, true, true, true, true, true, true, false] ⟨#[.agg (row zs), .agg #[.int .i64 words, .slice Ah hs.length ch], .int .i64 p, .pointer (some ⟨w.heap.size, 0, none⟩), .pointer (some ⟨w.heap.size + 1, 0, none⟩), undef, .pointer (some ⟨w.heap.size + 1 + 1, 0, none⟩), .pointer (some ⟨w.heap.size, 16 + p * 11, none⟩), .pointer (some ⟨w1.heap.size, 0, none⟩), .bool true, .pointer (some ⟨w3.heap.size, 0, none⟩), u11, u12, u13, u14, u15, u16, u17, u18, u19, u20, u21, u22, u23, u24, u25, u26, u27, u28, u29, u30, u31, u32, u33, u34, u35, u36, u37, u38, u39, u40, u41, u42, u43, u44, u45, u46, u47, u48, u49, u50, u51, u52, u53, u54, .pointer (some ⟨w1.heap.size, 0, none⟩), .int .i64 lk, .bool false, u58, .pointer (some ⟨w1.heap.size, 0, none⟩), .int .i64 lk, .bool true, .pointer (some ⟨w.heap.size, 16 + p * 11, none⟩), .pointer (some ⟨w1.heap.size, 2, none⟩), .int .i64 d, .pointer (some ⟨w.heap.size, 0, none⟩), .agg (y2.map (Value.int .i64)).toArray, .agg (row (y2.drop 12)), .pointer (some ⟨w1.heap.size, 2, none⟩), .int .i64 d, .int .i64 v, u71, u72, u73, u74, u75, u76, u77], []⟩ x := by
          intro x hb
          rw [hG]
          refine wpAny_ready (rs := [9]) (by kernel_rfl) (by simp) ?_
          refine AllReady.cons rfl (fun K hK => ?_) ?_
          · go_simp
            refine (hput _ hb).mono ?_
            rintro e w6 ⟨rfl, ht6, hb6⟩
            refine hK _ _ ?_
            refine wpAny_done (by kernel_rfl) ?_ _
            go_wp2_with fail
            go_meet
            exact hfin2 _ _ hb ht6 hb6
          exact AllReady.nil
        have nd_2_4_5_7 : ∀ x, Below w5.heap.size w5 x → G 2 #[true, true, true, true, true, true, true, true, false, false] ⟨#[.agg (row zs), .agg #[.int .i64 words, .slice Ah hs.length ch], .int .i64 p, .pointer (some ⟨w.heap.size, 0, none⟩), .pointer (some ⟨w.heap.size + 1, 0, none⟩), undef, .pointer (some ⟨w.heap.size + 1 + 1, 0, none⟩), .pointer (some ⟨w.heap.size, 16 + p * 11, none⟩), .pointer (some ⟨w1.heap.size, 0, none⟩), .bool true, .pointer (some ⟨w3.heap.size, 0, none⟩), u11, u12, u13, u14, u15, u16, u17, u18, u19, u20, u21, u22, u23, u24, u25, u26, u27, u28, u29, u30, u31, u32, u33, u34, u35, u36, u37, u38, u39, u40, u41, u42, u43, u44, u45, u46, u47, u48, u49, u50, u51, u52, u53, u54, .pointer (some ⟨w1.heap.size, 0, none⟩), .int .i64 lk, .bool false, u58, .pointer (some ⟨w1.heap.size, 0, none⟩), .int .i64 lk, .bool true, .pointer (some ⟨w.heap.size, 16 + p * 11, none⟩), .pointer (some ⟨w1.heap.size, 2, none⟩), .int .i64 d, .pointer (some ⟨w.heap.size, 0, none⟩), .agg (y2.map (Value.int .i64)).toArray, .agg (row (y2.drop 12)), .pointer (some ⟨w1.heap.size, 2, none⟩), .int .i64 d, u70, u71, u72, u73, u74, u75, u76, u77], []⟩ x := by
          intro x hb
          rw [hG]
          refine wpAny_ready (rs := [8]) (by kernel_rfl) (by simp) ?_
          refine AllReady.cons rfl (fun K hK => ?_) ?_
          · go_simp
            refine hK _ _ ?_
            rw [← hG]
            exact nd_2_4_5_7_8 _ hb
          exact AllReady.nil
        have nd_4_5_7_8 : ∀ x, Below w5.heap.size w5 x → G 2 #[true, true, false, true, true, true, true, true, true, false] ⟨#[.agg (row zs), .agg #[.int .i64 words, .slice Ah hs.length ch], .int .i64 p, .pointer (some ⟨w.heap.size, 0, none⟩), .pointer (some ⟨w.heap.size + 1, 0, none⟩), undef, .pointer (some ⟨w.heap.size + 1 + 1, 0, none⟩), .pointer (some ⟨w.heap.size, 16 + p * 11, none⟩), .pointer (some ⟨w1.heap.size, 0, none⟩), .bool true, .pointer (some ⟨w3.heap.size, 0, none⟩), u11, u12, u13, u14, u15, u16, u17, u18, u19, u20, u21, u22, u23, u24, u25, u26, u27, u28, u29, u30, u31, u32, u33, u34, u35, u36, u37, u38, u39, u40, u41, u42, u43, u44, u45, u46, u47, u48, u49, u50, u51, u52, u53, u54, .pointer (some ⟨w1.heap.size, 0, none⟩), .int .i64 lk, .bool false, u58, .pointer (some ⟨w1.heap.size, 0, none⟩), .int .i64 lk, .bool true, .pointer (some ⟨w.heap.size, 16 + p * 11, none⟩), .pointer (some ⟨w1.heap.size, 2, none⟩), u64, .pointer (some ⟨w.heap.size, 0, none⟩), .agg (y2.map (Value.int .i64)).toArray, .agg (row (y2.drop 12)), .pointer (some ⟨w1.heap.size, 2, none⟩), .int .i64 d, .int .i64 v, u71, u72, u73, u74, u75, u76, u77], []⟩ x := by
          intro x hb
          rw [hG]
          refine wpAny_ready (rs := [2]) (by kernel_rfl) (by simp) ?_
          refine AllReady.cons rfl (fun K hK => ?_) ?_
          · have hcell := hE x hb
            go_simp
            refine hK _ _ ?_
            rw [← hG]
            exact nd_2_4_5_7_8 _ hb
          exact AllReady.nil
        have nd_2_4_5 : ∀ x, Below w5.heap.size w5 x → G 3 #[true, true, true, true, true, true, true, false, false, false] ⟨#[.agg (row zs), .agg #[.int .i64 words, .slice Ah hs.length ch], .int .i64 p, .pointer (some ⟨w.heap.size, 0, none⟩), .pointer (some ⟨w.heap.size + 1, 0, none⟩), undef, .pointer (some ⟨w.heap.size + 1 + 1, 0, none⟩), .pointer (some ⟨w.heap.size, 16 + p * 11, none⟩), .pointer (some ⟨w1.heap.size, 0, none⟩), .bool true, .pointer (some ⟨w3.heap.size, 0, none⟩), u11, u12, u13, u14, u15, u16, u17, u18, u19, u20, u21, u22, u23, u24, u25, u26, u27, u28, u29, u30, u31, u32, u33, u34, u35, u36, u37, u38, u39, u40, u41, u42, u43, u44, u45, u46, u47, u48, u49, u50, u51, u52, u53, u54, .pointer (some ⟨w1.heap.size, 0, none⟩), .int .i64 lk, .bool false, u58, .pointer (some ⟨w1.heap.size, 0, none⟩), .int .i64 lk, .bool true, .pointer (some ⟨w.heap.size, 16 + p * 11, none⟩), .pointer (some ⟨w1.heap.size, 2, none⟩), .int .i64 d, .pointer (some ⟨w.heap.size, 0, none⟩), .agg (y2.map (Value.int .i64)).toArray, .agg (row (y2.drop 12)), .pointer (some ⟨w1.heap.size, 2, none⟩), u69, u70, u71, u72, u73, u74, u75, u76, u77], []⟩ x := by
          intro x hb
          rw [hG]
          refine wpAny_ready (rs := [7]) (by kernel_rfl) (by simp) ?_
          refine AllReady.cons rfl (fun K hK => ?_) ?_
          · have hcell := hE x hb
            go_simp
            refine hK _ _ ?_
            rw [← hG]
            exact nd_2_4_5_7 _ hb
          exact AllReady.nil
        have nd_2_4_7 : ∀ x, Below w5.heap.size w5 x → G 3 #[true, true, true, true, true, false, true, true, false, false] ⟨#[.agg (row zs), .agg #[.int .i64 words, .slice Ah hs.length ch], .int .i64 p, .pointer (some ⟨w.heap.size, 0, none⟩), .pointer (some ⟨w.heap.size + 1, 0, none⟩), undef, .pointer (some ⟨w.heap.size + 1 + 1, 0, none⟩), .pointer (some ⟨w.heap.size, 16 + p * 11, none⟩), .pointer (some ⟨w1.heap.size, 0, none⟩), .bool true, .pointer (some ⟨w3.heap.size, 0, none⟩), u11, u12, u13, u14, u15, u16, u17, u18, u19, u20, u21, u22, u23, u24, u25, u26, u27, u28, u29, u30, u31, u32, u33, u34, u35, u36, u37, u38, u39, u40, u41, u42, u43, u44, u45, u46, u47, u48, u49, u50, u51, u52, u53, u54, .pointer (some ⟨w1.heap.size, 0, none⟩), .int .i64 lk, .bool false, u58, .pointer (some ⟨w1.heap.size, 0, none⟩), .int .i64 lk, .bool true, .pointer (some ⟨w.heap.size, 16 + p * 11, none⟩), .pointer (some ⟨w1.heap.size, 2, none⟩), .int .i64 d, .pointer (some ⟨w.heap.size, 0, none⟩), .agg (y2.map (Value.int .i64)).toArray, u67, .pointer (some ⟨w1.heap.size, 2, none⟩), .int .i64 d, u70, u71, u72, u73, u74, u75, u76, u77], []⟩ x := by
          intro x hb
          rw [hG]
          refine wpAny_ready (rs := [5]) (by kernel_rfl) (by simp) ?_
          refine AllReady.cons rfl (fun K hK => ?_) ?_
          · go_simp
            refine (words_any y2 _ HY2L.out).mono ?_
            rintro e w6 ⟨rfl, hb6⟩
            have hb := hb.trans (hb6.mono hb.size)
            refine hK _ _ ?_
            rw [← hG]
            exact nd_2_4_5_7 _ hb
          exact AllReady.nil
        have nd_4_5_7 : ∀ x, Below w5.heap.size w5 x → G 3 #[true, true, false, true, true, true, true, true, false, false] ⟨#[.agg (row zs), .agg #[.int .i64 words, .slice Ah hs.length ch], .int .i64 p, .pointer (some ⟨w.heap.size, 0, none⟩), .pointer (some ⟨w.heap.size + 1, 0, none⟩), undef, .pointer (some ⟨w.heap.size + 1 + 1, 0, none⟩), .pointer (some ⟨w.heap.size, 16 + p * 11, none⟩), .pointer (some ⟨w1.heap.size, 0, none⟩), .bool true, .pointer (some ⟨w3.heap.size, 0, none⟩), u11, u12, u13, u14, u15, u16, u17, u18, u19, u20, u21, u22, u23, u24, u25, u26, u27, u28, u29, u30, u31, u32, u33, u34, u35, u36, u37, u38, u39, u40, u41, u42, u43, u44, u45, u46, u47, u48, u49, u50, u51, u52, u53, u54, .pointer (some ⟨w1.heap.size, 0, none⟩), .int .i64 lk, .bool false, u58, .pointer (some ⟨w1.heap.size, 0, none⟩), .int .i64 lk, .bool true, .pointer (some ⟨w.heap.size, 16 + p * 11, none⟩), .pointer (some ⟨w1.heap.size, 2, none⟩), u64, .pointer (some ⟨w.heap.size, 0, none⟩), .agg (y2.map (Value.int .i64)).toArray, .agg (row (y2.drop 12)), .pointer (some ⟨w1.heap.size, 2, none⟩), .int .i64 d, u70, u71, u72, u73, u74, u75, u76, u77], []⟩ x := by
          intro x hb
          rw [hG]
          refine wpAny_ready (rs := [2, 8]) (by kernel_rfl) (by simp) ?_
          refine AllReady.cons rfl (fun K hK => ?_) ?_
          · have hcell := hE x hb
            go_simp
            refine hK _ _ ?_
            rw [← hG]
            exact nd_2_4_5_7 _ hb
          refine AllReady.cons rfl (fun K hK => ?_) ?_
          · go_simp
            refine hK _ _ ?_
            rw [← hG]
            exact nd_4_5_7_8 _ hb
          exact AllReady.nil
        have nd_4_5 : ∀ x, Below w5.heap.size w5 x → G 4 #[true, true, false, true, true, true, true, false, false, false] ⟨#[.agg (row zs), .agg #[.int .i64 words, .slice Ah hs.length ch], .int .i64 p, .pointer (some ⟨w.heap.size, 0, none⟩), .pointer (some ⟨w.heap.size + 1, 0, none⟩), undef, .pointer (some ⟨w.heap.size + 1 + 1, 0, none⟩), .pointer (some ⟨w.heap.size, 16 + p * 11, none⟩), .pointer (some ⟨w1.heap.size, 0, none⟩), .bool true, .pointer (some ⟨w3.heap.size, 0, none⟩), u11, u12, u13, u14, u15, u16, u17, u18, u19, u20, u21, u22, u23, u24, u25, u26, u27, u28, u29, u30, u31, u32, u33, u34, u35, u36, u37, u38, u39, u40, u41, u42, u43, u44, u45, u46, u47, u48, u49, u50, u51, u52, u53, u54, .pointer (some ⟨w1.heap.size, 0, none⟩), .int .i64 lk, .bool false, u58, .pointer (some ⟨w1.heap.size, 0, none⟩), .int .i64 lk, .bool true, .pointer (some ⟨w.heap.size, 16 + p * 11, none⟩), .pointer (some ⟨w1.heap.size, 2, none⟩), u64, .pointer (some ⟨w.heap.size, 0, none⟩), .agg (y2.map (Value.int .i64)).toArray, .agg (row (y2.drop 12)), .pointer (some ⟨w1.heap.size, 2, none⟩), u69, u70, u71, u72, u73, u74, u75, u76, u77], []⟩ x := by
          intro x hb
          rw [hG]
          refine wpAny_ready (rs := [2, 7]) (by kernel_rfl) (by simp) ?_
          refine AllReady.cons rfl (fun K hK => ?_) ?_
          · have hcell := hE x hb
            go_simp
            refine hK _ _ ?_
            rw [← hG]
            exact nd_2_4_5 _ hb
          refine AllReady.cons rfl (fun K hK => ?_) ?_
          · have hcell := hE x hb
            go_simp
            refine hK _ _ ?_
            rw [← hG]
            exact nd_4_5_7 _ hb
          exact AllReady.nil
        have nd_2_4 : ∀ x, Below w5.heap.size w5 x → G 4 #[true, true, true, true, true, false, true, false, false, false] ⟨#[.agg (row zs), .agg #[.int .i64 words, .slice Ah hs.length ch], .int .i64 p, .pointer (some ⟨w.heap.size, 0, none⟩), .pointer (some ⟨w.heap.size + 1, 0, none⟩), undef, .pointer (some ⟨w.heap.size + 1 + 1, 0, none⟩), .pointer (some ⟨w.heap.size, 16 + p * 11, none⟩), .pointer (some ⟨w1.heap.size, 0, none⟩), .bool true, .pointer (some ⟨w3.heap.size, 0, none⟩), u11, u12, u13, u14, u15, u16, u17, u18, u19, u20, u21, u22, u23, u24, u25, u26, u27, u28, u29, u30, u31, u32, u33, u34, u35, u36, u37, u38, u39, u40, u41, u42, u43, u44, u45, u46, u47, u48, u49, u50, u51, u52, u53, u54, .pointer (some ⟨w1.heap.size, 0, none⟩), .int .i64 lk, .bool false, u58, .pointer (some ⟨w1.heap.size, 0, none⟩), .int .i64 lk, .bool true, .pointer (some ⟨w.heap.size, 16 + p * 11, none⟩), .pointer (some ⟨w1.heap.size, 2, none⟩), .int .i64 d, .pointer (some ⟨w.heap.size, 0, none⟩), .agg (y2.map (Value.int .i64)).toArray, u67, .pointer (some ⟨w1.heap.size, 2, none⟩), u69, u70, u71, u72, u73, u74, u75, u76, u77], []⟩ x := by
          intro x hb
          rw [hG]
          refine wpAny_ready (rs := [5, 7]) (by kernel_rfl) (by simp) ?_
          refine AllReady.cons rfl (fun K hK => ?_) ?_
          · go_simp
            refine (words_any y2 _ HY2L.out).mono ?_
            rintro e w6 ⟨rfl, hb6⟩
            have hb := hb.trans (hb6.mono hb.size)
            refine hK _ _ ?_
            rw [← hG]
            exact nd_2_4_5 _ hb
          refine AllReady.cons rfl (fun K hK => ?_) ?_
          · have hcell := hE x hb
            go_simp
            refine hK _ _ ?_
            rw [← hG]
            exact nd_2_4_7 _ hb
          exact AllReady.nil
        have nd_2_7 : ∀ x, Below w5.heap.size w5 x → G 4 #[true, true, true, true, false, false, true, true, false, false] ⟨#[.agg (row zs), .agg #[.int .i64 words, .slice Ah hs.length ch], .int .i64 p, .pointer (some ⟨w.heap.size, 0, none⟩), .pointer (some ⟨w.heap.size + 1, 0, none⟩), undef, .pointer (some ⟨w.heap.size + 1 + 1, 0, none⟩), .pointer (some ⟨w.heap.size, 16 + p * 11, none⟩), .pointer (some ⟨w1.heap.size, 0, none⟩), .bool true, .pointer (some ⟨w3.heap.size, 0, none⟩), u11, u12, u13, u14, u15, u16, u17, u18, u19, u20, u21, u22, u23, u24, u25, u26, u27, u28, u29, u30, u31, u32, u33, u34, u35, u36, u37, u38, u39, u40, u41, u42, u43, u44, u45, u46, u47, u48, u49, u50, u51, u52, u53, u54, .pointer (some ⟨w1.heap.size, 0, none⟩), .int .i64 lk, .bool false, u58, .pointer (some ⟨w1.heap.size, 0, none⟩), .int .i64 lk, .bool true, .pointer (some ⟨w.heap.size, 16 + p * 11, none⟩), .pointer (some ⟨w1.heap.size, 2, none⟩), .int .i64 d, .pointer (some ⟨w.heap.size, 0, none⟩), u66, u67, .pointer (some ⟨w1.heap.size, 2, none⟩), .int .i64 d, u70, u71, u72, u73, u74, u75, u76, u77], []⟩ x := by
          intro x hb
          rw [hG]
          refine wpAny_ready (rs := [4]) (by kernel_rfl) (by simp) ?_
          refine AllReady.cons rfl (fun K hK => ?_) ?_
          · rw [if_pos (by rfl)]
            refine wp_load_mid 63 (.tmp 65) rfl (w.heap.size) 0 rfl (y2.map (Value.int .i64)) _ (hA2 _ hb) Tryd.underlying63 rfl (by rw [List.length_map, HY2L.out]; exact Tst.info) ?_
            refine hK _ _ ?_
            rw [← hG]
            exact nd_2_4_7 _ hb
          exact AllReady.nil
        have nd_4_7 : ∀ x, Below w5.heap.size w5 x → G 4 #[true, true, false, true, true, false, true, true, false, false] ⟨#[.agg (row zs), .agg #[.int .i64 words, .slice Ah hs.length ch], .int .i64 p, .pointer (some ⟨w.heap.size, 0, none⟩), .pointer (some ⟨w.heap.size + 1, 0, none⟩), undef, .pointer (some ⟨w.heap.size + 1 + 1, 0, none⟩), .pointer (some ⟨w.heap.size, 16 + p * 11, none⟩), .pointer (some ⟨w1.heap.size, 0, none⟩), .bool true, .pointer (some ⟨w3.heap.size, 0, none⟩), u11, u12, u13, u14, u15, u16, u17, u18, u19, u20, u21, u22, u23, u24, u25, u26, u27, u28, u29, u30, u31, u32, u33, u34, u35, u36, u37, u38, u39, u40, u41, u42, u43, u44, u45, u46, u47, u48, u49, u50, u51, u52, u53, u54, .pointer (some ⟨w1.heap.size, 0, none⟩), .int .i64 lk, .bool false, u58, .pointer (some ⟨w1.heap.size, 0, none⟩), .int .i64 lk, .bool true, .pointer (some ⟨w.heap.size, 16 + p * 11, none⟩), .pointer (some ⟨w1.heap.size, 2, none⟩), u64, .pointer (some ⟨w.heap.size, 0, none⟩), .agg (y2.map (Value.int .i64)).toArray, u67, .pointer (some ⟨w1.heap.size, 2, none⟩), .int .i64 d, u70, u71, u72, u73, u74, u75, u76, u77], []⟩ x := by
          intro x hb
          rw [hG]
          refine wpAny_ready (rs := [2, 5]) (by kernel_rfl) (by simp) ?_
          refine AllReady.cons rfl (fun K hK => ?_) ?_
          · have hcell := hE x hb
            go_simp
            refine hK _ _ ?_
            rw [← hG]
            exact nd_2_4_7 _ hb
          refine AllReady.cons rfl (fun K hK => ?_) ?_
          · go_simp
            refine (words_any y2 _ HY2L.out).mono ?_
            rintro e w6 ⟨rfl, hb6⟩
            have hb := hb.trans (hb6.mono hb.size)
            refine hK _ _ ?_
            rw [← hG]
            exact nd_4_5_7 _ hb
          exact AllReady.nil
        have nd_4 : ∀ x, Below w5.heap.size w5 x → G 5 #[true, true, false, true, true, false, true, false, false, false] ⟨#[.agg (row zs), .agg #[.int .i64 words, .slice Ah hs.length ch], .int .i64 p, .pointer (some ⟨w.heap.size, 0, none⟩), .pointer (some ⟨w.heap.size + 1, 0, none⟩), undef, .pointer (some ⟨w.heap.size + 1 + 1, 0, none⟩), .pointer (some ⟨w.heap.size, 16 + p * 11, none⟩), .pointer (some ⟨w1.heap.size, 0, none⟩), .bool true, .pointer (some ⟨w3.heap.size, 0, none⟩), u11, u12, u13, u14, u15, u16, u17, u18, u19, u20, u21, u22, u23, u24, u25, u26, u27, u28, u29, u30, u31, u32, u33, u34, u35, u36, u37, u38, u39, u40, u41, u42, u43, u44, u45, u46, u47, u48, u49, u50, u51, u52, u53, u54, .pointer (some ⟨w1.heap.size, 0, none⟩), .int .i64 lk, .bool false, u58, .pointer (some ⟨w1.heap.size, 0, none⟩), .int .i64 lk, .bool true, .pointer (some ⟨w.heap.size, 16 + p * 11, none⟩), .pointer (some ⟨w1.heap.size, 2, none⟩), u64, .pointer (some ⟨w.heap.size, 0, none⟩), .agg (y2.map (Value.int .i64)).toArray, u67, .pointer (some ⟨w1.heap.size, 2, none⟩), u69, u70, u71, u72, u73, u74, u75, u76, u77], []⟩ x := by
          intro x hb
          rw [hG]
          refine wpAny_ready (rs := [2, 5, 7]) (by kernel_rfl) (by simp) ?_
          refine AllReady.cons rfl (fun K hK => ?_) ?_
          · have hcell := hE x hb
            go_simp
            refine hK _ _ ?_
            rw [← hG]
            exact nd_2_4 _ hb
          refine AllReady.cons rfl (fun K hK => ?_) ?_
          · go_simp
            refine (words_any y2 _ HY2L.out).mono ?_
            rintro e w6 ⟨rfl, hb6⟩
            have hb := hb.trans (hb6.mono hb.size)
            refine hK _ _ ?_
            rw [← hG]
            exact nd_4_5 _ hb
          refine AllReady.cons rfl (fun K hK => ?_) ?_
          · have hcell := hE x hb
            go_simp
            refine hK _ _ ?_
            rw [← hG]
            exact nd_4_7 _ hb
          exact AllReady.nil
        have nd_2 : ∀ x, Below w5.heap.size w5 x → G 5 #[true, true, true, true, false, false, true, false, false, false] ⟨#[.agg (row zs), .agg #[.int .i64 words, .slice Ah hs.length ch], .int .i64 p, .pointer (some ⟨w.heap.size, 0, none⟩), .pointer (some ⟨w.heap.size + 1, 0, none⟩), undef, .pointer (some ⟨w.heap.size + 1 + 1, 0, none⟩), .pointer (some ⟨w.heap.size, 16 + p * 11, none⟩), .pointer (some ⟨w1.heap.size, 0, none⟩), .bool true, .pointer (some ⟨w3.heap.size, 0, none⟩), u11, u12, u13, u14, u15, u16, u17, u18, u19, u20, u21, u22, u23, u24, u25, u26, u27, u28, u29, u30, u31, u32, u33, u34, u35, u36, u37, u38, u39, u40, u41, u42, u43, u44, u45, u46, u47, u48, u49, u50, u51, u52, u53, u54, .pointer (some ⟨w1.heap.size, 0, none⟩), .int .i64 lk, .bool false, u58, .pointer (some ⟨w1.heap.size, 0, none⟩), .int .i64 lk, .bool true, .pointer (some ⟨w.heap.size, 16 + p * 11, none⟩), .pointer (some ⟨w1.heap.size, 2, none⟩), .int .i64 d, .pointer (some ⟨w.heap.size, 0, none⟩), u66, u67, .pointer (some ⟨w1.heap.size, 2, none⟩), u69, u70, u71, u72, u73, u74, u75, u76, u77], []⟩ x := by
          intro x hb
          rw [hG]
          refine wpAny_ready (rs := [4, 7]) (by kernel_rfl) (by simp) ?_
          refine AllReady.cons rfl (fun K hK => ?_) ?_
          · rw [if_pos (by rfl)]
            refine wp_load_mid 63 (.tmp 65) rfl (w.heap.size) 0 rfl (y2.map (Value.int .i64)) _ (hA2 _ hb) Tryd.underlying63 rfl (by rw [List.length_map, HY2L.out]; exact Tst.info) ?_
            refine hK _ _ ?_
            rw [← hG]
            exact nd_2_4 _ hb
          refine AllReady.cons rfl (fun K hK => ?_) ?_
          · have hcell := hE x hb
            go_simp
            refine hK _ _ ?_
            rw [← hG]
            exact nd_2_7 _ hb
          exact AllReady.nil
        have nd_7 : ∀ x, Below w5.heap.size w5 x → G 5 #[true, true, false, true, false, false, true, true, false, false] ⟨#[.agg (row zs), .agg #[.int .i64 words, .slice Ah hs.length ch], .int .i64 p, .pointer (some ⟨w.heap.size, 0, none⟩), .pointer (some ⟨w.heap.size + 1, 0, none⟩), undef, .pointer (some ⟨w.heap.size + 1 + 1, 0, none⟩), .pointer (some ⟨w.heap.size, 16 + p * 11, none⟩), .pointer (some ⟨w1.heap.size, 0, none⟩), .bool true, .pointer (some ⟨w3.heap.size, 0, none⟩), u11, u12, u13, u14, u15, u16, u17, u18, u19, u20, u21, u22, u23, u24, u25, u26, u27, u28, u29, u30, u31, u32, u33, u34, u35, u36, u37, u38, u39, u40, u41, u42, u43, u44, u45, u46, u47, u48, u49, u50, u51, u52, u53, u54, .pointer (some ⟨w1.heap.size, 0, none⟩), .int .i64 lk, .bool false, u58, .pointer (some ⟨w1.heap.size, 0, none⟩), .int .i64 lk, .bool true, .pointer (some ⟨w.heap.size, 16 + p * 11, none⟩), .pointer (some ⟨w1.heap.size, 2, none⟩), u64, .pointer (some ⟨w.heap.size, 0, none⟩), u66, u67, .pointer (some ⟨w1.heap.size, 2, none⟩), .int .i64 d, u70, u71, u72, u73, u74, u75, u76, u77], []⟩ x := by
          intro x hb
          rw [hG]
          refine wpAny_ready (rs := [2, 4]) (by kernel_rfl) (by simp) ?_
          refine AllReady.cons rfl (fun K hK => ?_) ?_
          · have hcell := hE x hb
            go_simp
            refine hK _ _ ?_
            rw [← hG]
            exact nd_2_7 _ hb
          refine AllReady.cons rfl (fun K hK => ?_) ?_
          · rw [if_pos (by rfl)]
            refine wp_load_mid 63 (.tmp 65) rfl (w.heap.size) 0 rfl (y2.map (Value.int .i64)) _ (hA2 _ hb) Tryd.underlying63 rfl (by rw [List.length_map, HY2L.out]; exact Tst.info) ?_
            refine hK _ _ ?_
            rw [← hG]
            exact nd_4_7 _ hb
          exact AllReady.nil
        have nd : ∀ x, Below w5.heap.size w5 x → G 6 #[true, true, false, true, false, false, true, false, false, false] ⟨#[.agg (row zs), .agg #[.int .i64 words, .slice Ah hs.length ch], .int .i64 p, .pointer (some ⟨w.heap.size, 0, none⟩), .pointer (some ⟨w.heap.size + 1, 0, none⟩), undef, .pointer (some ⟨w.heap.size + 1 + 1, 0, none⟩), .pointer (some ⟨w.heap.size, 16 + p * 11, none⟩), .pointer (some ⟨w1.heap.size, 0, none⟩), .bool true, .pointer (some ⟨w3.heap.size, 0, none⟩), u11, u12, u13, u14, u15, u16, u17, u18, u19, u20, u21, u22, u23, u24, u25, u26, u27, u28, u29, u30, u31, u32, u33, u34, u35, u36, u37, u38, u39, u40, u41, u42, u43, u44, u45, u46, u47, u48, u49, u50, u51, u52, u53, u54, .pointer (some ⟨w1.heap.size, 0, none⟩), .int .i64 lk, .bool false, u58, .pointer (some ⟨w1.heap.size, 0, none⟩), .int .i64 lk, .bool true, .pointer (some ⟨w.heap.size, 16 + p * 11, none⟩), .pointer (some ⟨w1.heap.size, 2, none⟩), u64, .pointer (some ⟨w.heap.size, 0, none⟩), u66, u67, .pointer (some ⟨w1.heap.size, 2, none⟩), u69, u70, u71, u72, u73, u74, u75, u76, u77], []⟩ x := by
          intro x hb
          rw [hG]
          refine wpAny_ready (rs := [2, 4, 7]) (by kernel_rfl) (by simp) ?_
          refine AllReady.cons rfl (fun K hK => ?_) ?_
          · have hcell := hE x hb
            go_simp
            refine hK _ _ ?_
            rw [← hG]
            exact nd_2 _ hb
          refine AllReady.cons rfl (fun K hK => ?_) ?_
          · rw [if_pos (by rfl)]
            refine wp_load_mid 63 (.tmp 65) rfl (w.heap.size) 0 rfl (y2.map (Value.int .i64)) _ (hA2 _ hb) Tryd.underlying63 rfl (by rw [List.length_map, HY2L.out]; exact Tst.info) ?_
            refine hK _ _ ?_
            rw [← hG]
            exact nd_4 _ hb
          refine AllReady.cons rfl (fun K hK => ?_) ?_
          · have hcell := hE x hb
            go_simp
            refine hK _ _ ?_
            rw [← hG]
            exact nd_7 _ hb
          exact AllReady.nil
        rw [hG]
        change wpAny _ _ _ _ _ _ _ w5.drew
        refine wpAny_take (i := 0) (v := .pointer (some ⟨w.heap.size, 16 + p * 11, none⟩)) rfl (by kernel_rfl) (by kernel_rfl) (by kernel_rfl) (fun _ _ _ h => h) (Or.inl ⟨by rfl, fun x => by go_simp⟩) ?_
        try dsimp only [Act.put]
        refine wpAny_take (i := 1) (v := .pointer (some ⟨w1.heap.size, 2, none⟩)) rfl (by kernel_rfl) (by kernel_rfl) (by kernel_rfl) (fun _ _ _ h => h) (Or.inl ⟨by rfl, fun x => by go_simp⟩) ?_
        try dsimp only [Act.put]
        refine wpAny_take (i := 3) (v := .pointer (some ⟨w.heap.size, 0, none⟩)) rfl (by kernel_rfl) (by kernel_rfl) (by kernel_rfl) (fun _ _ _ h => h) (Or.inl ⟨by rfl, fun x => by go_simp⟩) ?_
        try dsimp only [Act.put]
        refine wpAny_take (i := 6) (v := .pointer (some ⟨w1.heap.size, 2, none⟩)) rfl (by kernel_rfl) (by kernel_rfl) (by kernel_rfl) (fun _ _ _ h => h) (Or.inl ⟨by rfl, fun x => by go_simp⟩) ?_
        try dsimp only [Act.put]
        rw [← hG]
        exact nd _ hb4
      case rest =>
      obtain ⟨s2, s6, st, hbz⟩ := hcut
      obtain ⟨wz, rfl⟩ : ∃ wz : World, wz = wc := ⟨_, rfl⟩
      have S2 := Lib.hid s2
      have S6 := Lib.hid s6
      have ST := Lib.hid st
      have HBZ := Lib.hid hbz
      have hs7 := st.lt
      clear s2 s6 st hbz hix P2 P6 PL PT HBE5 c0 c2
      have hz' : (y2.take 12 ++ ws).length = 16 := by have := HW4.out; rw [row_size] at this; rw [List.length_append, List.length_take, HY2L.out, this]; rfl
      have HZ' := Lib.hid hz'
      have HRZ := Lib.hid (show (row (y2.take 12 ++ ws)).size = 16 by rw [row_size, hz'])
      clear hz'
      go_wp2_with (first | (refine wpList_load_mid rfl 63 (.tmp 72) rfl w.heap.size 0 rfl (y2.map (Value.int .i64)) _ S2.out.range16 Tryd.underlying63 rfl (by rw [List.length_map, HY2L.out]; exact Tst.info) ?_) | (refine wpList_load_row rfl 61 (.tmp 10) rfl w3.heap.size rfl _ (row ws) _ _ ST.out Tryd.underlying61 rfl (by rw [HW4.out]; exact T4.info) ?_))
      refine (with_any y2 ws wz HY2L.out (by have := HW4.out; rwa [row_size] at this)).mono ?_
      rintro e w6 ⟨rfl, hb6⟩
      have q2 := S2.out.below hb6 S2.out.lt
      have q6 := S6.out.below hb6 S6.out.lt
      have HBE6 := Lib.hid (HBZ.out.trans (hb6.mono HBZ.out.size))
      have Q2 := Lib.hid q2
      have Q6 := Lib.hid q6
      clear hb6 q2 q6 S2 S6 ST HBZ
      go_upto_region 12 with (refine wpList_store_mid rfl 63 (.tmp 76) (.tmp 75) rfl w.heap.size 0 (row (y2.take 12 ++ ws)) rfl rfl (Q2.out.there16 (by rw [HRZ.out, HY2L.out])) (by rw [HRZ.out]; exact Tst.info) (row_one _) ?_)
      obtain ⟨w7, hw7⟩ : ∃ w7, w7 = w6.setCells w.heap.size 0 (row (y2.take 12 ++ ws)).toList := ⟨_, rfl⟩
      rw [← hw7]
      have t7 : Touch (fun k => k = w.heap.size) w6 w7 := by rw [hw7]; exact touch_setCells (O := fun k => k = w.heap.size) (Touch.refl _ w6) (Or.inl rfl) _ _
      have r2 : Block w7 w.heap.size 80 (row ((y2.take 12 ++ ws) ++ (A ++ (qrow (q ++ [(d, v)]) ++ C)))) := by rw [hw7]; exact Q2.out.set16 HY2L.out HZ'.out
      have r6 := Q6.out.touch t7 (by omega)
      have HBE7 := Lib.hid (HBE6.out.trans (t7.below HBE6.out.size (fun i h => by omega)))
      have R2 := Lib.hid r2
      have R6 := Lib.hid r6
      have H49 := Lib.hid (HFIT.out _ (q ++ [(d, v)]) HZ'.out (by have := HQ.out; simp; omega))
      clear hw7 t7 r2 r6 Q2 Q6 HBE6
      go_wp2_with (first | (refine wpList_load_row rfl 80 (.tmp 3) rfl w.heap.size rfl _ (row ((y2.take 12 ++ ws) ++ (A ++ (qrow (q ++ [(d, v)]) ++ C)))) _ _ R2.out Tryd.underlying80 rfl (by rw [H49.out]; exact T64.info) ?_) | (refine wpList_store_row rfl 80 (.tmp 6) (.tmp 77) rfl (w.heap.size + 1 + 1) (row ((y2.take 12 ++ ws) ++ (A ++ (qrow (q ++ [(d, v)]) ++ C)))) rfl rfl _ _ R6.out (by rw [H49.out]; exact T64.info) (by rw [H49.out]; rfl) (row_one _) ?_))
      have hB := setRow_heap w7 (w.heap.size + 1 + 1) _ (row ((y2.take 12 ++ ws) ++ (A ++ (qrow (q ++ [(d, v)]) ++ C)))) 80 _ R6.out
      exact bodyPost_ret (v := .agg (row ((y2.take 12 ++ ws) ++ (A ++ (qrow (q ++ [(d, v)]) ++ C))))) (results_cell_row rfl _ _ (w.heap.size + 1 + 1) _ _ _ _ rfl hB Tryd.underlying80 rfl (by rw [H49.out]; exact T64.info)) rfl ⟨by rw [tso49, if_neg HK3.out, if_pos HK2.out, HV.out, HY2.out, HY1.out, HWS.out]; rfl, below_setRow HBE7.out (by omega) _⟩
    · have k2' : (lk == 2) = false := by simpa using k2
      have HK3 := Lib.hid k3
      have HK2 := Lib.hid k2
      clear k3 k2
      have hz' : (y2.take 12 ++ ws).length = 16 := by have := HW4.out; rw [row_size] at this; rw [List.length_append, List.length_take, HY2L.out, this]; rfl
      have HZ' := Lib.hid hz'
      have HRZ := Lib.hid (show (row (y2.take 12 ++ ws)).size = 16 by rw [row_size, hz'])
      clear hz'
      go_wp2_with (first | (refine wpList_load_mid rfl 63 (.tmp 72) rfl w.heap.size 0 rfl (y2.map (Value.int .i64)) _ P2.out.range16 Tryd.underlying63 rfl (by rw [List.length_map, HY2L.out]; exact Tst.info) ?_) | (refine wpList_load_row rfl 61 (.tmp 10) rfl w3.heap.size rfl _ (row ws) _ _ PT.out Tryd.underlying61 rfl (by rw [HW4.out]; exact T4.info) ?_))
      refine (with_any y2 ws w5 HY2L.out (by have := HW4.out; rwa [row_size] at this)).mono ?_
      rintro e w6 ⟨rfl, hb6⟩
      have q2 := P2.out.below hb6 P2.out.lt
      have q6 := P6.out.below hb6 P6.out.lt
      have HBE6 := Lib.hid (HBE5.out.trans (hb6.mono HBE5.out.size))
      have Q2 := Lib.hid q2
      have Q6 := Lib.hid q6
      clear hb6 q2 q6 P2 P6 PL PT HBE5 c0 c2
      go_upto_region 12 with (refine wpList_store_mid rfl 63 (.tmp 76) (.tmp 75) rfl w.heap.size 0 (row (y2.take 12 ++ ws)) rfl rfl (Q2.out.there16 (by rw [HRZ.out, HY2L.out])) (by rw [HRZ.out]; exact Tst.info) (row_one _) ?_)
      obtain ⟨w7, hw7⟩ : ∃ w7, w7 = w6.setCells w.heap.size 0 (row (y2.take 12 ++ ws)).toList := ⟨_, rfl⟩
      rw [← hw7]
      have t7 : Touch (fun k => k = w.heap.size) w6 w7 := by rw [hw7]; exact touch_setCells (O := fun k => k = w.heap.size) (Touch.refl _ w6) (Or.inl rfl) _ _
      have r2 : Block w7 w.heap.size 80 (row ((y2.take 12 ++ ws) ++ (A ++ (qrow q ++ C)))) := by rw [hw7]; exact Q2.out.set16 HY2L.out HZ'.out
      have r6 := Q6.out.touch t7 (by omega)
      have HBE7 := Lib.hid (HBE6.out.trans (t7.below HBE6.out.size (fun i h => by omega)))
      have R2 := Lib.hid r2
      have R6 := Lib.hid r6
      have H49 := Lib.hid (HFIT.out _ q HZ'.out (Nat.le_of_lt HQ.out))
      clear hw7 t7 r2 r6 Q2 Q6 HBE6
      go_wp2_with (first | (refine wpList_load_row rfl 80 (.tmp 3) rfl w.heap.size rfl _ (row ((y2.take 12 ++ ws) ++ (A ++ (qrow q ++ C)))) _ _ R2.out Tryd.underlying80 rfl (by rw [H49.out]; exact T64.info) ?_) | (refine wpList_store_row rfl 80 (.tmp 6) (.tmp 77) rfl (w.heap.size + 1 + 1) (row ((y2.take 12 ++ ws) ++ (A ++ (qrow q ++ C)))) rfl rfl _ _ R6.out (by rw [H49.out]; exact T64.info) (by rw [H49.out]; rfl) (row_one _) ?_))
      have hB := setRow_heap w7 (w.heap.size + 1 + 1) _ (row ((y2.take 12 ++ ws) ++ (A ++ (qrow q ++ C)))) 80 _ R6.out
      exact bodyPost_ret (v := .agg (row ((y2.take 12 ++ ws) ++ (A ++ (qrow q ++ C))))) (results_cell_row rfl _ _ (w.heap.size + 1 + 1) _ _ _ _ rfl hB Tryd.underlying80 rfl (by rw [H49.out]; exact T64.info)) rfl ⟨by rw [tso49, if_neg HK3.out, if_neg HK2.out, HY2.out, HY1.out, HWS.out], below_setRow HBE7.out (by omega) _⟩
end Go.Proofs.YthpnnmkpbkbanaaDoor
