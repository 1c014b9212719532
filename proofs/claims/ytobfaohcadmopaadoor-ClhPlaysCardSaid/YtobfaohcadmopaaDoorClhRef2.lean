/-
  The reference's step of the lock whose hands look at the one ahead, on: line 5.
-/
import Derived.Test.YtobfaohcadmopaaDoorClhRef
namespace Go.Proofs.YtobfaohcadmopaaDoor.Clh
open Go.RowKit

set_option maxHeartbeats 4000000 in
set_option maxRecDepth 100000 in
theorem ref5 (n p k t d : Nat) (v : Value) (ws ls : List Int) (os : List (List Int)) (w : World) {P : Nat → Prop} (hP : ∀ b, P b → b < w.heap.size) (h : Mc w P n v ws ls os)
    (hh : RefAt n p ws ls os) (hl : ls[p]? = some 5) (ho : os[p]? = some [(k : Int), (t : Int)]) (hd : d = 1 + k) (hdw : d < ws.length) :
    Calls Tryd.prog 8 #[v, .int .i64 p] w fun e w' => ∃ v', e = .returned v' ∧ Mc w' (New P w w') n v' (ws.set d 0) (ls.set p 1) (os.set p [(t : Int), (t : Int)]) ∧ Below w.heap.size w w' := by
  obtain ⟨hn, hp, h1, hwl, hls, hos⟩ := hh
  have hp2 : p < ls.length := (List.getElem?_eq_some_iff.1 hl).1
  have hp3 : p < os.length := (List.getElem?_eq_some_iff.1 ho).1
  have hp2I : (p : Int) < ls.length := by omega
  have hp3I : (p : Int) < os.length := by omega
  have HM := Lib.hid h
  obtain ⟨b1, o1, c1, b2, o2, c2, b3, o3, c3, bp, op, cp, rfl, hread⟩ := mc_open hP h h1 hl ho (by simp)
  obtain ⟨wv, av, ov, e, k1, k2, k3⟩ := h
  injection e with e
  simp at e
  obtain ⟨rfl, rfl, rfl⟩ := e
  have HF := Lib.hid (MBox.made (x3 := .slice (some ⟨b3, o3, none⟩) os.length c3) (n := n) w _ (k1.nums hP) (k2.nums hP) rfl)
  have HP := Lib.hid hP
  have HRD := Lib.hid hread
  clear hP hread k1 k2 k3
  have hwr1 : IntKind.i64.wrap (1 + (k : Int)) = (d : Int) := by rw [show (d : Int) = 1 + (k : Int) by omega]; exact IntWalk.i64_in _ (by omega)
  clear hd
  go_enter Tryd.func8, Tryd.ntmps8
  go_upto_region 1 with fail
  obtain ⟨V, hV⟩ : ∃ V, V = (w.alloc (.cells #[.int .i64 n, .slice (some ⟨b1, o1, none⟩) ws.length c1, .slice (some ⟨b2, o2, none⟩) ls.length c2, .slice (some ⟨b3, o3, none⟩) os.length c3] 31)).alloc (.cells #[.int .i64 0, .slice none 0 0, .slice none 0 0, .slice none 0 0] 31) := ⟨_, rfl⟩
  rw [← hV] at HF
  rw [← hV]
  obtain ⟨h, hh⟩ : ∃ h, h = w.heap.size := ⟨_, rfl⟩
  have HB := Lib.hid (show MBox w V h n _ _ _ ws ls by rw [hh]; exact HF.out)
  rw [← hh]
  clear hV hh HF
  have HPV := Lib.hid (show ∀ b, P b → b < V.heap.size from fun b hb => Nat.lt_of_lt_of_le (HP.out b hb) HB.out.below.size)
  have HM0 := Lib.hid (MS.start (HM.out.keep (fun _ h => h) (fun p hp => HB.out.below.cell (HP.out _ hp))))
  obtain ⟨y0, y1, y2, y3⟩ := HB.out.cells
  obtain ⟨r1, r2, r3, r4⟩ := HRD.out V HB.out.below
  have R1 := Lib.hid r1
  have r40 := r4 0 _ rfl
  rw [Nat.add_zero] at r40
  have r41 := r4 1 _ rfl
  clear r1 r4
  have hb3 : b3 < w.heap.size := lt_of_cell ((HRD.out w (Below.refl _ _)).2.2.1)
  have hbp : bp < w.heap.size := lt_of_cell ((HRD.out w (Below.refl _ _)).2.2.2 0 _ rfl)
  have HBH := Lib.hid (show b3 ≠ h + 1 ∧ bp ≠ h + 1 by have := HB.out.low; omega)
  go_wp2_with fail
  have HS := Lib.hid (show (fun W : World => W.cell? ⟨h, 0, none⟩ = some (.int .i64 n) ∧ W.cell? ⟨h, 1, none⟩ = some (.slice (some ⟨b1, o1, none⟩) ws.length c1) ∧ W.cell? ⟨h, 2, none⟩ = some (.slice (some ⟨b2, o2, none⟩) ls.length c2) ∧ W.cell? ⟨h, 3, none⟩ = some (.slice (some ⟨b3, o3, none⟩) os.length c3) ∧ W.cell? ⟨b3, o3 + p, none⟩ = some (.slice (some ⟨bp, op, none⟩) 2 cp) ∧ W.cell? ⟨bp, op + 1, none⟩ = some (.int .i64 t)) V from ⟨y0, y1, y2, y3, r3, r41⟩)
  clear y0 y1 y2 y3 r3 r41
  go_region_held3 (fun W : World => W.cell? ⟨h, 0, none⟩ = some (.int .i64 n) ∧ W.cell? ⟨h, 1, none⟩ = some (.slice (some ⟨b1, o1, none⟩) ws.length c1) ∧ W.cell? ⟨h, 2, none⟩ = some (.slice (some ⟨b2, o2, none⟩) ls.length c2) ∧ W.cell? ⟨h, 3, none⟩ = some (.slice (some ⟨b3, o3, none⟩) os.length c3) ∧ W.cell? ⟨b3, o3 + p, none⟩ = some (.slice (some ⟨bp, op, none⟩) 2 cp) ∧ W.cell? ⟨bp, op + 1, none⟩ = some (.int .i64 t)) (first | exact HS.out | exact HS1.out | exact HS2.out | exact HS3.out | exact ⟨(four_off _ (h + 1) _ _ _ _ _ (Nat.ne_of_lt (Nat.lt_succ_self h))).trans HS3.out.1, (four_off _ (h + 1) _ _ _ _ _ (Nat.ne_of_lt (Nat.lt_succ_self h))).trans HS3.out.2.1, (four_off _ (h + 1) _ _ _ _ _ (Nat.ne_of_lt (Nat.lt_succ_self h))).trans HS3.out.2.2.1, (four_off _ (h + 1) _ _ _ _ _ (Nat.ne_of_lt (Nat.lt_succ_self h))).trans HS3.out.2.2.2.1, (four_off _ (h + 1) _ _ _ _ _ HBH.out.1).trans HS3.out.2.2.2.2.1, (four_off _ (h + 1) _ _ _ _ _ HBH.out.2).trans HS3.out.2.2.2.2.2⟩) ((first | (go_at_call 19; (with_reducible refine (ms_word HPV.out (ms_drew HM0.out) d 0 hdw hwl).mono ?_); rintro e w1 ⟨v1, rfl, hm⟩; have HM1 := Lib.hid hm; have HS1 := Lib.hid (held6 hm.below HS.out); clear hm) | (go_at_call 17; (with_reducible refine (ms_own20 HPV.out HM1.out p t _ _ ho hos).mono ?_); rintro e w2 ⟨v2, rfl, hm⟩; have HM2 := Lib.hid hm; have HS2 := Lib.hid (held6 hm.below HS.out); clear hm) | (go_at_call 18; (with_reducible refine (ms_to HPV.out HM2.out p 1 (by simpa using hp2) (by simpa using hls)).mono ?_); rintro e w3 ⟨v3, rfl, hm⟩; have HM3 := Lib.hid hm; have HS3 := Lib.hid (held6 hm.below HS.out); clear hm; obtain ⟨B1, m1, d1, B2, m2, d2, B3, m3, d3, rfl⟩ := HM3.out.form; have HG := Lib.hid (HB.out.on HM3.out.below); obtain ⟨x0, x1, x2, x3⟩ := HG.out.room; obtain ⟨-, -, -, u3, u4, u5, u6⟩ := HG.out.frees)))
  all_goals
    go_wp2
    obtain ⟨hT, hmc, hbel⟩ := ms_end HP.out HB.out HM3.out
    exact bodyPost_ret (v := .agg #[.int .i64 n, .slice B1 m1 d1, .slice B2 m2 d2, .slice B3 m3 d3]) (results_cell_row rfl _ _ (h + 1) 31 _ (0, 0) _ rfl hT Tryd.underlying31 rfl (by kernel_rfl)) rfl ⟨_, rfl, hmc, hbel⟩

end Go.Proofs.YtobfaohcadmopaaDoor.Clh
