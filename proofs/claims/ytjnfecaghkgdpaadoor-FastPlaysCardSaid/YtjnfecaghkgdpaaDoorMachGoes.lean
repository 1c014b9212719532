/-
  The reference's machine: what goes answers.
-/
import Derived.Test.YtjnfecaghkgdpaaDoorMach
namespace Go.Proofs.YtjnfecaghkgdpaaDoor
open Go.RowKit

set_option maxHeartbeats 2000000 in
theorem goes_any (n : Int) (v : Value) (ws ls : List Int) (os : List (List Int)) (i : Nat) (may : Bool) (z : Int) (w : World) {P : Nat → Prop} (hP : ∀ b, P b → b < w.heap.size) (h : Mc w P n v ws ls os) (hi : i < ls.length) (hl : ls.length ≤ 1000) (a : Int) (ha : ls[i]? = some a) (h0 : 0 ≤ a) (h1 : a ≤ 1000) :
    Calls Tryd.prog 17 #[v, .int .i64 i, .bool may, .int .i64 z] w fun e w' => ∃ v', e = .returned v' ∧ Mc w' (New P w w') n v' ws (ls.set i (if may then a + 1 else z)) os ∧ Below w.heap.size w w' := by
  have HM := Lib.hid h
  obtain ⟨wv, av, ov, rfl, k1, k2, k3⟩ := h
  have HF := Lib.hid (MBox.made (x3 := ov) (n := n) w _ (k1.nums hP) (k2.nums hP) rfl)
  have HP := Lib.hid hP
  obtain ⟨A1, c1, rfl, hl1, _⟩ := k1
  obtain ⟨A2, c2, rfl, hl2, k2⟩ := k2
  obtain ⟨A3, c3, rfl, hl3, _⟩ := k3
  obtain ⟨b, o, rfl, hpb, hcell⟩ := k2 (by omega)
  have hx := hcell i a ha
  have hbw := hP b hpb
  have hwr : IntKind.i64.wrap (a + 1) = a + 1 := IntWalk.i64_in _ (by omega)
  have hiI : (i : Int) < ls.length := by omega
  clear hcell k2 hP ha
  cases may
  · rw [show (if false = true then a + 1 else z) = z from rfl]
    go_enter Tryd.func17, Tryd.ntmps17
    go_wp2_with fail
    obtain ⟨V, hV⟩ : ∃ V, V = (w.alloc (.cells #[.int .i64 n, .slice A1 ws.length c1, .slice (some ⟨b, o, none⟩) ls.length c2, .slice A3 os.length c3] 31)).alloc (.cells #[.int .i64 0, .slice none 0 0, .slice none 0 0, .slice none 0 0] 31) := ⟨_, rfl⟩
    rw [← hV] at HF
    rw [← hV]
    obtain ⟨h, hh⟩ : ∃ h, h = w.heap.size := ⟨_, rfl⟩
    have HF' := Lib.hid (show MBox w V h n _ _ _ ws ls by rw [hh]; exact HF.out)
    rw [← hh]
    clear hV hh HF
    have hPV : ∀ b, P b → b < V.heap.size := fun b hb => Nat.lt_of_lt_of_le (HP.out b hb) HF'.out.below.size
    refine (to_any n _ ws ls os i z V hPV (HM.out.keep (fun _ h => h) (fun p hp => HF'.out.below.cell (HP.out _ hp))) hi hl).mono ?_
    rintro e w3 ⟨v', rfl, hm, hb⟩
    have HM3 := Lib.hid hm
    have HG := Lib.hid (HF'.out.on hb)
    obtain ⟨wv', av', ov', rfl, q1, q2, q3⟩ := hm
    obtain ⟨A4, c4, rfl, _, _⟩ := q1
    obtain ⟨A5, c5, rfl, _, _⟩ := q2
    obtain ⟨A6, c6, rfl, _, _⟩ := q3
    obtain ⟨x0, x1, x2, x3⟩ := HG.out.room
    obtain ⟨u0, u1, u2, u3, u4, u5, u6⟩ := HG.out.frees
    clear hb hPV
    go_wp2
    obtain ⟨hB, hbel⟩ := HG.out.told0 (.slice A4 ws.length c4) (.slice A5 (ls.set i z).length c5) (.slice A6 os.length c6)
    rw [List.length_set] at hB hbel
    have hmc := HF'.out.mc HP.out HM3.out n (.slice A4 ws.length c4) (.slice A5 (ls.set i z).length c5) (.slice A6 os.length c6)
    rw [List.length_set] at hmc
    exact bodyPost_ret (v := .agg #[.int .i64 n, .slice A4 ws.length c4, .slice A5 ls.length c5, .slice A6 os.length c6]) (results_cell_row rfl _ _ (h + 1) 31 _ (0, 0) _ rfl hB Tryd.underlying31 rfl (by kernel_rfl)) rfl
      ⟨_, rfl, hmc, hbel⟩
  · rw [show (if true = true then a + 1 else z) = a + 1 from rfl]
    go_enter Tryd.func17, Tryd.ntmps17
    go_wp2_with fail
    obtain ⟨V, hV⟩ : ∃ V, V = (w.alloc (.cells #[.int .i64 n, .slice A1 ws.length c1, .slice (some ⟨b, o, none⟩) ls.length c2, .slice A3 os.length c3] 31)).alloc (.cells #[.int .i64 0, .slice none 0 0, .slice none 0 0, .slice none 0 0] 31) := ⟨_, rfl⟩
    rw [← hV] at HF
    rw [← hV]
    obtain ⟨h, hh⟩ : ∃ h, h = w.heap.size := ⟨_, rfl⟩
    have HF' := Lib.hid (show MBox w V h n _ _ _ ws ls by rw [hh]; exact HF.out)
    rw [← hh]
    have hxV : V.cell? ⟨b, o + i, none⟩ = some (.int .i64 a) := (HF'.out.below.cell (p := ⟨b, o + i, none⟩) hbw).trans hx
    clear hV hh HF
    have HPV := Lib.hid (show ∀ b, P b → b < V.drew.heap.size from fun b hb => Nat.lt_of_lt_of_le (HP.out b hb) HF'.out.below.size)
    have HMV := Lib.hid (show Mc V.drew P n (.agg #[.int .i64 n, .slice A1 ws.length c1, .slice (some ⟨b, o, none⟩) ls.length c2, .slice A3 os.length c3]) ws ls os from HM.out.keep (fun _ h => h) (fun p hp => HF'.out.below.cell (HP.out _ hp)))
    obtain ⟨y0, y1, y2, y3⟩ := HF'.out.cells
    have HS := Lib.hid (show V.drew.cell? ⟨h, 0, none⟩ = some (.int .i64 n) ∧ V.drew.cell? ⟨h, 1, none⟩ = some (.slice A1 ws.length c1) ∧ V.drew.cell? ⟨h, 2, none⟩ = some (.slice (some ⟨b, o, none⟩) ls.length c2) ∧ V.drew.cell? ⟨h, 3, none⟩ = some (.slice A3 os.length c3) ∧ V.drew.cell? ⟨b, o + i, none⟩ = some (.int .i64 a) from ⟨y0, y1, y2, y3, hxV⟩)
    have HX := Lib.hid hxV
    have HBH := Lib.hid (show (⟨b, o + i, none⟩ : Addr).block ≠ h + 1 from Nat.ne_of_lt (Nat.lt_succ_of_lt (Nat.lt_of_lt_of_le hbw HF'.out.low)))
    clear y0 y1 y2 y3 hx hxV
    go_region_held3 (fun W => W.cell? ⟨h, 0, none⟩ = some (.int .i64 n) ∧ W.cell? ⟨h, 1, none⟩ = some (.slice A1 ws.length c1) ∧ W.cell? ⟨h, 2, none⟩ = some (.slice (some ⟨b, o, none⟩) ls.length c2) ∧ W.cell? ⟨h, 3, none⟩ = some (.slice A3 os.length c3) ∧ W.cell? ⟨b, o + i, none⟩ = some (.int .i64 a)) (first | exact HS.out | exact HS3.out | exact ⟨(four_off _ (h + 1) _ _ _ _ _ (Nat.ne_of_lt (Nat.lt_succ_self h))).trans HS3.out.1, (four_off _ (h + 1) _ _ _ _ _ (Nat.ne_of_lt (Nat.lt_succ_self h))).trans HS3.out.2.1, (four_off _ (h + 1) _ _ _ _ _ (Nat.ne_of_lt (Nat.lt_succ_self h))).trans HS3.out.2.2.1, (four_off _ (h + 1) _ _ _ _ _ (Nat.ne_of_lt (Nat.lt_succ_self h))).trans HS3.out.2.2.2.1, (four_off _ (h + 1) _ _ _ _ _ HBH.out).trans HS3.out.2.2.2.2⟩) ((go_at_call 15; refine (to_any n _ ws ls os i (a + 1) V.drew HPV.out HMV.out hi hl).mono ?_; rintro e w3 ⟨v', rfl, hm, hb⟩; have hb' := (show Below V.heap.size V w3 from (Below.refl V.heap.size V).drew.trans hb); have HM3 := Lib.hid (show Mc w3 (New P V w3) n v' ws (ls.set i (a + 1)) os from hm); have HG := Lib.hid (HF'.out.on hb'); obtain ⟨y0, y1, y2, y3⟩ := HG.out.cells; have HS3 := Lib.hid (show w3.cell? ⟨h, 0, none⟩ = some (.int .i64 n) ∧ w3.cell? ⟨h, 1, none⟩ = some (.slice A1 ws.length c1) ∧ w3.cell? ⟨h, 2, none⟩ = some (.slice (some ⟨b, o, none⟩) ls.length c2) ∧ w3.cell? ⟨h, 3, none⟩ = some (.slice A3 os.length c3) ∧ w3.cell? ⟨b, o + i, none⟩ = some (.int .i64 a) from ⟨y0, y1, y2, y3, (hb'.cell (p := ⟨b, o + i, none⟩) (Nat.lt_of_lt_of_le hbw HF'.out.below.size)).trans HX.out⟩); clear y0 y1 y2 y3; obtain ⟨wv', av', ov', rfl, q1, q2, q3⟩ := hm; obtain ⟨A4, c4, rfl, _, _⟩ := q1; obtain ⟨A5, c5, rfl, _, _⟩ := q2; obtain ⟨A6, c6, rfl, _, _⟩ := q3; obtain ⟨x0, x1, x2, x3⟩ := HG.out.room; obtain ⟨u0, u1, u2, u3, u4, u5, u6⟩ := HG.out.frees; clear hb hb'))
    all_goals
      go_wp2
      obtain ⟨hB, hbel⟩ := HG.out.told0 (.slice A4 ws.length c4) (.slice A5 (ls.set i (a + 1)).length c5) (.slice A6 os.length c6)
      rw [List.length_set] at hB hbel
      have hmc := HF'.out.mc HP.out HM3.out n (.slice A4 ws.length c4) (.slice A5 (ls.set i (a + 1)).length c5) (.slice A6 os.length c6)
      rw [List.length_set] at hmc
      exact bodyPost_ret (v := .agg #[.int .i64 n, .slice A4 ws.length c4, .slice A5 ls.length c5, .slice A6 os.length c6]) (results_cell_row rfl _ _ (h + 1) 31 _ (0, 0) _ rfl hB Tryd.underlying31 rfl (by kernel_rfl)) rfl
        ⟨_, rfl, hmc, hbel⟩
end Go.Proofs.YtjnfecaghkgdpaaDoor
