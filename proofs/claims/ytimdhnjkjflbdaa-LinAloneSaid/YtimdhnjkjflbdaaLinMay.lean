/-
  Package lin: mayFollow.
-/
import Derived.Test.YtimdhnjkjflbdaaLinSeek
namespace Go.Proofs.Ytimdhnjkjflbdaa.Lin
open Go.RowKit

set_option maxHeartbeats 4000000 in
set_option maxRecDepth 100000 in
theorem may_any {h : List LO} (told : List Nat) (i : Nat) (hi : i < h.length) (v rv : Value) (w : World) (hh : Ops w w.heap.size v h) (hr : Nums w w.heap.size rv (told.map Int.ofNat)) :
    Calls Try.prog 55 #[v, rv, .int .i64 i] w fun e w' => e = .returned (.bool (decide (pmay h.length (hops h) told i))) ∧ Below w.heap.size w w' := by
  obtain ⟨A, c, rfl, hhc, -⟩ := id hh
  have HO := Lib.hid (fun (k : Nat) (hk : k < h.length) => hh.at_ hk)
  have HC := Lib.hid (fun (x : Nat) (w' : World) (hb : Below w.heap.size w w') => contains_any (told.map Int.ofNat) x rv w' ((hr.below hb (Nat.le_refl _)).more hb.size))
  obtain ⟨R, rc, hrv, -, -⟩ := hr
  rw [List.length_map] at hrv
  rw [hrv] at HC ⊢
  clear hrv hh
  obtain ⟨D, hD⟩ : ∃ D, D = decide (pmay h.length (hops h) told i) := ⟨_, rfl⟩
  rw [← hD]
  have HD := Lib.hid hD; clear hD
  have HC0 := Lib.hid (HC.out i w (Below.refl _ _))
  by_cases e0 : i ∈ told
  · rw [decide_eq_true (mem_int.2 e0)] at HC0
    have HE := Lib.hid (show D = false from HD.out.trans (decide_eq_false fun c => c.1 e0))
    clear e0
    go_enter Try.func55, Try.ntmps55
    go_wp2_with (go_at_call 60; (with_reducible refine HC0.out.mono ?_); rintro e w1 ⟨rfl, rfl⟩)
    go_ret
    exact ⟨by rw [HE.out]; rfl, Below.refl _ _⟩
  · rw [decide_eq_false (fun c => e0 (mem_int.1 c))] at HC0
    have H0 := Lib.hid e0; clear e0
    go_enter Try.func55, Try.ntmps55
    go_wp2_with (go_at_call 60; (with_reducible refine HC0.out.mono ?_); rintro e w1 ⟨rfl, rfl⟩)
    rename_i h1 h3 h4
    go_loopw [14] (fun y wr => ∃ k : Nat, k ≤ h.length ∧ y = .int .i64 k ∧ (∀ j, j < k → (lat h j).to ≤ (lat h i).fr → j ∈ told) ∧ Below w.heap.size w wr) (fun y _ => h.length - (intOf y).toNat)
    case atStart => exact ⟨0, Nat.zero_le _, rfl, (fun j hj => absurd hj (Nat.not_lt_zero _)), Below.refl _ _⟩
    case round =>
      obtain ⟨k, hk, rfl, hz, hbr⟩ := hrel
      have HZ := Lib.hid hz; clear hz
      by_cases hlt : k < h.length
      · obtain ⟨b, off, rfl, hb, c0, c1, c2, c3, c4, c5⟩ := HO.out k hlt
        obtain ⟨b', off', e', _, _, _, _, _, f4, _⟩ := HO.out i hi
        injection e' with e'
        injection e' with e1 e2
        subst e1 e2
        have g0 := (hbr.cell (p := ⟨b, off + k * 6, none⟩) hb).trans c0
        have g1 := (hbr.cell (p := ⟨b, off + k * 6 + 1, none⟩) hb).trans c1
        have g2 := (hbr.cell (p := ⟨b, off + k * 6 + 2, none⟩) hb).trans c2
        have g3 := (hbr.cell (p := ⟨b, off + k * 6 + 3, none⟩) hb).trans c3
        have g4 := (hbr.cell (p := ⟨b, off + k * 6 + 4, none⟩) hb).trans c4
        have g5 := (hbr.cell (p := ⟨b, off + k * 6 + 5, none⟩) hb).trans c5
        have q4 := (hbr.cell (p := ⟨b, off + i * 6 + 4, none⟩) hb).trans f4
        clear c0 c1 c2 c3 c4 c5 f4
        have hsw := hbr.size
        have hbs : b < wr.heap.size := by omega
        have hb2 := hbr.alloc hsw (.cells #[.int .i64 (lat h k).hd, .int .i64 (lat h k).kd, .int .i64 (lat h k).ar, .int .i64 (lat h k).gt, .int .i64 (lat h k).fr, .int .i64 (lat h k).to] 34)
        have HB2 := Lib.hid hb2; clear hb2
        obtain ⟨wx, hwx⟩ : ∃ wx, wx = (wr.alloc (.cells #[.int .i64 (lat h k).hd, .int .i64 (lat h k).kd, .int .i64 (lat h k).ar, .int .i64 (lat h k).gt, .int .i64 (lat h k).fr, .int .i64 (lat h k).to] 34)) := ⟨_, rfl⟩
        rw [← hwx] at HB2
        have HX := Lib.hid hwx; clear hwx
        have HC2 := Lib.hid (HC.out k wx.drew (below_drewN HB2.out 1))
        rw [HX.out] at HC2 HB2
        by_cases e1 : (lat h k).to ≤ (lat h i).fr
        · have d1 : decide ((lat h k).to ≤ (lat h i).fr) = true := decide_eq_true e1
          by_cases e2 : k ∈ told
          · rw [decide_eq_true (mem_int.2 e2)] at HC2
            have HE := Lib.hid e2
            clear e1 e2
            go_wp2_with fail
            go_region_with (go_at_call 60; (with_reducible refine HC2.out.mono ?_); rintro e w9 ⟨rfl, rfl⟩)
            all_goals
              go_wp2
              go_roundw
              case rel => exact ⟨k + 1, by omega, by go_num, fun j hj hjt => (if e : j = k then e ▸ HE.out else HZ.out j (by omega) hjt), below_drewN HB2.out 1⟩
              case measure => simp [intOf]; omega
          · rw [decide_eq_false (fun c => e2 (mem_int.1 c))] at HC2
            have HE := Lib.hid (show D = false from HD.out.trans (decide_eq_false fun c => e2 (c.2 k hlt e1)))
            clear e1 e2
            go_wp2_with fail
            go_region_with (go_at_call 60; (with_reducible refine HC2.out.mono ?_); rintro e w9 ⟨rfl, rfl⟩)
            all_goals
              go_wp2
              go_ret
              exact ⟨by rw [HE.out]; rfl, below_drewN HB2.out 1⟩
        · have d1 : decide ((lat h k).to ≤ (lat h i).fr) = false := decide_eq_false e1
          have HE := Lib.hid e1
          clear e1
          go_wp2_with fail
          go_quiet (fail)
          go_wp2
          go_roundw
          case rel => exact ⟨k + 1, by omega, by go_num, fun j hj hjt => (if e : j = k then (by subst e; exfalso; have := HE.out; omega) else HZ.out j (by omega) hjt), below_drewN HB2.out _⟩
          case measure => simp [intOf]; omega
      · have HE := Lib.hid (show D = true from HD.out.trans (decide_eq_true ⟨H0.out, fun j hj hjt => HZ.out j (by omega) hjt⟩))
        go_wp2
        go_ret
        exact ⟨by rw [HE.out]; rfl, hbr⟩
end Go.Proofs.Ytimdhnjkjflbdaa.Lin
