/-
  Package snap: Step at line 3; all of it.
-/
import Derived.Test.YtoaakonfofjamaaSnapStep
namespace Go.Proofs.Ytoaakonfofjamaa.Snap
open Go.RowKit
set_option maxHeartbeats 8000000 in
set_option maxRecDepth 100000 in
theorem step_three {g n : Nat} {v : SS} (w : World) (hk : Lk w g n v) (hn : n ≤ 4) {q : Nat} (hq : q < n) (hP : Pre n v q) (ha : (v.h q).a = 3) :
    Calls Try.prog 10 #[.pointer (some ⟨g, 0, none⟩), .int .i64 q] w fun e w' =>
      StpR n v q w w' e ∧ Lk w' g n (pst n v q) ∧ Touch (fun k => k = g) w w' := by
  have HI := Lib.hid (isHand_any q w hk.num)
  rw [decide_eq_true (show (0 : Int) ≤ q ∧ (q : Int) < n by omega)] at HI
  have hq4 : q < 4 := by omega
  have hp4 : (q : Int) < 4 := by omega
  have c1 := hk.xA hq4
  rw [ha] at c1
  have c2 := hk.xX hq4
  have c3 : w.cell? ⟨g, 1 + q * 6 + 1, none⟩ = some (.int .i64 (v.wd q).t) := hk.wat hq4 (j := 1) (by omega)
  have s0 : w.cell? ⟨g, 25 + q * 60 + 56, none⟩ = some (.int .i64 ((v.h q).sw 0)) := hk.xS hq4 (q := 0) (by omega)
  have s1 : w.cell? ⟨g, 25 + q * 60 + 56 + 1, none⟩ = some (.int .i64 ((v.h q).sw 1)) := hk.xS hq4 (q := 1) (by omega)
  have s2 : w.cell? ⟨g, 25 + q * 60 + 56 + 2, none⟩ = some (.int .i64 ((v.h q).sw 2)) := hk.xS hq4 (q := 2) (by omega)
  have s3 : w.cell? ⟨g, 25 + q * 60 + 56 + 3, none⟩ = some (.int .i64 ((v.h q).sw 3)) := hk.xS hq4 (q := 3) (by omega)
  have d0 : w.cell? ⟨g, 1 + q * 6, none⟩ = some (wc (v.wd q) 0) := hk.wat hq4 (j := 0) (by omega)
  have d2 : w.cell? ⟨g, 1 + q * 6 + 2, none⟩ = some (wc (v.wd q) 2) := hk.wat hq4 (j := 2) (by omega)
  have d3 : w.cell? ⟨g, 1 + q * 6 + 3, none⟩ = some (wc (v.wd q) 3) := hk.wat hq4 (j := 3) (by omega)
  have d4 : w.cell? ⟨g, 1 + q * 6 + 4, none⟩ = some (wc (v.wd q) 4) := hk.wat hq4 (j := 4) (by omega)
  have d5 : w.cell? ⟨g, 1 + q * 6 + 5, none⟩ = some (wc (v.wd q) 5) := hk.wat hq4 (j := 5) (by omega)
  have f0 := hk.free (1 + q * 6)
  have f1 := hk.free (1 + q * 6 + 1)
  have f2 := hk.free (1 + q * 6 + 2)
  have f3 := hk.free (1 + q * 6 + 3)
  have f4 := hk.free (1 + q * 6 + 4)
  have f5 := hk.free (1 + q * 6 + 5)
  have hl : plk n v q = false := by unfold plk; rw [decide_eq_false (by omega)]; rfl
  have hd : pdn n v q = true := by unfold pdn; rw [decide_eq_true ha]; rfl
  have HE : ∀ w', StpR n v q w w' (.returned (.tuple #[.bool true, .slice none 0 0, .nilIface])) := fun w' => StpR.go hq (by omega) (by rw [hd]) (fun h => (by rw [hl] at h; cases h)) fun _ => rfl
  have HE := Lib.hid HE
  have hps : pst n v q = putH (putW v q ⟨(v.h q).x, (v.wd q).t + 1, (v.h q).sw⟩) q sb0 := by unfold pst; rw [if_neg (by omega), if_neg (by omega)]
  rw [hps]
  have hT := hP.tn
  have hL1 := hk.word hq4 ⟨(v.h q).x, (v.wd q).t + 1, (v.h q).sw⟩
  generalize (v.h q).x = X at *
  generalize (v.wd q).t = T at *
  have hw : IntKind.i64.wrap ((T : Int) + 1) = ((T + 1 : Nat) : Int) := (IntWalk.i64_in _ (by omega)).trans (by omega)
  obtain ⟨V, hV⟩ : ∃ V, V = w.setCells g (1 + q * 6) (cW ⟨X, T + 1, (v.h q).sw⟩) := ⟨_, rfl⟩
  rw [← hV] at hL1
  have hV2 : (((((w.setCell ⟨g, 1 + q * 6, none⟩ (.int .i64 X)).setCell ⟨g, 1 + q * 6 + 1, none⟩ (.int .i64 ((T : Int) + 1))).setCell ⟨g, 1 + q * 6 + 2, none⟩ (.int .i64 ((v.h q).sw 0))).setCell ⟨g, 1 + q * 6 + 3, none⟩ (.int .i64 ((v.h q).sw 1))).setCell ⟨g, 1 + q * 6 + 4, none⟩ (.int .i64 ((v.h q).sw 2))).setCell ⟨g, 1 + q * 6 + 5, none⟩ (.int .i64 ((v.h q).sw 3)) = V := by rw [hV]; rfl
  have HV2 := Lib.hid hV2
  have HT1 := Lib.hid (show Touch (fun k => k = g) w V by rw [hV]; exact touch_cells _ _ _)
  have HL1 := Lib.hid hL1
  have HTH := Lib.hid (show V.drew.there g (25 + q * 60) 60 from hL1.drew.there (by omega))
  clear hL1 hV hV2 hT hps hd hl ha hP hk hn hq
  go_enter Try.func10, Try.ntmps10
  go_wp2_with (go_at_call 13; refine HI.out.mono ?_; rintro e w' ⟨rfl, rfl⟩)
  go_region_with fail
  all_goals
    rw [HV2.out]
    go_wp2_with (refine wpList_store_mid rfl 47 _ _ rfl g (25 + q * 60) #[.int .i64 0, .bool false, .int .i64 0, .int .i64 0, .int .i64 0, .int .i64 0, .int .i64 0, .int .i64 0, .int .i64 0, .int .i64 0, .int .i64 0, .int .i64 0, .int .i64 0, .int .i64 0, .int .i64 0, .int .i64 0, .int .i64 0, .int .i64 0, .int .i64 0, .int .i64 0, .int .i64 0, .int .i64 0, .int .i64 0, .int .i64 0, .int .i64 0, .int .i64 0, .int .i64 0, .int .i64 0, .int .i64 0, .int .i64 0, .int .i64 0, .int .i64 0, .int .i64 0, .int .i64 0, .int .i64 0, .int .i64 0, .int .i64 0, .int .i64 0, .int .i64 0, .int .i64 0, .int .i64 0, .int .i64 0, .int .i64 0, .int .i64 0, .int .i64 0, .int .i64 0, .int .i64 0, .int .i64 0, .int .i64 0, .int .i64 0, .int .i64 0, .int .i64 0, .int .i64 0, .int .i64 0, .int .i64 0, .int .i64 0, .int .i64 0, .int .i64 0, .int .i64 0, .int .i64 0] rfl rfl HTH.out Th.info h60z_one ?_)
    go_ret3
    have h2 := HL1.out.drew.setH hq4 sb0
    rw [h60z]
    exact ⟨HE.out _, h2, HT1.out.drew.trans (touch_cells _ _ _) fun _ h => Or.inl h⟩
theorem step_any {g n : Nat} {v : SS} (w : World) (hk : Lk w g n v) (hn : n ≤ 4) (hP : ∀ q, q < n → Pre n v q) (p : Int) :
    Calls Try.prog 10 #[.pointer (some ⟨g, 0, none⟩), .int .i64 p] w fun e w' =>
      StpR n v p w w' e ∧ Lk w' g n (stS n v p) ∧ Touch (fun k => k = g) w w' := by
  by_cases h : ¬ (0 ≤ p ∧ p < n) ∨ (v.h p.toNat).a = 0
  · have := step_none w hk hn p h
    unfold stS
    rw [if_pos h]
    exact this
  · unfold stS
    rw [if_neg h]
    obtain ⟨q, rfl⟩ := Int.eq_ofNat_of_zero_le (show 0 ≤ p by omega)
    rw [Int.toNat_natCast] at h ⊢
    have hq : q < n := by omega
    have hP' := hP q hq
    have hln := hP'.ln
    by_cases h1 : (v.h q).a = 1
    · exact step_one w hk hn hq hP' h1
    · by_cases h2 : (v.h q).a = 2
      · exact step_two w hk hn hq hP' h2
      · exact step_three w hk hn hq hP' (by omega)
end Go.Proofs.Ytoaakonfofjamaa.Snap
