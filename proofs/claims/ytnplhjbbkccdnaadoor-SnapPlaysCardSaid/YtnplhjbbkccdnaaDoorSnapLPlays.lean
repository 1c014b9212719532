/-
  latchgarthlaw3.SnapPlays: it answers true, whatever the number of hands and the steps.
-/
import Derived.Test.YtnplhjbbkccdnaaDoorSnapPM
import Derived.Deep.CutBlock
namespace Go.Proofs.YtnplhjbbkccdnaaDoor.Snap
open Go.RowKit
set_option maxRecDepth 100000 in
set_option maxHeartbeats 8000000 in
theorem plays_any (z : Int) (sv : Value) (steps : List (List Int)) (w : World) (hn : Rws w w.heap.size sv steps) (hg : ErrVar w) :
    Calls Tryd.prog 3 #[.int .i64 z, sv] w fun e w' => e = .returned (.bool true) ∧ Below w.heap.size w w' := by
  obtain ⟨A, c, rfl, hlen, -⟩ := id hn
  have HN := Lib.hid hn
  have HG := Lib.hid hg
  clear hn hg
  by_cases hz : 1 ≤ z ∧ z ≤ 4
  · obtain ⟨n, rfl⟩ := Int.eq_ofNat_of_zero_le (show 0 ≤ z by omega)
    have h1 : 1 ≤ n := by omega
    have h4 : n ≤ 4 := by omega
    have h1I : ¬ (n : Int) < 1 := by omega
    have h4I : ¬ 4 < (n : Int) := by omega
    clear hz
    go_enter Tryd.func3, Tryd.ntmps3
    go_upto_block 0 with (first | (go_at_call 5; refine (newL (Below.refl _ _) h1 h4).mono ?_; rintro e w1 ⟨g, rfl, hl⟩; have HL := Lib.hid hl; clear hl) | (go_at_call 7; refine (refnew_any (F := fun x => x = g) w1 (fun x hx => by rw [hx]; exact HL.out.lk.lt) h1 h4).mono ?_; rintro e w2 ⟨v0, v1, v2, v3, v4, v5, v6, v7, rfl, hr, hb⟩; obtain ⟨A0, c0, A1, c1, A2, c2, A3, c3, A4, c4, A5, c5, A6, c6, A7, c7, rfl, rfl, rfl, rfl, rfl, rfl, rfl, rfl⟩ := hr.forms; have HR := Lib.hid hr; have HB := Lib.hid hb; clear hr hb))
    obtain ⟨b, hb⟩ : ∃ b, b = w2.heap.size := ⟨_, rfl⟩
    obtain ⟨V, hV⟩ : ∃ V, V = w2.alloc (.cells #[.slice A0 n c0, .slice A1 n c1, .slice A2 n c2, .slice A3 n c3, .slice A4 n c4, .slice A5 n c5, .slice A6 n c6, .slice A7 n c7] 34) := ⟨_, rfl⟩
    have hbv : Below w2.heap.size w2 V := by rw [hV]; exact (Below.refl _ w2).alloc (Nat.le_refl _) _
    have hup : UP w V g b n 0 ssnew ssnew (.slice A0 n c0) (.slice A1 n c1) (.slice A2 n c2) (.slice A3 n c3) (.slice A4 n c4) (.slice A5 n c5) (.slice A6 n c6) (.slice A7 n c7) := by
      have hg1 := HL.out.lk.lt
      have hs := HB.out.size
      refine ⟨HL.out.on (HB.out.trans (hbv.mono hs)) (Nat.le_refl _), by rw [hV, hb]; exact Block.made _ _ _, by omega, (HR.out.more (F' := fun x => x = g ∨ x = b) fun x hx h => by omega).below hbv⟩
    have HU0 := Lib.hid hup
    rw [← hV, ← hb]
    clear hV hb hup hbv HL HR HB
    go_cut [2, 3, 6, 23, 24, 25, 26, 27, 28, 29, 30, 31, 32, 33, 34, 35, 36, 37, 38, 39, 183, 184, 185, 186, 187, 188, 189, 190, 191] (fun _ _ _ _ _ _ _ _ _ _ _ _ _ _ _ _ _ _ _ _ _ _ _ _ _ _ _ _ _ wx => ∃ (k : Nat), (∃ (s : SS) (v0 v1 v2 v3 v4 v5 v6 v7 : Value), UP w wx g b n k s s v0 v1 v2 v3 v4 v5 v6 v7))
    case first =>
      go_wp2_with fail
      refine main_loop _ _ _ _ _ _ _ _ _ _ _ _ _ _ _ _ _ _ _ _ _ _ _ _ _ _ _ _ _ _ _ _ _ _ _ _ _ _ _ _ _ _ _ _ _ _ _ _ _ _ _ _ _ _ _ _ _ _ _ _ _ _ _ _ _ _ _ _ _ _ _ _ _ _ _ _ _ _ _ _ _ _ _ _ _ _ _ _ _ _ _ _ _ _ _ _ _ _ _ _ _ _ _ _ _ _ _ _ _ _ _ _ _ _ _ _ _ _ _ _ _ _ _ _ _ _ _ _ _ _ _ _ _ _ _ _ _ _ _ _ _ _ _ _ _ _ _ _ _ _ _ _ _ _ _ _ _ _ _ _ _ _ _ _ _ _ _ _ _ _ _ _ _ _ _ _ _ _ _ _ _ _ _ _ _ _ _ h1 h4 HN.out HG ?_ ⟨ssnew, _, _, _, _, _, _, _, _, HU0.out⟩ (fun a' w'' hX => ?_)
      · intro c0 a0 d0 v0 w0 h
        cases d0 <;> exact h
      unfold WX at hX
      obtain ⟨u2, hX⟩ := hX
      obtain ⟨u3, hX⟩ := hX
      obtain ⟨u4, hX⟩ := hX
      obtain ⟨u6, hX⟩ := hX
      obtain ⟨u8, hX⟩ := hX
      obtain ⟨u9, hX⟩ := hX
      obtain ⟨u10, hX⟩ := hX
      obtain ⟨u11, hX⟩ := hX
      obtain ⟨u12, hX⟩ := hX
      obtain ⟨u13, hX⟩ := hX
      obtain ⟨u14, hX⟩ := hX
      obtain ⟨u15, hX⟩ := hX
      obtain ⟨u16, hX⟩ := hX
      obtain ⟨u17, hX⟩ := hX
      obtain ⟨u18, hX⟩ := hX
      obtain ⟨u19, hX⟩ := hX
      obtain ⟨u20, hX⟩ := hX
      obtain ⟨u21, hX⟩ := hX
      obtain ⟨u22, hX⟩ := hX
      obtain ⟨u23, hX⟩ := hX
      obtain ⟨u24, hX⟩ := hX
      obtain ⟨u25, hX⟩ := hX
      obtain ⟨u26, hX⟩ := hX
      obtain ⟨u27, hX⟩ := hX
      obtain ⟨u28, hX⟩ := hX
      obtain ⟨u29, hX⟩ := hX
      obtain ⟨u30, hX⟩ := hX
      obtain ⟨u31, hX⟩ := hX
      obtain ⟨u32, hX⟩ := hX
      obtain ⟨u33, hX⟩ := hX
      obtain ⟨u34, hX⟩ := hX
      obtain ⟨u35, hX⟩ := hX
      obtain ⟨u36, hX⟩ := hX
      obtain ⟨u37, hX⟩ := hX
      obtain ⟨u38, hX⟩ := hX
      obtain ⟨u39, hX⟩ := hX
      obtain ⟨u40, hX⟩ := hX
      obtain ⟨u41, hX⟩ := hX
      obtain ⟨u42, hX⟩ := hX
      obtain ⟨u43, hX⟩ := hX
      obtain ⟨u44, hX⟩ := hX
      obtain ⟨u45, hX⟩ := hX
      obtain ⟨u46, hX⟩ := hX
      obtain ⟨u47, hX⟩ := hX
      obtain ⟨u48, hX⟩ := hX
      obtain ⟨u49, hX⟩ := hX
      obtain ⟨u50, hX⟩ := hX
      obtain ⟨u51, hX⟩ := hX
      obtain ⟨u52, hX⟩ := hX
      obtain ⟨u53, hX⟩ := hX
      obtain ⟨u54, hX⟩ := hX
      obtain ⟨u55, hX⟩ := hX
      obtain ⟨u56, hX⟩ := hX
      obtain ⟨u57, hX⟩ := hX
      obtain ⟨u58, hX⟩ := hX
      obtain ⟨u59, hX⟩ := hX
      obtain ⟨u60, hX⟩ := hX
      obtain ⟨u61, hX⟩ := hX
      obtain ⟨u62, hX⟩ := hX
      obtain ⟨u63, hX⟩ := hX
      obtain ⟨u64, hX⟩ := hX
      obtain ⟨u65, hX⟩ := hX
      obtain ⟨u66, hX⟩ := hX
      obtain ⟨u67, hX⟩ := hX
      obtain ⟨u68, hX⟩ := hX
      obtain ⟨u69, hX⟩ := hX
      obtain ⟨u70, hX⟩ := hX
      obtain ⟨u71, hX⟩ := hX
      obtain ⟨u72, hX⟩ := hX
      obtain ⟨u73, hX⟩ := hX
      obtain ⟨u74, hX⟩ := hX
      obtain ⟨u75, hX⟩ := hX
      obtain ⟨u76, hX⟩ := hX
      obtain ⟨u77, hX⟩ := hX
      obtain ⟨u78, hX⟩ := hX
      obtain ⟨u79, hX⟩ := hX
      obtain ⟨u80, hX⟩ := hX
      obtain ⟨u81, hX⟩ := hX
      obtain ⟨u82, hX⟩ := hX
      obtain ⟨u83, hX⟩ := hX
      obtain ⟨u84, hX⟩ := hX
      obtain ⟨u85, hX⟩ := hX
      obtain ⟨u86, hX⟩ := hX
      obtain ⟨u87, hX⟩ := hX
      obtain ⟨u88, hX⟩ := hX
      obtain ⟨u89, hX⟩ := hX
      obtain ⟨u90, hX⟩ := hX
      obtain ⟨u91, hX⟩ := hX
      obtain ⟨u92, hX⟩ := hX
      obtain ⟨u93, hX⟩ := hX
      obtain ⟨u94, hX⟩ := hX
      obtain ⟨u95, hX⟩ := hX
      obtain ⟨u96, hX⟩ := hX
      obtain ⟨u97, hX⟩ := hX
      obtain ⟨u98, hX⟩ := hX
      obtain ⟨u99, hX⟩ := hX
      obtain ⟨u100, hX⟩ := hX
      obtain ⟨u101, hX⟩ := hX
      obtain ⟨u102, hX⟩ := hX
      obtain ⟨u103, hX⟩ := hX
      obtain ⟨u104, hX⟩ := hX
      obtain ⟨u105, hX⟩ := hX
      obtain ⟨u106, hX⟩ := hX
      obtain ⟨u107, hX⟩ := hX
      obtain ⟨u108, hX⟩ := hX
      obtain ⟨u109, hX⟩ := hX
      obtain ⟨u110, hX⟩ := hX
      obtain ⟨u111, hX⟩ := hX
      obtain ⟨u112, hX⟩ := hX
      obtain ⟨u113, hX⟩ := hX
      obtain ⟨u114, hX⟩ := hX
      obtain ⟨u115, hX⟩ := hX
      obtain ⟨u116, hX⟩ := hX
      obtain ⟨u117, hX⟩ := hX
      obtain ⟨u118, hX⟩ := hX
      obtain ⟨u119, hX⟩ := hX
      obtain ⟨u120, hX⟩ := hX
      obtain ⟨u121, hX⟩ := hX
      obtain ⟨u122, hX⟩ := hX
      obtain ⟨u123, hX⟩ := hX
      obtain ⟨u124, hX⟩ := hX
      obtain ⟨u125, hX⟩ := hX
      obtain ⟨u126, hX⟩ := hX
      obtain ⟨u127, hX⟩ := hX
      obtain ⟨u128, hX⟩ := hX
      obtain ⟨u129, hX⟩ := hX
      obtain ⟨u130, hX⟩ := hX
      obtain ⟨u131, hX⟩ := hX
      obtain ⟨u132, hX⟩ := hX
      obtain ⟨u133, hX⟩ := hX
      obtain ⟨u134, hX⟩ := hX
      obtain ⟨u135, hX⟩ := hX
      obtain ⟨u136, hX⟩ := hX
      obtain ⟨u137, hX⟩ := hX
      obtain ⟨u138, hX⟩ := hX
      obtain ⟨u139, hX⟩ := hX
      obtain ⟨u140, hX⟩ := hX
      obtain ⟨u141, hX⟩ := hX
      obtain ⟨u142, hX⟩ := hX
      obtain ⟨u143, hX⟩ := hX
      obtain ⟨u144, hX⟩ := hX
      obtain ⟨u145, hX⟩ := hX
      obtain ⟨u146, hX⟩ := hX
      obtain ⟨u147, hX⟩ := hX
      obtain ⟨u148, hX⟩ := hX
      obtain ⟨u149, hX⟩ := hX
      obtain ⟨u150, hX⟩ := hX
      obtain ⟨u151, hX⟩ := hX
      obtain ⟨u152, hX⟩ := hX
      obtain ⟨u153, hX⟩ := hX
      obtain ⟨u154, hX⟩ := hX
      obtain ⟨u155, hX⟩ := hX
      obtain ⟨u156, hX⟩ := hX
      obtain ⟨u157, hX⟩ := hX
      obtain ⟨u158, hX⟩ := hX
      obtain ⟨u159, hX⟩ := hX
      obtain ⟨u160, hX⟩ := hX
      obtain ⟨u161, hX⟩ := hX
      obtain ⟨u162, hX⟩ := hX
      obtain ⟨u163, hX⟩ := hX
      obtain ⟨u164, hX⟩ := hX
      obtain ⟨u165, hX⟩ := hX
      obtain ⟨u166, hX⟩ := hX
      obtain ⟨u167, hX⟩ := hX
      obtain ⟨u168, hX⟩ := hX
      obtain ⟨u169, hX⟩ := hX
      obtain ⟨u170, hX⟩ := hX
      obtain ⟨u171, hX⟩ := hX
      obtain ⟨u172, hX⟩ := hX
      obtain ⟨u173, hX⟩ := hX
      obtain ⟨u174, hX⟩ := hX
      obtain ⟨u175, hX⟩ := hX
      obtain ⟨u176, hX⟩ := hX
      obtain ⟨u177, hX⟩ := hX
      obtain ⟨u178, hX⟩ := hX
      obtain ⟨u179, hX⟩ := hX
      obtain ⟨u180, hX⟩ := hX
      obtain ⟨u181, hX⟩ := hX
      obtain ⟨u182, hX⟩ := hX
      obtain ⟨u183, hX⟩ := hX
      obtain ⟨u184, hX⟩ := hX
      obtain ⟨u185, hX⟩ := hX
      obtain ⟨u186, hX⟩ := hX
      obtain ⟨u187, hX⟩ := hX
      obtain ⟨u188, hX⟩ := hX
      obtain ⟨u189, hX⟩ := hX
      obtain ⟨u190, hX⟩ := hX
      obtain ⟨u191, hX⟩ := hX
      obtain ⟨⟨k, hk2, hinv⟩, rfl⟩ := hX
      have HINV := Lib.hid hinv
      clear hinv HU0
      go_wp2_with fail
      go_meet
      exact ⟨k, HINV.out⟩
    case rest =>
      clear HU0
      obtain ⟨k, s, v0, v1, v2, v3, v4, v5, v6, v7, hup⟩ := hcut
      obtain ⟨W0, rfl⟩ : ∃ W0 : World, W0 = wc := ⟨_, rfl⟩
      have HU := Lib.hid hup
      have HA1 := Lib.hid (atL hup.lk (-1))
      rw [if_neg (by omega)] at HA1
      have HA2 := Lib.hid (atL hup.lk n)
      rw [if_neg (by omega)] at HA2
      clear hup
      go_wp2_with (first | (go_at_call 15; (with_reducible refine HA1.out.mono ?_); rintro e w9 ⟨rfl, rfl⟩) | (go_at_call 15; (with_reducible refine HA2.out.mono ?_); rintro e w9 ⟨rfl, rfl⟩))
      go_ret
      exact ⟨rfl, HU.out.lk.below⟩
  · have HZ := Lib.hid hz
    by_cases hz1 : z < 1
    all_goals
      have hz4 : z < 1 ∨ 4 < z := by omega
      clear hz
      have hz5 : ¬ z < 1 → 4 < z := fun h => by omega
      try have hz6 := hz5 hz1
      clear hz5 hz4
      go_enter Tryd.func3, Tryd.ntmps3
      go_wp2_with (first | (go_at_call 5; refine (newBad (Below.refl _ _) z HZ.out).mono ?_; rintro e w2 ⟨rfl, hb⟩; have HB2 := Lib.hid hb; clear hb) | (go_at_call 6; refine (errorIs_any 1 1 w2 (HG.out.below HB2.out HG.out.lt)).mono ?_; rw [decide_eq_true rfl]; rintro e w3 ⟨rfl, hb⟩; have HB3 := Lib.hid hb; clear hb))
      go_ret
      exact ⟨rfl, HB2.out.trans (HB3.out.mono HB2.out.size)⟩
end Go.Proofs.YtnplhjbbkccdnaaDoor.Snap
