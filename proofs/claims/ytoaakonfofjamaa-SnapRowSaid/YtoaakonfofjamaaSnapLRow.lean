/-
  The walk of latchgarthlaw3.SnapRow: it answers true, whatever the number of hands, and the steps.
-/
import Derived.Test.YtoaakonfofjamaaSnapRowL
import Derived.Deep.DeepCutAuto
import Derived.Deep.CutBlock
namespace Go.Proofs.Ytoaakonfofjamaa.Snap
open Go.RowKit
set_option maxHeartbeats 8000000 in
set_option maxRecDepth 100000 in
theorem row_law (z : Int) (sv : Value) (steps : List (List Int)) (w : World) (hn : Rws w w.heap.size sv steps) :
    Calls Try.prog 3 #[.int .i64 z, sv] w fun e w' => e = .returned (.bool true) ∧ Below w.heap.size w w' := by
  obtain ⟨A, c, rfl, hlen, -⟩ := id hn
  have HN := Lib.hid hn
  clear hn
  by_cases hz : 1 ≤ z ∧ z ≤ 4
  · obtain ⟨n, rfl⟩ := Int.eq_ofNat_of_zero_le (show 0 ≤ z by omega)
    have h1 : 1 ≤ n := by omega
    have h4 : n ≤ 4 := by omega
    clear hz
    have hmk := make_ints n (by omega)
    have hmb := make_bools n (by omega)
    have hmr := make_rows n (by omega)
    go_enter Try.func3, Try.ntmps3
    go_upto_block 0 with (first | (go_at_call 5; refine (fact_any _).mono ?_; rintro e w1 ⟨rfl, hb⟩; have HB := Lib.hid hb; clear hb) | (go_at_call 6; refine (newL HB.out h1 h4).mono ?_; rintro e w2 ⟨g, rfl, hl⟩; have HL := Lib.hid hl; clear hl))
    obtain ⟨h, hh⟩ : ∃ h, h = w2.heap.size := ⟨_, rfl⟩
    obtain ⟨V, hV⟩ : ∃ V, V = ((((w2.alloc (.cells (madeCells #[.int .i64 0] n) 3)).alloc (.cells (madeCells #[.int .i64 0] n) 3)).alloc (.cells (madeCells #[.bool false] n) 4)).alloc (.cells (madeCells #[.int .i64 0] n) 3)).alloc (.cells (madeCells #[.slice none 0 0] n) 29) := ⟨_, rfl⟩
    have hog : Inv w V g h n 0 (.slice none 0 0) (.slice none 0 0) (.slice none 0 0) := by
      rw [hV, hh]
      exact ⟨0, ssnew, _, _, _, _, _, _, _, _, _, _, Nat.le_refl _, HL.out.on (five_below w2 n) (Nat.le_refl _), HL.out.lk.lt, five_mr w2 n, RS.new n, Nat.le_refl _⟩
    rw [← hh, ← hV]
    have HO0 := Lib.hid hog
    clear hog hmk hmb hmr HL HB
    go_cut [13, 14, 15] (fun vL vF vT wx => ∃ k : Nat, k ≤ 300 ∧ Inv w wx g h n k vL vF vT)
    case first =>
      go_wp2_with fail
      refine main_loop _ _ _ _ _ _ _ _ _ _ _ _ _ _ _ _ _ _ _ _ _ _ _ _ _ _ _ _ _ _ _ _ _ _ _ _ _ _ _ _ _ _ _ _ _ _ _ _ _ _ _ _ _ _ _ _ _ _ _ _ _ _ _ _ _ _ _ _ _ _ _ _ _ _ _ _ _ _ _ _ _ _ _ _ _ _ _ _ _ _ _ _ _ _ _ _ _ _ _ _ _ _ _ _ _ _ _ _ _ _ _ _ _ _ _ _ _ _ _ _ _ _ _ _ _ _ _ _ _ _ _ _ _ _ _ _ _ _ _ _ _ _ _ _ _ _ _ _ _ _ _ _ _ _ _ _ _ _ _ _ _ _ _ _ _ _ _ _ _ _ _ _ h1 h4 HN.out HO0.out (fun a' w'' hX => ?_)
      unfold WX at hX
      obtain ⟨u4, hX⟩ := hX
      obtain ⟨u13, hX⟩ := hX
      obtain ⟨u14, hX⟩ := hX
      obtain ⟨u15, hX⟩ := hX
      obtain ⟨u16, hX⟩ := hX
      obtain ⟨u17, hX⟩ := hX
      obtain ⟨u18, hX⟩ := hX
      obtain ⟨u19, hX⟩ := hX
      obtain ⟨u20, hX⟩ := hX
      obtain ⟨u21, hX⟩ := hX
      obtain ⟨u22, hX⟩ := hX
      obtain ⟨u23, hX⟩ := hX
      obtain ⟨u55, hX⟩ := hX
      obtain ⟨u56, hX⟩ := hX
      obtain ⟨u57, hX⟩ := hX
      obtain ⟨u58, hX⟩ := hX
      obtain ⟨u59, hX⟩ := hX
      obtain ⟨u60, hX⟩ := hX
      obtain ⟨u61, hX⟩ := hX
      obtain ⟨u62, hX⟩ := hX
      obtain ⟨u63, hX⟩ := hX
      obtain ⟨u64, hX⟩ := hX
      obtain ⟨u65, hX⟩ := hX
      obtain ⟨u66, hX⟩ := hX
      obtain ⟨u67, hX⟩ := hX
      obtain ⟨u68, hX⟩ := hX
      obtain ⟨u69, hX⟩ := hX
      obtain ⟨u70, hX⟩ := hX
      obtain ⟨u71, hX⟩ := hX
      obtain ⟨u72, hX⟩ := hX
      obtain ⟨u73, hX⟩ := hX
      obtain ⟨u74, hX⟩ := hX
      obtain ⟨u75, hX⟩ := hX
      obtain ⟨u76, hX⟩ := hX
      obtain ⟨u77, hX⟩ := hX
      obtain ⟨u78, hX⟩ := hX
      obtain ⟨u79, hX⟩ := hX
      obtain ⟨u80, hX⟩ := hX
      obtain ⟨u81, hX⟩ := hX
      obtain ⟨u82, hX⟩ := hX
      obtain ⟨u83, hX⟩ := hX
      obtain ⟨u84, hX⟩ := hX
      obtain ⟨u85, hX⟩ := hX
      obtain ⟨u86, hX⟩ := hX
      obtain ⟨u87, hX⟩ := hX
      obtain ⟨u88, hX⟩ := hX
      obtain ⟨u89, hX⟩ := hX
      obtain ⟨u90, hX⟩ := hX
      obtain ⟨u91, hX⟩ := hX
      obtain ⟨u92, hX⟩ := hX
      obtain ⟨u93, hX⟩ := hX
      obtain ⟨u94, hX⟩ := hX
      obtain ⟨u95, hX⟩ := hX
      obtain ⟨u96, hX⟩ := hX
      obtain ⟨u97, hX⟩ := hX
      obtain ⟨u98, hX⟩ := hX
      obtain ⟨u99, hX⟩ := hX
      obtain ⟨u100, hX⟩ := hX
      obtain ⟨u101, hX⟩ := hX
      obtain ⟨u102, hX⟩ := hX
      obtain ⟨u103, hX⟩ := hX
      obtain ⟨u104, hX⟩ := hX
      obtain ⟨u105, hX⟩ := hX
      obtain ⟨u106, hX⟩ := hX
      obtain ⟨u107, hX⟩ := hX
      obtain ⟨u108, hX⟩ := hX
      obtain ⟨u109, hX⟩ := hX
      obtain ⟨u110, hX⟩ := hX
      obtain ⟨u111, hX⟩ := hX
      obtain ⟨u112, hX⟩ := hX
      obtain ⟨u113, hX⟩ := hX
      obtain ⟨u114, hX⟩ := hX
      obtain ⟨u115, hX⟩ := hX
      obtain ⟨u116, hX⟩ := hX
      obtain ⟨u117, hX⟩ := hX
      obtain ⟨u118, hX⟩ := hX
      obtain ⟨u119, hX⟩ := hX
      obtain ⟨u120, hX⟩ := hX
      obtain ⟨u121, hX⟩ := hX
      obtain ⟨u122, hX⟩ := hX
      obtain ⟨u123, hX⟩ := hX
      obtain ⟨u124, hX⟩ := hX
      obtain ⟨u125, hX⟩ := hX
      obtain ⟨u126, hX⟩ := hX
      obtain ⟨u127, hX⟩ := hX
      obtain ⟨u128, hX⟩ := hX
      obtain ⟨u129, hX⟩ := hX
      obtain ⟨u130, hX⟩ := hX
      obtain ⟨u131, hX⟩ := hX
      obtain ⟨u132, hX⟩ := hX
      obtain ⟨u133, hX⟩ := hX
      obtain ⟨u134, hX⟩ := hX
      obtain ⟨u135, hX⟩ := hX
      obtain ⟨u136, hX⟩ := hX
      obtain ⟨u137, hX⟩ := hX
      obtain ⟨u138, hX⟩ := hX
      obtain ⟨u139, hX⟩ := hX
      obtain ⟨u140, hX⟩ := hX
      obtain ⟨u141, hX⟩ := hX
      obtain ⟨u142, hX⟩ := hX
      obtain ⟨u143, hX⟩ := hX
      obtain ⟨u144, hX⟩ := hX
      obtain ⟨u145, hX⟩ := hX
      obtain ⟨u146, hX⟩ := hX
      obtain ⟨u147, hX⟩ := hX
      obtain ⟨u148, hX⟩ := hX
      obtain ⟨u149, hX⟩ := hX
      obtain ⟨u150, hX⟩ := hX
      obtain ⟨u151, hX⟩ := hX
      obtain ⟨u152, hX⟩ := hX
      obtain ⟨u153, hX⟩ := hX
      obtain ⟨u154, hX⟩ := hX
      obtain ⟨u155, hX⟩ := hX
      obtain ⟨u156, hX⟩ := hX
      obtain ⟨u157, hX⟩ := hX
      obtain ⟨u158, hX⟩ := hX
      obtain ⟨u159, hX⟩ := hX
      obtain ⟨u160, hX⟩ := hX
      obtain ⟨u161, hX⟩ := hX
      obtain ⟨u162, hX⟩ := hX
      obtain ⟨u163, hX⟩ := hX
      obtain ⟨u164, hX⟩ := hX
      obtain ⟨u165, hX⟩ := hX
      obtain ⟨u166, hX⟩ := hX
      obtain ⟨u167, hX⟩ := hX
      obtain ⟨u168, hX⟩ := hX
      obtain ⟨u169, hX⟩ := hX
      obtain ⟨u170, hX⟩ := hX
      obtain ⟨u171, hX⟩ := hX
      obtain ⟨u172, hX⟩ := hX
      obtain ⟨u173, hX⟩ := hX
      obtain ⟨u174, hX⟩ := hX
      obtain ⟨u175, hX⟩ := hX
      obtain ⟨u176, hX⟩ := hX
      obtain ⟨u177, hX⟩ := hX
      obtain ⟨u178, hX⟩ := hX
      obtain ⟨u179, hX⟩ := hX
      obtain ⟨u180, hX⟩ := hX
      obtain ⟨u181, hX⟩ := hX
      obtain ⟨u182, hX⟩ := hX
      obtain ⟨u183, hX⟩ := hX
      obtain ⟨u184, hX⟩ := hX
      obtain ⟨u185, hX⟩ := hX
      obtain ⟨u186, hX⟩ := hX
      obtain ⟨u187, hX⟩ := hX
      obtain ⟨u188, hX⟩ := hX
      obtain ⟨u189, hX⟩ := hX
      obtain ⟨u190, hX⟩ := hX
      obtain ⟨u191, hX⟩ := hX
      obtain ⟨u192, hX⟩ := hX
      obtain ⟨u193, hX⟩ := hX
      obtain ⟨u194, hX⟩ := hX
      obtain ⟨u195, hX⟩ := hX
      obtain ⟨u196, hX⟩ := hX
      obtain ⟨u197, hX⟩ := hX
      obtain ⟨u198, hX⟩ := hX
      obtain ⟨u199, hX⟩ := hX
      obtain ⟨u200, hX⟩ := hX
      obtain ⟨u201, hX⟩ := hX
      obtain ⟨u202, hX⟩ := hX
      obtain ⟨u203, hX⟩ := hX
      obtain ⟨u204, hX⟩ := hX
      obtain ⟨u205, hX⟩ := hX
      obtain ⟨u206, hX⟩ := hX
      obtain ⟨u207, hX⟩ := hX
      obtain ⟨u208, hX⟩ := hX
      obtain ⟨u209, hX⟩ := hX
      obtain ⟨u210, hX⟩ := hX
      obtain ⟨u211, hX⟩ := hX
      obtain ⟨u212, hX⟩ := hX
      obtain ⟨u213, hX⟩ := hX
      obtain ⟨u214, hX⟩ := hX
      obtain ⟨u215, hX⟩ := hX
      obtain ⟨⟨k, hk2, hinv⟩, rfl⟩ := hX
      have HINV := Lib.hid hinv
      clear hinv HO0 hh hV
      go_wp2_with fail
      go_meet
      exact ⟨k, hk2, HINV.out⟩
    case rest =>
      clear HO0 hh hV
      obtain ⟨k, hk300, hinv⟩ := hcut
      obtain ⟨W0, rfl⟩ : ∃ W0 : World, W0 = wc := ⟨_, rfl⟩
      obtain ⟨T, s, Hh, bt, B, Wt, Sn, bl, hd, L, xF, xT, hT, hl, hgh, hm, hr, hLk⟩ := hinv
      obtain ⟨AL, cL, rfl⟩ := hm.lform
      obtain ⟨AF, cF, eF, hF⟩ := hm.rg.form (i := 0) (by omega)
      obtain ⟨AT, cT, eT, hTT⟩ := hm.rg.form (i := 1) (by omega)
      have hlF : (at4 xF xT [] [] 0).length = L.length := hr.lf
      have hlT : (at4 xF xT [] [] 1).length = L.length := hr.lt
      rw [hlF] at eF hF
      rw [hlT] at eT hTT
      have eF : u14 = .slice AF L.length cF := eF
      have eT : u15 = .slice AT L.length cT := eT
      subst eF eT
      have HM := Lib.hid hm
      have HR := Lib.hid hr
      have HB := Lib.hid hl.below
      have HF := Lib.hid hF
      have HTT := Lib.hid hTT
      obtain ⟨K, hK⟩ : ∃ K, K = L.length := ⟨_, rfl⟩
      have HK := Lib.hid hK
      rw [← hK] at HM hLk ⊢
      rw [← hK] at HF HTT
      have hK300 : K ≤ 300 := by omega
      have hg : ∀ i, i < K → ∃ f, L[i]? = some f := fun i hi => ⟨L[i]'(by omega), List.getElem?_eq_getElem (by omega)⟩
      have HG := Lib.hid hg
      clear hT hl hgh hm hr hLk hF hTT hlF hlT hK hg
      go_wp2_with fail
      go_loopw [24] (fun xv wr => ∃ i : Nat, i ≤ K ∧ xv = .int .i64 i ∧ ∃ j, wr = W0.drewN j) (fun xv _ => K - (intOf xv).toNat)
      case atStart => exact ⟨0, by omega, rfl, 0, rfl⟩
      case round =>
        obtain ⟨i, hi, rfl, j, rfl⟩ := hrel
        by_cases hiK : i < K
        · have hiI : (i : Int) < K := by omega
          obtain ⟨f, hf⟩ := HG.out i hiK
          obtain ⟨gl, cl, el, bf, of, cf, hcf, hcq⟩ := HM.out.look hf
          injection el with el1 el2 el3
          clear el2 el3
          subst el1
          obtain ⟨bT, rfl, -, -⟩ := HTT.out (by omega)
          obtain ⟨bF, rfl, -, -⟩ := HF.out (by omega)
          obtain ⟨zt, hzt⟩ : ∃ zt, xT[i]? = some zt := ⟨xT[i]'(by have := HR.out.lt; have := HK.out; omega), List.getElem?_eq_getElem _⟩
          have hct := HM.out.rg.cell (i := 1) (by omega) rfl (j := i) (z := zt) hzt
          have HFF := Lib.hid hf
          have HZT := Lib.hid hzt
          have HCQ := Lib.hid hcq
          clear hf hzt hcq
          go_wp2_with fail
          go_loopw [25] (fun yv wr => ∃ i2 : Nat, i2 ≤ K ∧ yv = .int .i64 i2 ∧ ∃ j, wr = W0.drewN j) (fun yv _ => K - (intOf yv).toNat)
          case atStart => exact ⟨0, by omega, rfl, j, rfl⟩
          case round =>
            clear j
            obtain ⟨i2, hi2, rfl, j, rfl⟩ := hrel
            by_cases hi2K : i2 < K
            · have hi2I : (i2 : Int) < K := by omega
              obtain ⟨f2, hf2⟩ := HG.out i2 hi2K
              obtain ⟨gl2, cl2, el, bf2, of2, cf2, hcf2, hcq2⟩ := HM.out.look hf2
              injection el with el1 el2 el3
              clear el2 el3
              injection el1 with el1
              injection el1 with el1 _ _
              subst el1
              obtain ⟨zf, hzf⟩ : ∃ zf, xF[i2]? = some zf := ⟨xF[i2]'(by have := HR.out.lf; have := HK.out; omega), List.getElem?_eq_getElem _⟩
              have hcF := HM.out.rg.cell (i := 0) (by omega) rfl (j := i2) (z := zf) hzf
              have HTWO := Lib.hid (HR.out.two HFF.out hf2 HZT.out hzf)
              have HCQ2 := Lib.hid hcq2
              clear hf2 hzf hcq2
              go_wp2_with fail
              go_loopw [26, 27, 28] (fun le mo qv wr => ∃ q : Nat, q ≤ n ∧ qv = .int .i64 q ∧ le = .bool (anyLt f f2 q) ∧ mo = .bool (anyLt f2 f q) ∧ ∃ j, wr = W0.drewN j) (fun _ _ qv _ => n - (intOf qv).toNat)
              case atStart => exact ⟨0, by omega, rfl, rfl, rfl, j, rfl⟩
              case round =>
                clear j
                obtain ⟨q, hq, rfl, rfl, rfl, j, rfl⟩ := hrel
                by_cases hqn : q < n
                · have hqI : (q : Int) < n := by omega
                  have e1 := HCQ.out q hqn
                  have e2 := HCQ2.out q hqn
                  obtain ⟨a1, ha1⟩ : ∃ a1, a1 = f q := ⟨_, rfl⟩
                  obtain ⟨a2, ha2⟩ : ∃ a2, a2 = f2 q := ⟨_, rfl⟩
                  rw [← ha1] at e1
                  rw [← ha2] at e2
                  have hL1 : anyLt f f2 (q + 1) = (anyLt f f2 q || decide (a1 < a2)) := by rw [ha1, ha2]; rfl
                  have hL2 : anyLt f2 f (q + 1) = (anyLt f2 f q || decide (a2 < a1)) := by rw [ha1, ha2]; rfl
                  obtain ⟨D1, hD1⟩ : ∃ D1, decide (a1 < a2) = D1 := ⟨_, rfl⟩
                  obtain ⟨D2, hD2⟩ : ∃ D2, decide (a2 < a1) = D2 := ⟨_, rfl⟩
                  have n1 : decide ((a1 : Int) < (a2 : Int)) = D1 := by rw [← hD1]; exact decide_eq_decide.2 (by omega)
                  have n2 : decide ((a2 : Int) < (a1 : Int)) = D2 := by rw [← hD2]; exact decide_eq_decide.2 (by omega)
                  rw [hD1] at hL1
                  rw [hD2] at hL2
                  have HL1 := Lib.hid hL1
                  have HL2 := Lib.hid hL2
                  clear hL1 hL2 ha1 ha2
                  generalize anyLt f f2 q = X1 at *
                  generalize anyLt f2 f q = X2 at *
                  cases X1 <;> cases X2
                  all_goals
                    go_wp2_with fail
                    go_quiet (fail)
                    go_wp2_with fail
                    go_quiet (fail)
                    go_wp2
                    go_roundw
                    case rel =>
                      refine ⟨q + 1, by omega, by go_num, ?_, ?_, _, rfl⟩
                      · rw [HL1.out]; rfl
                      · rw [HL2.out]; rfl
                    case measure => simp [intOf]; omega
                · have hqI : ¬ (q : Int) < n := by omega
                  obtain rfl : q = n := by omega
                  obtain ⟨t1, t2⟩ := HTWO.out
                  rw [← anyLt_iff, ← anyLt_iff] at t1
                  rw [← anyLt_iff] at t2
                  have hiI2 : (i : Int) < K := hiI
                  generalize anyLt f f2 q = X1 at *
                  generalize anyLt f2 f q = X2 at *
                  obtain ⟨Z, hZ⟩ : ∃ Z, decide (zt < zf) = Z := ⟨_, rfl⟩
                  have hZ2 : Z = true → zt < zf := fun h => of_decide_eq_true (hZ.trans h)
                  cases X1 <;> cases X2 <;> cases Z
                  · go_wp2_with fail
                    go_quiet (fail)
                    go_wp2
                    go_roundw
                    case rel => exact ⟨i2 + 1, by omega, by go_num, _, rfl⟩
                    case measure => simp [intOf]; omega
                  · go_wp2_with fail
                    go_quiet (fail)
                    go_wp2
                    go_roundw
                    case rel => exact ⟨i2 + 1, by omega, by go_num, _, rfl⟩
                    case measure => simp [intOf]; omega
                  · go_wp2_with fail
                    go_quiet (fail)
                    go_wp2
                    go_roundw
                    case rel => exact ⟨i2 + 1, by omega, by go_num, _, rfl⟩
                    case measure => simp [intOf]; omega
                  · exact absurd ⟨hZ2 rfl, rfl⟩ t2
                  · go_wp2_with fail
                    go_quiet (fail)
                    go_wp2
                    go_roundw
                    case rel => exact ⟨i2 + 1, by omega, by go_num, _, rfl⟩
                    case measure => simp [intOf]; omega
                  · go_wp2_with fail
                    go_quiet (fail)
                    go_wp2
                    go_roundw
                    case rel => exact ⟨i2 + 1, by omega, by go_num, _, rfl⟩
                    case measure => simp [intOf]; omega
                  · exact absurd ⟨rfl, rfl⟩ t1
                  · exact absurd ⟨rfl, rfl⟩ t1
            · have hi2I : ¬ (i2 : Int) < K := by omega
              go_wp2
              go_roundw
              case rel => exact ⟨i + 1, by omega, by go_num, j, rfl⟩
              case measure => simp [intOf]; omega
        · have hiI : ¬ (i : Int) < K := by omega
          go_wp2
          go_ret
          exact ⟨rfl, below_drewN HB.out _⟩
  · have HZ := Lib.hid hz
    by_cases hz1 : z < 1
    all_goals
      clear hz
      go_enter Try.func3, Try.ntmps3
      go_wp2_with (first | (go_at_call 5; refine (fact_any _).mono ?_; rintro e w1 ⟨rfl, hb⟩; have HB := Lib.hid hb; clear hb) | (go_at_call 6; refine (newBad HB.out z HZ.out).mono ?_; rw [errV_one]; rintro e w2 ⟨rfl, hb⟩; have HB2 := Lib.hid hb; clear hb))
      go_ret
      first | exact ⟨rfl, HB2.out⟩ | exact ⟨congrArg (fun b => Ending.returned (.bool b)) (bad_true HZ.out), HB2.out⟩
end Go.Proofs.Ytoaakonfofjamaa.Snap
