/-
  What prog.Run answers.
-/
import Derived.Test.YtkohobbjnafljaaDoorTold
import Derived.Test.YtkohobbjnafljaaDoorRun
import Derived.Test.YtkohobbjnafljaaDoorCheck
import Derived.Deep.RegionHeld3
import Derived.Deep.MidRow
namespace Go.Proofs.YtkohobbjnafljaaDoor
open Go.RowKit

theorem runErr_check {words : Int} {hs : List (List Ln)} {script : List Int} (h : check words hs ≠ 0) : runErr words hs script = check words hs := by simp [runErr, h]
theorem runErr_long {words : Int} {hs : List (List Ln)} {script : List Int} (h : check words hs = 0) (h2 : 40 < script.length) : runErr words hs script = 4 := by simp [runErr, h, h2]
theorem runErr_bad {words : Int} {hs : List (List Ln)} {script : List Int} (h : check words hs = 0) (h2 : script.length ≤ 40) (i : Nat) (x : Int) (hx : script[i]? = some x) (hb : inR x 0 ((hs.length : Int) - 1) = false) : runErr words hs script = 1 := by
  have := not_all_of (fun h => inR h 0 ((hs.length : Int) - 1)) script i x hx hb
  simp [runErr, h, show ¬ 40 < script.length by omega, this]
theorem runErr_good {words : Int} {hs : List (List Ln)} {script : List Int} (h : check words hs = 0) (h2 : script.length ≤ 40) (hb : script.all (fun h => inR h 0 ((hs.length : Int) - 1)) = true) : runErr words hs script = 0 := by
  simp [runErr, h, show ¬ 40 < script.length by omega, hb]
theorem runTold_bad {words : Int} {hs : List (List Ln)} {script : List Int} (h : runErr words hs script ≠ 0) : runTold words hs script = [] := by simp [runTold, h]
theorem nums_nil (w : World) (B : Nat) : Nums w B (.slice none 0 0) [] := ⟨none, 0, rfl, by simp, fun h => by simp at h⟩

theorem list16 (l : List Int) (h : l.length = 16) : ∃ z0 z1 z2 z3 z4 z5 z6 z7 z8 z9 z10 z11 z12 z13 z14 z15, l = [z0, z1, z2, z3, z4, z5, z6, z7, z8, z9, z10, z11, z12, z13, z14, z15] := by
  match l, h with
  | [z0, z1, z2, z3, z4, z5, z6, z7, z8, z9, z10, z11, z12, z13, z14, z15], _ => exact ⟨z0, z1, z2, z3, z4, z5, z6, z7, z8, z9, z10, z11, z12, z13, z14, z15, rfl⟩

def RunPost (w : World) (words : Int) (hs : List (List Ln)) (script : List Int) (e : Ending) (w' : World) : Prop :=
  ∃ v, e = .returned (.tuple #[v, errV 45 (runErr words hs script)]) ∧ Nums w' w'.heap.size v (runTold words hs script) ∧ Below w.heap.size w w'

set_option maxHeartbeats 1000000 in
theorem run_check (words : Int) (hv sv : Value) (hs : List (List Ln)) (script : List Int) (w : World) (hh : Hands w w.heap.size hv hs) (hc : check words hs ≠ 0) :
    Calls Tryd.prog 9 #[.agg #[.int .i64 words, hv], sv] w (RunPost w words hs script) := by
  have HE := Lib.hid (runErr_check (script := script) hc)
  have HH := Lib.hid hh
  have HC := Lib.hid hc
  obtain ⟨A, c, rfl, hlen, hh⟩ := hh
  have HV := Lib.hid (show errV 45 (check words hs) = .iface 45 (.int .i64 (check words hs)) by simp [errV, hc])
  clear hh hc
  have HB := Lib.hid ((Below.refl w.heap.size w).alloc (Nat.le_refl _) (.cells #[.int .i64 words, .slice A hs.length c] 24))
  go_enter Tryd.func9, Tryd.ntmps9
  go_wp2_with (go_at_call 6; refine (check_any words _ hs _ ((HH.out.below HB.out (Nat.le_refl _)).more (by simp))).mono ?_; rw [HV.out]; rintro e w1 ⟨rfl, hb1⟩)
  go_ret2
  exact ⟨_, by rw [HE.out, HV.out]; rfl, by rw [runTold_bad (by rw [HE.out]; exact HC.out)]; exact nums_nil _ _, HB.out.trans (hb1.mono (by simp))⟩

set_option maxHeartbeats 1000000 in
theorem run_long (words : Int) (hv sv : Value) (hs : List (List Ln)) (script : List Int) (w : World) (hh : Hands w w.heap.size hv hs) (hn : Nums w w.heap.size sv script) (hc : check words hs = 0) (h40 : 40 < script.length) :
    Calls Tryd.prog 9 #[.agg #[.int .i64 words, hv], sv] w (RunPost w words hs script) := by
  have HE := Lib.hid (runErr_long hc h40)
  have HH := Lib.hid hh
  obtain ⟨A, c, rfl, hlen, hh⟩ := hh
  obtain ⟨A2, c2, rfl, hlen2, hn⟩ := hn
  have HV := Lib.hid (show errV 45 (check words hs) = .nilIface by simp [errV, hc])
  have h40' : (40 : Int) < script.length := by omega
  clear hh hc hn
  have HB := Lib.hid ((Below.refl w.heap.size w).alloc (Nat.le_refl _) (.cells #[.int .i64 words, .slice A hs.length c] 24))
  go_enter Tryd.func9, Tryd.ntmps9
  go_wp2_with (go_at_call 6; refine (check_any words _ hs _ ((HH.out.below HB.out (Nat.le_refl _)).more (by simp))).mono ?_; rw [HV.out]; rintro e w1 ⟨rfl, hb1⟩)
  go_ret2
  exact ⟨_, by rw [HE.out]; rfl, by rw [runTold_bad (by rw [HE.out]; decide)]; exact nums_nil _ _, HB.out.trans (hb1.mono (by simp))⟩

set_option maxRecDepth 100000 in
set_option maxHeartbeats 2000000 in
theorem run_rest (words : Int) (hv sv : Value) (hs : List (List Ln)) (script : List Int) (w : World) (hh : Hands w w.heap.size hv hs) (hn : Nums w w.heap.size sv script) (hc : check words hs = 0) (h40 : script.length ≤ 40) :
    Calls Tryd.prog 9 #[.agg #[.int .i64 words, hv], sv] w (RunPost w words hs script) := by
  have hW := check_well hc
  have HH := Lib.hid hh
  have HN0 := Lib.hid hn
  obtain ⟨A, c, rfl, hlen, hh⟩ := hh
  obtain ⟨A2, c2, rfl, hlen2, hn⟩ := hn
  have HN := Lib.hid hn
  have HV := Lib.hid (show errV 45 (check words hs) = .nilIface by simp [errV, hc])
  have HC := Lib.hid hc
  have h40' : decide ((40 : Int) < script.length) = false := decide_eq_false (by omega)
  have h3 := hW.few
  clear hh hc hn
  have HB := Lib.hid ((Below.refl w.heap.size w).alloc (Nat.le_refl _) (.cells #[.int .i64 words, .slice A hs.length c] 24))
  have HK := Lib.hid (Block.made w 24 #[.int .i64 words, .slice A hs.length c])
  go_enter Tryd.func9, Tryd.ntmps9
  go_wp2_with (go_at_call 6; refine (check_any words _ hs _ ((HH.out.below HB.out (Nat.le_refl _)).more (by simp))).mono ?_; rw [HV.out]; rintro e w1 ⟨rfl, hb1⟩; have K1 := Lib.hid (HK.out.below hb1 (by simp)); have B1 := Lib.hid (HB.out.trans (hb1.mono (by simp))))
  go_loopw [23] (fun i wr => ∃ k : Nat, k ≤ script.length ∧ i = .int .i64 k ∧ (script.take k).all (fun h => inR h 0 ((hs.length : Int) - 1)) = true ∧ Block wr w.heap.size 24 #[.int .i64 words, .slice A hs.length c] ∧ Below w.heap.size w wr) (fun i _ => script.length - (intOf i).toNat)
  case atStart => exact ⟨0, Nat.zero_le _, rfl, rfl, K1.out, B1.out⟩
  case round =>
    obtain ⟨k, hk, rfl, hall, kb, hb⟩ := hrel
    have c1 := kb.cell 1
    have c0 := kb.cell 0
    simp at c0 c1
    have KB := Lib.hid kb
    have HA := Lib.hid hall
    clear kb hall K1 B1 hb1
    by_cases hlt : k < script.length
    · obtain ⟨b, o, rfl, hbb, hcc⟩ := HN.out (by omega)
      obtain ⟨x, hx⟩ : ∃ x, script[k]? = some x := ⟨script[k], List.getElem?_eq_getElem hlt⟩
      have hxc := (hb.cell (p := ⟨b, o + k, none⟩) hbb).trans (hcc k x hx)
      have HX := Lib.hid hx
      clear hcc hx
      by_cases hgood : inR x 0 ((hs.length : Int) - 1) = true
      · have hI : ∀ w', Calls Tryd.prog 17 #[.int .i64 x, .int .i64 0, .int .i64 ((hs.length : Int) - 1)] w' fun e w'' => e = .returned (.bool true) ∧ w' = w'' := fun w' => by rw [← hgood]; exact within_any _ _ _ _
        have HI := Lib.hid hI
        have HG := Lib.hid hgood
        clear hI hgood
        go_wp2_with (go_at_call 17; refine (HI.out _).mono ?_; rintro e w2 ⟨rfl, rfl⟩)
        go_roundw
        case rel => exact ⟨k + 1, by omega, by go_num, all_take_succ _ _ _ _ HX.out HA.out HG.out, KB.out, hb⟩
        case measure => simp [intOf]; omega
      · have hbad : inR x 0 ((hs.length : Int) - 1) = false := by simpa using hgood
        have hI : ∀ w', Calls Tryd.prog 17 #[.int .i64 x, .int .i64 0, .int .i64 ((hs.length : Int) - 1)] w' fun e w'' => e = .returned (.bool false) ∧ w' = w'' := fun w' => by rw [← hbad]; exact within_any _ _ _ _
        have HI := Lib.hid hI
        have HE := Lib.hid (runErr_bad HC.out h40 k x HX.out hbad)
        clear hI hbad hgood
        go_wp2_with (go_at_call 17; refine (HI.out _).mono ?_; rintro e w2 ⟨rfl, rfl⟩)
        go_ret2
        exact ⟨_, by rw [HE.out]; rfl, by rw [runTold_bad (by rw [HE.out]; decide)]; exact nums_nil _ _, hb⟩
    · have hall := HA.out
      rw [List.take_of_length_le (by omega)] at hall
      have HALL := Lib.hid hall
      have HE := Lib.hid (runErr_good HC.out h40 hall)
      have HSC := Lib.hid (fun (h : Int) (hm : h ∈ script) => inR_true.1 (List.all_eq_true.1 hall h hm))
      clear hall
      have hsw : w.heap.size < wr.heap.size := KB.out.lt
      obtain ⟨ws, rfl⟩ : ∃ ws : World, ws = wr := ⟨_, rfl⟩
      have HK0 := Lib.hid (show Block (ws.alloc (.cells #[.int .i64 0, .int .i64 0, .int .i64 0, .int .i64 0, .int .i64 0, .int .i64 0, .int .i64 0, .int .i64 0, .int .i64 0, .int .i64 0, .int .i64 0, .int .i64 0, .int .i64 0, .int .i64 0, .int .i64 0, .int .i64 0] 61)) ws.heap.size 61 (row zero16) from Block.made _ _ _)
      go_wp2_with fail
      go_loopw [38] (fun i wr => ∃ k : Nat, k ≤ script.length ∧ i = .int .i64 k ∧ Block wr ws.heap.size 61 (row (scripted hs zero16 (script.take k))) ∧ Block wr w.heap.size 24 #[.int .i64 words, .slice A hs.length c] ∧ Below w.heap.size w wr) (fun i _ => script.length - (intOf i).toNat)
      case atStart => exact ⟨0, Nat.zero_le _, rfl, HK0.out, KB.out.alloc _, hb.alloc hb.size _⟩
      case round =>
        clear KB HA hb c0 c1
        obtain ⟨j, hj, rfl, ka, kb, hb⟩ := hrel
        have c1 := kb.cell 1
        have c0 := kb.cell 0
        simp at c0 c1
        have hsz := ka.lt
        have KA := Lib.hid ka
        have KB := Lib.hid kb
        clear ka kb
        obtain ⟨cur, hcur⟩ : ∃ cur, cur = scripted hs zero16 (script.take j) := ⟨_, rfl⟩
        have hfit : Fit hs cur := by rw [hcur]; exact scripted_fit hW _ _ (zero16_fit hs h3) fun h hm => by have := HSC.out h (List.mem_of_mem_take hm); omega
        rw [← hcur] at KA
        have HF := Lib.hid hfit
        have HSZ := Lib.hid ((row_size cur).trans hfit.1)
        have HCUR := Lib.hid hcur
        have HHr := Lib.hid ((HH.out.below hb (Nat.le_refl _)).more hb.size)
        clear hfit hcur
        by_cases hlt : j < script.length
        · obtain ⟨b, o, rfl, hbb, hcc⟩ := HN.out (by omega)
          obtain ⟨x, hx⟩ : ∃ x, script[j]? = some x := ⟨script[j], List.getElem?_eq_getElem hlt⟩
          have hxr := HSC.out x (List.mem_of_getElem? hx)
          have hxc := (hb.cell (p := ⟨b, o + j, none⟩) hbb).trans (hcc j x hx)
          obtain ⟨p, rfl⟩ := Int.eq_ofNat_of_zero_le hxr.1
          have hp : p < hs.length := by omega
          obtain ⟨n, hn⟩ := HF.out.2 p hp
          have HNN := Lib.hid hn
          have HX := Lib.hid hx
          have HL := Lib.hid (show hs[p]? = some hs[p] from List.getElem?_eq_getElem hp)
          clear hcc hx hn hxr
          have hw4 := hW.hi
          go_wp2_with (first | (refine wpList_load_row rfl 61 (.tmp 9) rfl ws.heap.size rfl _ (row cur) _ _ KA.out Tryd.underlying61 rfl (by rw [HSZ.out]; exact Tst.info) ?_) | (go_at_call 25; refine (step_any cur words _ hs p _ n _ HHr.out HL.out h3 HNN.out HF.out.1 hw4 (hW.short p _ HL.out) (hW.okay p _ HL.out)).mono ?_; rintro e w2 ⟨rfl, hb2⟩; have KA2 := Lib.hid (KA.out.below hb2 (by omega)); have hsz2 := hb2.size; have HS2 := Lib.hid ((row_size (stp hs cur p)).trans (stp_fit hW HF.out hp).1.1)) | (refine wpList_store_row rfl 61 (.tmp 9) (.tmp 45) rfl ws.heap.size (row (stp hs cur p)) rfl rfl _ _ KA2.out (by rw [HS2.out]; exact Tst.info) (by rw [HS2.out, HSZ.out]) (row_one _) ?_))
          go_roundw
          case rel =>
            refine ⟨j + 1, by omega, by go_num, ?_, (setRow_other _ _ _ _ (by omega)).trans (KB.out.below hb2 (by omega)), below_setRow (hb.trans (hb2.mono (by omega))) (by omega) _⟩
            have e : script.take (j + 1) = script.take j ++ [(p : Int)] := by
              rw [List.take_succ_eq_append_getElem (by omega)]
              congr 2
              have := HX.out
              rw [List.getElem?_eq_getElem (by omega)] at this
              exact Option.some.inj this
            rw [e, scripted_snoc, ← HCUR.out]
            exact setRow_heap _ _ _ _ _ _ KA2.out
          case measure => simp [intOf]; omega
        · have hall : scripted hs zero16 script = cur := by rw [HCUR.out, List.take_of_length_le (by omega)]
          have HT := Lib.hid hall
          have hszr : ws.heap.size < wr.heap.size := hsz
          clear hall
          obtain ⟨z0, z1, z2, z3, z4, z5, z6, z7, z8, z9, z10, z11, z12, z13, z14, z15, hcz⟩ := list16 cur HF.out.1
          subst hcz
          have S0 : wr.drew.cell? ⟨ws.heap.size, 0, none⟩ = some (.int .i64 z0) ∧ wr.drew.cell? ⟨ws.heap.size, 1, none⟩ = some (.int .i64 z1) ∧ wr.drew.cell? ⟨ws.heap.size, 2, none⟩ = some (.int .i64 z2) ∧ wr.drew.cell? ⟨ws.heap.size, 3, none⟩ = some (.int .i64 z3) ∧ wr.drew.cell? ⟨ws.heap.size, 4, none⟩ = some (.int .i64 z4) ∧ wr.drew.cell? ⟨ws.heap.size, 5, none⟩ = some (.int .i64 z5) ∧ wr.drew.cell? ⟨ws.heap.size, 6, none⟩ = some (.int .i64 z6) ∧ wr.drew.cell? ⟨ws.heap.size, 7, none⟩ = some (.int .i64 z7) ∧ wr.drew.cell? ⟨ws.heap.size, 8, none⟩ = some (.int .i64 z8) ∧ wr.drew.cell? ⟨ws.heap.size, 9, none⟩ = some (.int .i64 z9) ∧ wr.drew.cell? ⟨ws.heap.size, 10, none⟩ = some (.int .i64 z10) ∧ wr.drew.cell? ⟨ws.heap.size, 11, none⟩ = some (.int .i64 z11) ∧ wr.drew.cell? ⟨ws.heap.size, 12, none⟩ = some (.int .i64 z12) ∧ wr.drew.cell? ⟨ws.heap.size, 13, none⟩ = some (.int .i64 z13) ∧ wr.drew.cell? ⟨ws.heap.size, 14, none⟩ = some (.int .i64 z14) ∧ wr.drew.cell? ⟨ws.heap.size, 15, none⟩ = some (.int .i64 z15) ∧ wr.drew.cell? ⟨w.heap.size, 0, none⟩ = some (.int .i64 words) ∧ wr.drew.cell? ⟨w.heap.size, 1, none⟩ = some (.slice A hs.length c) ∧ Below w.heap.size w wr.drew ∧ ws.heap.size < wr.drew.heap.size :=
            ⟨(KA.out.cell 0).trans rfl, (KA.out.cell 1).trans rfl, (KA.out.cell 2).trans rfl, (KA.out.cell 3).trans rfl, (KA.out.cell 4).trans rfl, (KA.out.cell 5).trans rfl, (KA.out.cell 6).trans rfl, (KA.out.cell 7).trans rfl, (KA.out.cell 8).trans rfl, (KA.out.cell 9).trans rfl, (KA.out.cell 10).trans rfl, (KA.out.cell 11).trans rfl, (KA.out.cell 12).trans rfl, (KA.out.cell 13).trans rfl, (KA.out.cell 14).trans rfl, (KA.out.cell 15).trans rfl, c0, c1, hb.drew, hszr⟩
          have keepS : ∀ (x y : World), Below x.heap.size x y → (x.cell? ⟨ws.heap.size, 0, none⟩ = some (.int .i64 z0) ∧ x.cell? ⟨ws.heap.size, 1, none⟩ = some (.int .i64 z1) ∧ x.cell? ⟨ws.heap.size, 2, none⟩ = some (.int .i64 z2) ∧ x.cell? ⟨ws.heap.size, 3, none⟩ = some (.int .i64 z3) ∧ x.cell? ⟨ws.heap.size, 4, none⟩ = some (.int .i64 z4) ∧ x.cell? ⟨ws.heap.size, 5, none⟩ = some (.int .i64 z5) ∧ x.cell? ⟨ws.heap.size, 6, none⟩ = some (.int .i64 z6) ∧ x.cell? ⟨ws.heap.size, 7, none⟩ = some (.int .i64 z7) ∧ x.cell? ⟨ws.heap.size, 8, none⟩ = some (.int .i64 z8) ∧ x.cell? ⟨ws.heap.size, 9, none⟩ = some (.int .i64 z9) ∧ x.cell? ⟨ws.heap.size, 10, none⟩ = some (.int .i64 z10) ∧ x.cell? ⟨ws.heap.size, 11, none⟩ = some (.int .i64 z11) ∧ x.cell? ⟨ws.heap.size, 12, none⟩ = some (.int .i64 z12) ∧ x.cell? ⟨ws.heap.size, 13, none⟩ = some (.int .i64 z13) ∧ x.cell? ⟨ws.heap.size, 14, none⟩ = some (.int .i64 z14) ∧ x.cell? ⟨ws.heap.size, 15, none⟩ = some (.int .i64 z15) ∧ x.cell? ⟨w.heap.size, 0, none⟩ = some (.int .i64 words) ∧ x.cell? ⟨w.heap.size, 1, none⟩ = some (.slice A hs.length c) ∧ Below w.heap.size w x ∧ ws.heap.size < x.heap.size) →
              (y.cell? ⟨ws.heap.size, 0, none⟩ = some (.int .i64 z0) ∧ y.cell? ⟨ws.heap.size, 1, none⟩ = some (.int .i64 z1) ∧ y.cell? ⟨ws.heap.size, 2, none⟩ = some (.int .i64 z2) ∧ y.cell? ⟨ws.heap.size, 3, none⟩ = some (.int .i64 z3) ∧ y.cell? ⟨ws.heap.size, 4, none⟩ = some (.int .i64 z4) ∧ y.cell? ⟨ws.heap.size, 5, none⟩ = some (.int .i64 z5) ∧ y.cell? ⟨ws.heap.size, 6, none⟩ = some (.int .i64 z6) ∧ y.cell? ⟨ws.heap.size, 7, none⟩ = some (.int .i64 z7) ∧ y.cell? ⟨ws.heap.size, 8, none⟩ = some (.int .i64 z8) ∧ y.cell? ⟨ws.heap.size, 9, none⟩ = some (.int .i64 z9) ∧ y.cell? ⟨ws.heap.size, 10, none⟩ = some (.int .i64 z10) ∧ y.cell? ⟨ws.heap.size, 11, none⟩ = some (.int .i64 z11) ∧ y.cell? ⟨ws.heap.size, 12, none⟩ = some (.int .i64 z12) ∧ y.cell? ⟨ws.heap.size, 13, none⟩ = some (.int .i64 z13) ∧ y.cell? ⟨ws.heap.size, 14, none⟩ = some (.int .i64 z14) ∧ y.cell? ⟨ws.heap.size, 15, none⟩ = some (.int .i64 z15) ∧ y.cell? ⟨w.heap.size, 0, none⟩ = some (.int .i64 words) ∧ y.cell? ⟨w.heap.size, 1, none⟩ = some (.slice A hs.length c) ∧ Below w.heap.size w y ∧ ws.heap.size < y.heap.size) := by
            intro x y h ⟨h0, h1, h2, h3, h4, h5, h6, h7, h8, h9, h10, h11, h12, h13, h14, h15, h16, h17, h18, h19⟩
            refine ⟨(h.cell (p := ⟨ws.heap.size, 0, none⟩) h19).trans h0, (h.cell (p := ⟨ws.heap.size, 1, none⟩) h19).trans h1, (h.cell (p := ⟨ws.heap.size, 2, none⟩) h19).trans h2, (h.cell (p := ⟨ws.heap.size, 3, none⟩) h19).trans h3, (h.cell (p := ⟨ws.heap.size, 4, none⟩) h19).trans h4, (h.cell (p := ⟨ws.heap.size, 5, none⟩) h19).trans h5, (h.cell (p := ⟨ws.heap.size, 6, none⟩) h19).trans h6, (h.cell (p := ⟨ws.heap.size, 7, none⟩) h19).trans h7, (h.cell (p := ⟨ws.heap.size, 8, none⟩) h19).trans h8, (h.cell (p := ⟨ws.heap.size, 9, none⟩) h19).trans h9, (h.cell (p := ⟨ws.heap.size, 10, none⟩) h19).trans h10, (h.cell (p := ⟨ws.heap.size, 11, none⟩) h19).trans h11, (h.cell (p := ⟨ws.heap.size, 12, none⟩) h19).trans h12, (h.cell (p := ⟨ws.heap.size, 13, none⟩) h19).trans h13, (h.cell (p := ⟨ws.heap.size, 14, none⟩) h19).trans h14, (h.cell (p := ⟨ws.heap.size, 15, none⟩) h19).trans h15, (h.cell (p := ⟨w.heap.size, 0, none⟩) (by simp; omega)).trans h16, (h.cell (p := ⟨w.heap.size, 1, none⟩) (by simp; omega)).trans h17, h18.trans (h.mono (by omega)), ?_⟩
            have := h.size
            omega
          have KS := Lib.hid keepS
          have HS0 := Lib.hid S0
          clear keepS S0 c0 c1
          go_wp2_with fail
          go_region_held3 (fun w' => w'.cell? ⟨ws.heap.size, 0, none⟩ = some (.int .i64 z0) ∧ w'.cell? ⟨ws.heap.size, 1, none⟩ = some (.int .i64 z1) ∧ w'.cell? ⟨ws.heap.size, 2, none⟩ = some (.int .i64 z2) ∧ w'.cell? ⟨ws.heap.size, 3, none⟩ = some (.int .i64 z3) ∧ w'.cell? ⟨ws.heap.size, 4, none⟩ = some (.int .i64 z4) ∧ w'.cell? ⟨ws.heap.size, 5, none⟩ = some (.int .i64 z5) ∧ w'.cell? ⟨ws.heap.size, 6, none⟩ = some (.int .i64 z6) ∧ w'.cell? ⟨ws.heap.size, 7, none⟩ = some (.int .i64 z7) ∧ w'.cell? ⟨ws.heap.size, 8, none⟩ = some (.int .i64 z8) ∧ w'.cell? ⟨ws.heap.size, 9, none⟩ = some (.int .i64 z9) ∧ w'.cell? ⟨ws.heap.size, 10, none⟩ = some (.int .i64 z10) ∧ w'.cell? ⟨ws.heap.size, 11, none⟩ = some (.int .i64 z11) ∧ w'.cell? ⟨ws.heap.size, 12, none⟩ = some (.int .i64 z12) ∧ w'.cell? ⟨ws.heap.size, 13, none⟩ = some (.int .i64 z13) ∧ w'.cell? ⟨ws.heap.size, 14, none⟩ = some (.int .i64 z14) ∧ w'.cell? ⟨ws.heap.size, 15, none⟩ = some (.int .i64 z15) ∧ w'.cell? ⟨w.heap.size, 0, none⟩ = some (.int .i64 words) ∧ w'.cell? ⟨w.heap.size, 1, none⟩ = some (.slice A hs.length c) ∧ Below w.heap.size w w' ∧ ws.heap.size < w'.heap.size) (first | exact HS0.out | exact S1 | exact S2) (first | (go_at_call 26; refine (finish_any [z0, z1, z2, z3, z4, z5, z6, z7, z8, z9, z10, z11, z12, z13, z14, z15] words _ hs _ (show Hands wr.drew wr.drew.heap.size _ hs from HHr.out.keep (fun _ _ => rfl)) hW HF.out).mono ?_; rintro e w1 ⟨rfl, hb1⟩; have S1 := KS.out _ _ hb1 HS0.out; have HH1 := Lib.hid ((HHr.out.below (w' := w1) (Below.trans ((Below.refl _ _).drew) hb1) (Nat.le_refl _)).more hb1.size)) | (go_at_call 27; refine (told_any (finN hs hs.length [z0, z1, z2, z3, z4, z5, z6, z7, z8, z9, z10, z11, z12, z13, z14, z15]) words _ hs _ HH1.out h3 hW.lo hW.hi (finN_fit hW HF.out _ (Nat.le_refl _)).1).mono ?_; rintro e w2 ⟨v, rfl, hnums, hb2⟩; have S2 := KS.out _ _ hb2 S1; have HNU := Lib.hid hnums; clear hnums))
          go_wp2
          go_ret2
          refine ⟨_, by rw [HE.out]; rfl, ?_, ?_⟩
          · have e : runTold words hs script = toldOf hs words (finN hs hs.length [z0, z1, z2, z3, z4, z5, z6, z7, z8, z9, z10, z11, z12, z13, z14, z15]) := by rw [runTold, if_pos HE.out, HT.out]
            rw [e]; exact HNU.out
          · exact S2.2.2.2.2.2.2.2.2.2.2.2.2.2.2.2.2.2.2.1

theorem run_any (words : Int) (hv sv : Value) (hs : List (List Ln)) (script : List Int) (w : World) (hh : Hands w w.heap.size hv hs) (hn : Nums w w.heap.size sv script) :
    Calls Tryd.prog 9 #[.agg #[.int .i64 words, hv], sv] w (RunPost w words hs script) := by
  by_cases hc : check words hs = 0
  · by_cases h40 : 40 < script.length
    · exact run_long words hv sv hs script w hh hn hc h40
    · exact run_rest words hv sv hs script w hh hn hc (by omega)
  · exact run_check words hv sv hs script w hh hc
end Go.Proofs.YtkohobbjnafljaaDoor
