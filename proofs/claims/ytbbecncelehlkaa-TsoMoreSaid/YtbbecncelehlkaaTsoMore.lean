/-
  The walk of latchgarthlaw1.TsoMore: it answers true, whatever the program.
-/
import Derived.Test.YtbbecncelehlkaaTsoFacts
import Derived.Test.YtbbecncelehlkaaTsoLw
namespace Go.Proofs.Ytbbecncelehlkaa
open Go.RowKit

set_option maxRecDepth 100000 in
set_option maxHeartbeats 4000000 in
theorem more_bad (words : Int) (hv : Value) (hs : List (List Ln)) (w : World) (hh : Hands w w.heap.size hv hs) (hc : check words hs ≠ 0) :
    Calls Try.prog 3 #[.agg #[.int .i64 words, hv]] w fun e w' => e = .returned (.bool true) ∧ Below w.heap.size w w' := by
  have HH := Lib.hid hh
  have HC := Lib.hid hc
  obtain ⟨A, c, rfl, hlen, _⟩ := hh
  have K0 := Lib.hid (Block.made w 24 #[.int .i64 words, .slice A hs.length c])
  have HB0 := Lib.hid ((Below.refl w.heap.size w).alloc (Nat.le_refl _) (.cells #[.int .i64 words, .slice A hs.length c] 24))
  clear hc
  go_enter Try.func3, Try.ntmps3
  go_wp2_with fail
  refine (tsoFact_any _).mono ?_
  rintro e w1 ⟨rfl, hb1⟩
  have k1 : Block w1 w.heap.size 24 #[.int .i64 words, .slice A hs.length c] := K0.out.below hb1 (by simp)
  have HB1 := Lib.hid (HB0.out.trans (hb1.mono (by simp)))
  have c0 := k1.cell 0
  have c1 := k1.cell 1
  simp at c0 c1
  have K1 := Lib.hid k1
  clear hb1 k1
  go_wp2_with fail
  refine (results_any words _ hs w1 ((HH.out.below HB1.out (Nat.le_refl _)).more HB1.out.size)).mono ?_
  rintro e w2 ⟨v2, he, hl2, hb2⟩
  rw [show errV 72 (check words hs) = .iface 72 (.int .i64 (check words hs)) from if_neg HC.out] at he
  subst he
  obtain ⟨A2, c2, rfl, _, _⟩ := hl2
  have k2 := K1.out.below hb2 K1.out.lt
  have d0 := k2.cell 0
  have d1 := k2.cell 1
  simp at d0 d1
  have HB2 := Lib.hid (HB1.out.trans (hb2.mono HB1.out.size))
  clear hb2 k2 c0 c1
  go_wp2_with fail
  refine (tresults_bad words _ hs w2 ((HH.out.below HB2.out (Nat.le_refl _)).more HB2.out.size) HC.out).mono ?_
  rintro e w3 ⟨rfl, hb3⟩
  have HB3 := Lib.hid (HB2.out.trans (hb3.mono HB2.out.size))
  clear hb3 d0 d1
  go_wp2
  go_ret
  exact ⟨rfl, HB3.out⟩

theorem more_len {words : Int} {hs : List (List Ln)} (hW : Well words hs) {ts : List (List Int)} (ht : TsoOf words hs ts) : (scR words hs).length ≤ ts.length :=
  inj_length (fun x => x) (scR_facts words hs).1.nodup (fun _ _ _ _ h => h) fun _ hx => more_mem hW ht hx

set_option maxRecDepth 100000 in
set_option maxHeartbeats 4000000 in
theorem more_good (words : Int) (hv : Value) (hs : List (List Ln)) (w : World) (hh : Hands w w.heap.size hv hs) (hc : check words hs = 0) :
    Calls Try.prog 3 #[.agg #[.int .i64 words, hv]] w fun e w' => e = .returned (.bool true) ∧ Below w.heap.size w w' := by
  have HH := Lib.hid hh
  have HC := Lib.hid hc
  have HW := Lib.hid (check_well hc)
  obtain ⟨A, c, rfl, hlen, _⟩ := hh
  have K0 := Lib.hid (Block.made w 24 #[.int .i64 words, .slice A hs.length c])
  have HB0 := Lib.hid ((Below.refl w.heap.size w).alloc (Nat.le_refl _) (.cells #[.int .i64 words, .slice A hs.length c] 24))
  clear hc
  go_enter Try.func3, Try.ntmps3
  go_wp2_with fail
  refine (tsoFact_any _).mono ?_
  rintro e w1 ⟨rfl, hb1⟩
  have k1 : Block w1 w.heap.size 24 #[.int .i64 words, .slice A hs.length c] := K0.out.below hb1 (by simp)
  have HB1 := Lib.hid (HB0.out.trans (hb1.mono (by simp)))
  have c0 := k1.cell 0
  have c1 := k1.cell 1
  simp at c0 c1
  have K1 := Lib.hid k1
  clear hb1 k1
  go_wp2_with fail
  refine (results_any words _ hs w1 ((HH.out.below HB1.out (Nat.le_refl _)).more HB1.out.size)).mono ?_
  rintro e w2 ⟨v2, he, hl2, hb2⟩
  rw [HC.out, show errV 72 0 = .nilIface from rfl] at he
  rw [resL, if_pos HC.out] at hl2
  subst he
  have HL2 := Lib.hid hl2
  obtain ⟨A2, c2, rfl, hll, _⟩ := hl2
  have k2 := K1.out.below hb2 K1.out.lt
  have d0 := k2.cell 0
  have d1 := k2.cell 1
  simp at d0 d1
  have K2 := Lib.hid k2
  have HB2 := Lib.hid (HB1.out.trans (hb2.mono HB1.out.size))
  clear hb2 k2 c0 c1
  go_wp2_with fail
  refine (tresults_good words _ hs w2 ((HH.out.below HB2.out (Nat.le_refl _)).more HB2.out.size) HC.out).mono ?_
  rintro e w3 ⟨v3, ts, rfl, hl3, hto, hb3⟩
  have HL3 := Lib.hid hl3
  have HTO := Lib.hid hto
  have HLE := Lib.hid (more_len HW.out hto)
  have HAL := Lib.hid (fun h1 : hs.length = 1 => alone_tso HW.out h1 hto)
  have HMM := Lib.hid (fun (t : List Int) (h : t ∈ scR words hs) => more_mem HW.out hto h)
  obtain ⟨A3, c3, rfl, hlt3, _⟩ := hl3
  have k3 := K2.out.below hb3 K2.out.lt
  have HL2' := Lib.hid (HL2.out.below hb3 (Nat.le_refl _))
  have HB3 := Lib.hid (HB2.out.trans (hb3.mono HB2.out.size))
  have K3 := Lib.hid k3
  clear hb3 d0 d1 k3 hto
  obtain ⟨L, hL⟩ : ∃ L, L = scR words hs := ⟨_, rfl⟩
  rw [← hL] at HL2' HLE HMM HAL hll
  rw [← hL]
  have HLL := Lib.hid hL
  clear hL HL2
  go_wp2
  go_loopw [8] (fun i wr => ∃ k : Nat, k ≤ L.length ∧ i = .int .i64 k ∧ ∃ n, wr = w3.drewN n) (fun i _ => L.length - (intOf i).toNat)
  case atStart => exact ⟨0, Nat.zero_le _, rfl, 0, rfl⟩
  case round =>
    obtain ⟨k, hk, rfl, n, rfl⟩ := hrel
    by_cases hlt : k < L.length
    · obtain ⟨x, hx⟩ : ∃ x, L[k]? = some x := ⟨_, List.getElem?_eq_getElem hlt⟩
      obtain ⟨A5, c5, e5, _, hcc⟩ := HL2'.out
      obtain ⟨b, o, e6, _, hcell⟩ := hcc (by omega)
      obtain ⟨u, hu, hnu, _⟩ := hcell k x hx
      injection e5 with e5 _ e7
      subst e5 e6 e7
      have g1 : (w3.drewN n).cell? ⟨b, o + k, none⟩ = some u := hu
      have HNU := Lib.hid (show Nums (w3.drewN n) w2.heap.size u x from hnu)
      obtain ⟨A6, c6, rfl, _, _⟩ := hnu
      have HM := Lib.hid (HMM.out x (List.mem_of_getElem? hx))
      have HT3 := Lib.hid (show Lsts (w3.drewN n) w3.heap.size (.slice A3 ts.length c3) ts from HL3.out)
      have i1 : (k : Int) < L.length := by omega
      clear hcc hcell hu hx
      go_wp2_with (go_at_call 11; (with_reducible refine (has_any ts x _ _ _ _ _ HT3.out HNU.out).mono ?_); rw [decide_eq_true HM.out]; rintro e w5 ⟨rfl, m, rfl⟩)
      go_roundw
      case rel => exact ⟨k + 1, by omega, by go_num, n + m, rfl⟩
      case measure => simp [intOf]; omega
    · have i1 : ¬ (k : Int) < L.length := by omega
      have hle := HLE.out
      have hge : decide ((L.length : Int) ≤ ts.length) = true := decide_eq_true (by omega)
      have f0 : (w3.drewN n).cell? ⟨w.heap.size, 1, none⟩ = some (.slice A hs.length c) := (K3.out.cell 1).trans rfl
      have hpos := HW.out.some_
      by_cases h1 : hs.length = 1
      · have e2 := HAL.out h1
        have he : ((ts.length : Int) == L.length) = true := by rw [e2]; simp
        have h1' : ¬ (1 : Int) < hs.length := by omega
        clear e2 h1 hle hpos
        go_wp2
        go_ret
        exact ⟨rfl, below_drewN HB3.out _⟩
      · have h1' : (1 : Int) < hs.length := by omega
        clear h1 hle hpos
        go_wp2
        go_ret
        exact ⟨rfl, below_drewN HB3.out _⟩

theorem more_law (words : Int) (hv : Value) (hs : List (List Ln)) (w : World) (hh : Hands w w.heap.size hv hs) :
    Calls Try.prog 3 #[.agg #[.int .i64 words, hv]] w fun e w' => e = .returned (.bool true) ∧ Below w.heap.size w w' := by
  by_cases hc : check words hs = 0
  · exact more_good words hv hs w hh hc
  · exact more_bad words hv hs w hh hc
end Go.Proofs.Ytbbecncelehlkaa
