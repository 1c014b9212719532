/-
  The walk of latchgarthlaw1.TsoTurned: it answers true, whatever the words and the two hands.
-/
import Derived.Test.YtbbecncelehlkaaTsoFacts
import Derived.Test.YtbbecncelehlkaaTsoTurn
import Derived.Test.YtbbecncelehlkaaScLaws
import Derived.BigRegion
import Derived.Deep.DeepCutAuto
namespace Go.Proofs.Ytbbecncelehlkaa
open Go.RowKit

theorem Lines.touch0 {w w' : World} {v : Value} {ls : List Ln} (h : Lines w w.heap.size v ls) (ht : Touch (fun _ => False) w w') : Lines w' w'.heap.size v ls := (h.keep fun _ hp => ht.cell hp fun h => h).more ht.size

theorem pair_hands {w : World} {g : Nat} {T : TypeId} {va vb : Value} {la lb : List Ln} (h : Block w g T #[va, vb]) (ha : Lines w w.heap.size va la) (hb : Lines w w.heap.size vb lb) : Hands w w.heap.size (.slice (some ⟨g, 0, none⟩) 2 2) [la, lb] := by
  refine ⟨_, 2, rfl, by simp, fun _ => ⟨_, 0, rfl, h.lt, fun i l hi => ?_⟩⟩
  match i, hi with
  | 0, hi =>
    simp at hi
    subst hi
    exact ⟨_, h.cell 0, ha⟩
  | 1, hi =>
    simp at hi
    subst hi
    exact ⟨_, h.cell 1, hb⟩

theorem l4 (x : List Int) (h : 4 ≤ x.length) : ∃ a b c d r, x = a :: b :: c :: d :: r := by
  match x, h with
  | a :: b :: c :: d :: r, _ => exact ⟨a, b, c, d, r, rfl⟩


/-- A program of two hands that is handed over. -/
theorem pair_made {va vb : Value} {la lb : List Ln} {w0 w1 : World} (hb : Below w0.heap.size w0 w1) (ha : Lines w0 w0.heap.size va la) (hb' : Lines w0 w0.heap.size vb lb) :
    Hands (w1.alloc (.cells #[va, vb] 37)) (w1.alloc (.cells #[va, vb] 37)).heap.size (.slice (some ⟨w1.heap.size, 0, none⟩) 2 2) [la, lb] := by
  have h1 : Below w0.heap.size w0 (w1.alloc (.cells #[va, vb] 37)) := hb.alloc hb.size _
  exact pair_hands (Block.made w1 _ _) ((ha.below h1 (Nat.le_refl _)).more h1.size) ((hb'.below h1 (Nat.le_refl _)).more h1.size)

set_option maxRecDepth 100000 in
set_option maxHeartbeats 4000000 in
theorem turnB_bad (words : Int) (va vb : Value) (la lb : List Ln) (w : World) (ha : Lines w w.heap.size va la) (hb : Lines w w.heap.size vb lb) (hc : check words [la, lb] ≠ 0) :
    Calls Try.prog 6 #[.int .i64 words, va, vb] w fun e w' => e = .returned (.bool true) ∧ Below w.heap.size w w' := by
  have HA := Lib.hid ha
  have HB := Lib.hid hb
  have HC := Lib.hid hc
  have HC2 := Lib.hid (fun h : check words [lb, la] = 0 => hc ((check_pair words la lb).2 h))
  obtain ⟨A, c, rfl, hlen, _⟩ := ha
  obtain ⟨A', c', rfl, hlen', _⟩ := hb
  clear hc
  go_enter Try.func6, Try.ntmps6
  go_wp2_with fail
  refine (tsoFact_any _).mono ?_
  rintro e w1 ⟨rfl, hb1⟩
  have HB1 := Lib.hid hb1
  clear hb1
  go_wp2_with fail
  refine (tresults_bad words _ [la, lb] _ (pair_made HB1.out HA.out HB.out) HC.out).mono ?_
  rintro e w2 ⟨rfl, hb2⟩
  have HB2 := Lib.hid ((HB1.out.alloc HB1.out.size _).trans (hb2.mono (Nat.le_trans HB1.out.size (by simp))))
  clear hb2
  go_wp2_with fail
  refine (tresults_bad words _ [lb, la] _ (pair_made HB2.out HB.out HA.out) HC2.out).mono ?_
  rintro e w3 ⟨rfl, hb3⟩
  have HB3 := Lib.hid ((HB2.out.alloc HB2.out.size _).trans (hb3.mono (Nat.le_trans HB2.out.size (by simp))))
  clear hb3
  go_wp2_with fail
  go_ret
  exact ⟨rfl, HB3.out⟩

set_option maxRecDepth 100000 in
set_option maxHeartbeats 4000000 in
theorem turnB_good (words : Int) (va vb : Value) (la lb : List Ln) (w : World) (ha : Lines w w.heap.size va la) (hb : Lines w w.heap.size vb lb) (hc : check words [la, lb] = 0) :
    Calls Try.prog 6 #[.int .i64 words, va, vb] w fun e w' => e = .returned (.bool true) ∧ Below w.heap.size w w' := by
  have HA := Lib.hid ha
  have HB := Lib.hid hb
  have HC := Lib.hid hc
  have HC2 := Lib.hid ((check_pair words la lb).1 hc)
  have HW := Lib.hid (check_well hc)
  obtain ⟨A, c, rfl, hlen, _⟩ := ha
  obtain ⟨A', c', rfl, hlen', _⟩ := hb
  clear hc
  go_enter Try.func6, Try.ntmps6
  go_wp2_with fail
  refine (tsoFact_any _).mono ?_
  rintro e w1 ⟨rfl, hb1⟩
  have HB1 := Lib.hid hb1
  clear hb1
  go_wp2_with fail
  refine (tresults_good words _ [la, lb] _ (pair_made HB1.out HA.out HB.out) HC.out).mono ?_
  rintro e w2 ⟨v2, ls, rfl, hl2, hto2, hb2⟩
  have HL2 := Lib.hid hl2
  obtain ⟨A2, c2, rfl, _, _⟩ := hl2
  have HB2 := Lib.hid ((HB1.out.alloc HB1.out.size _).trans (hb2.mono (Nat.le_trans HB1.out.size (by simp))))
  clear hb2
  go_wp2_with fail
  refine (tresults_good words _ [lb, la] _ (pair_made HB2.out HB.out HA.out) HC2.out).mono ?_
  rintro e w3 ⟨v3, ms, rfl, hl3, hto3, hb3⟩
  have HL3 := Lib.hid hl3
  obtain ⟨A3, c3, rfl, _, _⟩ := hl3
  have H23 := Lib.hid (show Below w2.heap.size w2 w3 from ((Below.refl _ w2).alloc (Nat.le_refl _) _).trans (hb3.mono (by simp)))
  have HB3 := Lib.hid (HB2.out.trans (H23.out.mono HB2.out.size))
  clear hb3
  have hlen2 := turn_tso_length (sw2_pair la lb) hto2 hto3
  have HIN' := Lib.hid (show ∀ t, t ∈ ls → turnT t ∈ ms from fun t h => turn_tso (sw2_pair la lb) hto2 hto3 h)
  have HLN' := Lib.hid (show ∀ t, t ∈ ls → 5 ≤ t.length ∧ t.length ≤ 8 from fun t h => by have h1 := tso_len hto2 h; have h2 := HW.out.hi; have h3 := HW.out.lo; simp at h1; omega)
  have hll : ((ls.length : Int) != (ms.length : Int)) = false := by rw [hlen2]; simp
  have HLS := Lib.hid HL2.out
  have HMS := Lib.hid HL3.out
  have H35 := Lib.hid (Below.refl w3.heap.size w3)
  obtain ⟨i0, hi, hz0, hz1, hz2⟩ := info_parts Tin.info
  clear hlen2 hto2 hto3 HL2 HL3
  go_wp2_with fail
  go_loopw [12] (fun i wr => ∃ k : Nat, k ≤ ls.length ∧ i = .int .i64 k ∧ Below w3.heap.size w3 wr) (fun i _ => ls.length - (intOf i).toNat)
  case atStart => exact ⟨0, Nat.zero_le _, rfl, Below.refl _ _⟩
  case round =>
    obtain ⟨k, hk, rfl, hbw⟩ := hrel
    have HBW := Lib.hid hbw
    clear hbw
    by_cases hlt : k < ls.length
    · have i1 : (k : Int) < ls.length := by omega
      have hbr : Below w2.heap.size w2 wr := (H23.out.trans (H35.out.mono H23.out.size)).trans (HBW.out.mono (Nat.le_trans H23.out.size H35.out.size))
      have hbr3 : Below w3.heap.size w3 wr := H35.out.trans (HBW.out.mono H35.out.size)
      have HMR := Lib.hid (HMS.out.below hbr3 (Nat.le_refl _))
      obtain ⟨A9, c9, e9, _, hcc⟩ := HLS.out.below hbr (Nat.le_refl _)
      simp at e9
      obtain ⟨rfl, rfl⟩ := e9
      obtain ⟨b1, o1, rfl, _, hcell⟩ := hcc (by omega)
      obtain ⟨x, hx⟩ : ∃ x, ls[k]? = some x := ⟨_, List.getElem?_eq_getElem hlt⟩
      obtain ⟨u, hu, hnu, hcap⟩ := hcell k x hx
      have hxm := List.mem_of_getElem? hx
      obtain ⟨x0, x1, x2, x3, rest, rfl⟩ := l4 x (by have := (HLN'.out x hxm).1; omega)
      have HIM := Lib.hid (show decide (x2 :: x3 :: x0 :: x1 :: rest ∈ ms) = true from decide_eq_true (HIN'.out _ hxm))
      obtain ⟨A6, c6, rfl, hmx, hn6⟩ := hnu
      obtain ⟨b6, o6, rfl, hb6, hn6⟩ := hn6 (by simp)
      have hcapk := hcap _ _ _ rfl
      have hr8 : rest.length ≤ 4 := by have := (HLN'.out _ hxm).2; simp at this; omega
      have hr1 : 1 ≤ rest.length := by have := (HLN'.out _ hxm).1; simp at this; omega
      obtain ⟨m, hm⟩ : ∃ m, m = rest.length + 4 := ⟨_, rfl⟩
      have g1 : wr.cell? ⟨b1, o1 + k, none⟩ = some (.slice (some ⟨b6, o6, none⟩) m c6) := by rw [hm]; exact hu
      have y0 := hn6 0 x0 rfl
      have y1 := hn6 1 x1 rfl
      have y2 := hn6 2 x2 rfl
      have y3 := hn6 3 x3 rfl
      have HRS := Lib.hid (show ∀ j u, (rest.map (Value.int .i64))[j]? = some u → wr.cell? ((⟨b6, o6 + 4, none⟩ : Addr).add j) = some u from fun j u hj => by
        rw [List.getElem?_map] at hj
        cases e : rest[j]? with
        | none => rw [e] at hj; cases hj
        | some z =>
          rw [e] at hj
          obtain rfl := Option.some.inj hj
          rw [Addr.add_lit, show o6 + 4 + j = o6 + (j + 4) by omega]
          exact hn6 (j + 4) z (by simpa using e))
      rw [Nat.add_zero] at y0
      have hm4 : (4 : Int) ≤ m := by omega
      have j0 : ¬ (m : Int) < 4 := by omega
      have j1 : (0 : Int) < m := by omega
      have j2 : (1 : Int) < m := by omega
      have j3 : (2 : Int) < m := by omega
      have j4 : (3 : Int) < m := by omega
      have j5 : m ≤ c6 := by rw [hm]; exact hcapk
      have j6 : (m : Int) ≤ c6 := by omega
      have j7 : ¬ c6 = 4 := by omega
      have HM := Lib.hid hm
      have hb6l : b6 < wr.heap.size := lt_of_cell y0
      clear hcc hcell hu hn6 hx hxm hcap hcapk hm hbr hbr3 hmx
      go_wp2_with fail
      go_cut [13] (fun t13 wx => t13 = .slice (some ⟨wr.heap.size, 0, none⟩) 4 4 ∧ Below wr.heap.size wr wx ∧ Block wx wr.heap.size 3 #[.int .i64 x2, .int .i64 x3, .int .i64 x0, .int .i64 x1])
      case first =>
        have z0 : wr.drew.cell? ⟨b1, o1 + k, none⟩ = some (.slice (some ⟨b6, o6, none⟩) m c6) := g1
        go_region
        all_goals (go_wp2_with fail; go_meet; exact ⟨rfl, ((Below.refl _ wr).alloc (Nat.le_refl _) _).drew, Block.made wr _ _⟩)
      case rest =>
      obtain ⟨rfl, hBX, hXB⟩ := hcut
      obtain ⟨X, rfl⟩ : ∃ X : World, X = wc := ⟨_, rfl⟩
      have hXs : wr.heap.size < X.heap.size := hXB.lt
      have x1c := (hBX.cell (p := ⟨b1, o1 + k, none⟩) (lt_of_cell g1)).trans g1
      have HO := Lib.hid (show X.ownsRow wr.heap.size 3 1 (.slice (some ⟨wr.heap.size, 0, none⟩) 4 4) 4 [.int .i64 x2, .int .i64 x3, .int .i64 x0, .int .i64 x1] from ⟨rfl, Or.inr ⟨_, 4, _, rfl, Nat.le_refl _, hXB, Nat.le_refl _, by unfold maxLen; omega, rfl, rfl⟩⟩)
      have HRX := Lib.hid (show ∀ j u, (rest.map (Value.int .i64))[j]? = some u → X.cell? ((⟨b6, o6 + 4, none⟩ : Addr).add j) = some u from fun j u hj => (hBX.cell (p := (⟨b6, o6 + 4, none⟩ : Addr).add j) (by rw [Addr.add_lit]; exact hb6l)).trans (HRS.out j u hj))
      have HBX := Lib.hid hBX
      clear hBX hXB g1 y0 y1 y2 y3
      go_wp2_with (at_builtin; refine wpList_append_own _ rfl (.tmp 90) (.tmp 95) 32 rfl wr.heap.size 3 i0 (.int .i64 0) 1 8 Try.underlying32 hi hz0 hz1 hz2 rfl (by decide) _ _ _ rfl HO.out ⟨b6, o6 + 4, none⟩ (m - 4) (c6 - 4) (rest.map (Value.int .i64)) rfl (by rw [List.length_map, HM.out]; omega) HRX.out (fun u hu => by rw [List.mem_map] at hu; obtain ⟨q, _, rfl⟩ := hu; rfl) (by rw [HM.out]; unfold maxLen; omega) (by rw [HM.out]; omega) (Nat.le_of_lt hXs) ?_; intro v' w6 hown hg _; have hn6 : Nums w6 w6.heap.size v' (x2 :: x3 :: x0 :: x1 :: rest) := nums_of_own (base := wr.heap.size) (e := 3) (by rw [show (x2 :: x3 :: x0 :: x1 :: rest).length = 4 + (m - 4) by rw [HM.out]; simp; omega]; exact hown) (by simp; omega); have HB6 := Lib.hid (HBX.out.grown hg (Nat.le_of_lt hXs) (fun q hq => (HO.out.lt q hq).1)); have HN6 := Lib.hid hn6; obtain ⟨A8, c8, rfl, _, _⟩ := hn6; clear hown hg)
      refine (has_any ms (x2 :: x3 :: x0 :: x1 :: rest) _ _ _ _ w6 (HMR.out.below HB6.out (Nat.le_trans H35.out.size HBW.out.size)) HN6.out).mono ?_
      rw [HIM.out]
      rintro e w7 ⟨rfl, q, rfl⟩
      go_wp2_with fail
      go_roundw
      case rel => exact ⟨k + 1, by omega, by go_num, below_drewN (HBW.out.trans (HB6.out.mono HBW.out.size)) _⟩
      case measure => simp [intOf]; omega
    · have i1 : ¬ (k : Int) < ls.length := by omega
      go_wp2_with fail
      go_ret
      exact ⟨rfl, HB3.out.trans (HBW.out.mono HB3.out.size)⟩

theorem turnB_law (words : Int) (va : Value) (la : List Ln) (vb : Value) (lb : List Ln) (w : World) (ha : Lines w w.heap.size va la) (hb : Lines w w.heap.size vb lb) :
    Calls Try.prog 6 #[.int .i64 words, va, vb] w fun e w' => e = .returned (.bool true) ∧ Below w.heap.size w w' := by
  by_cases hc : check words [la, lb] = 0
  · exact turnB_good words va vb la lb w ha hb hc
  · exact turnB_bad words va vb la lb w ha hb hc
end Go.Proofs.Ytbbecncelehlkaa
