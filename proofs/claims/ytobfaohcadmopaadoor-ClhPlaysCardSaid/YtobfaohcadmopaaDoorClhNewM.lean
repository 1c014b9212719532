/-
  The reference's machine of the lock whose hands look at the one ahead, new.
-/
import Derived.Test.YtobfaohcadmopaaDoorMachAt
import Derived.Test.YtobfaohcadmopaaDoorClhRef3
namespace Go.Proofs.YtobfaohcadmopaaDoor.Clh
open Go.RowKit

/-- The own numbers of hands, of which some are made. -/
def mkOwns (n i : Nat) : List (List Int) := (List.range n).map fun p => [if p < i then (p : Int) else 0, 0]
theorem mkOwns_zero (n : Nat) : List.replicate n (List.replicate 2 (0 : Int)) = mkOwns n 0 := by
  apply List.ext_getElem?
  intro i
  by_cases hi : i < n
  · rw [mkOwns, range_get _ hi, List.getElem?_replicate, if_pos hi]; rfl
  · rw [List.getElem?_eq_none (by simp; omega), List.getElem?_eq_none (by simp [mkOwns]; omega)]
theorem mkOwns_get {n i : Nat} (hi : i < n) : (mkOwns n i)[i]? = some [0, 0] := by
  rw [mkOwns, range_get _ hi, if_neg (Nat.lt_irrefl _)]
theorem mkOwns_set {n i : Nat} : (mkOwns n i).set i [(i : Int), 0] = mkOwns n (i + 1) :=
  range_set _ _ n i _ (by rw [if_pos (Nat.lt_succ_self i)]) (fun q hq => by
    by_cases h : q < i
    · rw [if_pos h, if_pos (by omega)]
    · rw [if_neg h, if_neg (by omega)])
theorem mkOwns_done (n : Nat) : mkOwns n n = lkOwns n (lkNew n) := by
  apply List.ext_getElem?
  intro i
  by_cases hi : i < n
  · rw [mkOwns, lkOwns, range_get _ hi, range_get _ hi, if_pos hi]; rfl
  · rw [List.getElem?_eq_none (by simp [mkOwns]; omega), List.getElem?_eq_none (by simp [lkOwns]; omega)]
theorem mkWords_done (n : Nat) : (List.replicate (n + 2) (0 : Int)).set 0 n = lkWords n (lkNew n) := by
  rw [List.replicate_succ, List.set_cons_zero, lkWords]
  congr 1
  apply List.ext_getElem?
  intro i
  by_cases hi : i < n + 1
  · rw [range_get _ hi, List.getElem?_replicate, if_pos hi]; rfl
  · rw [List.getElem?_eq_none (by simp; omega), List.getElem?_eq_none (by simp; omega)]
theorem mkLines_done (n : Nat) : List.replicate n (1 : Int) = lkLines n (lkNew n) := by
  apply List.ext_getElem?
  intro i
  by_cases hi : i < n
  · rw [lkLines, range_get _ hi, List.getElem?_replicate, if_pos hi]; rfl
  · rw [List.getElem?_eq_none (by simp; omega), List.getElem?_eq_none (by simp [lkLines]; omega)]

/-- Zeros of which the first one is another number. -/
theorem set0_any (n2 : Nat) (h1 : 1 ≤ n2) (h2 : n2 ≤ 1000) (z : Int) (v : Value) (B : Nat) (w : World) (h : Nums w B v (List.replicate n2 0)) :
    Calls Tryd.prog 15 #[v, .int .i64 0, .int .i64 z] w fun e w' => ∃ x, e = .returned x ∧ NumsP w' (fun b => w.heap.size ≤ b ∧ b < w'.heap.size) x ((List.replicate n2 0).set 0 z) ∧ Below w.heap.size w w' :=
  (set_any (List.replicate n2 0) v B 0 z w h (by rw [List.length_replicate]; omega) (by rw [List.length_replicate]; omega)).mono fun _ w' ⟨g, cap, he, h3, h4, hr, hb⟩ =>
    ⟨_, he, hr.numsP (P := fun b => w.heap.size ≤ b ∧ b < w'.heap.size) (by rw [List.length_set]) (by rw [List.length_replicate]; omega) ⟨h3, h4⟩, hb⟩
theorem hrm {r m : Nat} (h : ¬ m ≤ r) : r ≠ m := fun e => h (e ▸ Nat.le_refl _)
set_option maxHeartbeats 4000000 in
set_option maxRecDepth 100000 in
theorem newM_any (n : Nat) (hn : n ≤ 4) (w : World) :
    Calls Tryd.prog 6 #[.int .i64 n] w fun e w' => ∃ v, e = .returned v ∧ Mc w' (fun b => w.heap.size ≤ b ∧ b < w'.heap.size) n v (lkWords n (lkNew n)) (lkLines n (lkNew n)) (lkOwns n (lkNew n)) ∧ Below w.heap.size w w' := by
  obtain ⟨n2, hn2⟩ : ∃ n2, n2 = n + 2 := ⟨_, rfl⟩
  have hw2 : IntKind.i64.wrap ((n : Int) + 2) = (n2 : Int) := (IntWalk.i64_in _ (by omega)).trans (by omega)
  have HN2 := Lib.hid hn2
  clear hn2
  have HR := Lib.hid (Block.made w 31 #[.int .i64 0, .slice none 0 0, .slice none 0 0, .slice none 0 0])
  go_enter Tryd.func6, Tryd.ntmps6
  go_upto_region 2 with (first | (go_at_call 16; refine (zeros_any n2 (by have := HN2.out; omega) _).mono ?_; rintro e w0 ⟨v0, rfl, hm1, hb1⟩; have HM0 := Lib.hid hm1; have HB0 := Lib.hid hb1; clear hm1 hb1) | (go_at_call 15; refine (set0_any n2 (by have := HN2.out; omega) (by have := HN2.out; omega) n v0 w0.heap.size w0 (HM0.out.nums fun _ h => h.2)).mono ?_; rintro e w1 ⟨v1, rfl, hm1, hb1⟩; have HM1 := Lib.hid (hm1.keep (P' := fun b => w.heap.size + 1 ≤ b ∧ b < w1.heap.size) (fun b hb => ⟨by have := HB0.out.size; rw [World.size_alloc] at this; omega, hb.2⟩) fun _ _ => rfl); have HB1 := Lib.hid (HB0.out.trans (hb1.mono HB0.out.size)); clear hm1 hb1) | (go_at_call 14; refine (machNew_any n 2 (by omega) (by omega) _ _ w1 (fun _ hb => hb.2) HM1.out).mono ?_; rintro e w2 ⟨v2, rfl, hm2, hb2⟩; have HM2 := Lib.hid hm2; have HB2 := Lib.hid hb2; obtain ⟨B1, m1, d1, B2, m2, d2, B3, m3, d3, rfl⟩ := (MS.start hm2).form; clear hm2 hb2))
  obtain ⟨V, hV⟩ : ∃ V, V = w2.alloc (.cells #[.int .i64 n, .slice B1 m1 d1, .slice B2 m2 d2, .slice B3 m3 d3] 31) := ⟨_, rfl⟩
  obtain ⟨m, hm⟩ : ∃ m, m = w2.heap.size := ⟨_, rfl⟩
  obtain ⟨r, hr⟩ : ∃ r, r = w.heap.size := ⟨_, rfl⟩
  rw [← hV, ← hm, ← hr]
  have hs1 := HB1.out.size
  have hs2 := HB2.out.size
  rw [World.size_alloc] at hs1
  have hVs : V.heap.size = w2.heap.size + 1 := by rw [hV]; simp
  have hbV : Below w1.heap.size w1 V := by rw [hV]; exact HB2.out.alloc hs2 _
  have hRV : Block V r 31 #[.int .i64 0, .slice none 0 0, .slice none 0 0, .slice none 0 0] := by
    rw [hr]; exact (HR.out.below HB1.out (by simp)).below hbV (by omega)
  have hBV : Below w.heap.size w V := (((Below.refl w.heap.size w).alloc (Nat.le_refl _) _).trans (HB1.out.mono (by simp))).trans (hbV.mono (by omega))
  have hMV : MIn V (fun b => b ≤ r) m n (.slice B1 m1 d1) (.slice B2 m2 d2) (.slice B3 m3 d3) ((List.replicate n2 0).set 0 n) (List.replicate n 1) (mkOwns n 0) := by
    refine ⟨by rw [hV, hm]; exact Block.made w2 _ _, by omega, fun b hb => by omega, ?_⟩
    rw [← mkOwns_zero]
    refine HM2.out.keep (fun b hb => ?_) fun p hp => ?_
    · rcases hb with hb | hb
      · exact ⟨by omega, by omega, by omega⟩
      · exact ⟨by omega, by omega, by omega⟩
    · rw [hV]
      exact World.cell?_alloc_lt w2 _ p (by rcases hp with hp | hp <;> omega)
  have HRV := Lib.hid hRV
  have HBV := Lib.hid hBV
  have HMV := Lib.hid hMV
  have HRW := Lib.hid hr
  clear hV hm hr hs1 hs2 hVs hbV hRV hBV hMV HR HB0 HM0 HB1 HB2 HM1 HM2
  go_wp2
  go_loopw [4] (fun i wr => ∃ (k : Nat) (B1 : Option Addr) (m1 d1 : Nat) (B2 : Option Addr) (m2 d2 : Nat) (B3 : Option Addr) (m3 d3 : Nat), k ≤ n ∧ i = .int .i64 k ∧ MIn wr (fun b => b ≤ r) m n (.slice B1 m1 d1) (.slice B2 m2 d2) (.slice B3 m3 d3) ((List.replicate n2 0).set 0 n) (List.replicate n 1) (mkOwns n k) ∧ Block wr r 31 #[.int .i64 0, .slice none 0 0, .slice none 0 0, .slice none 0 0] ∧ Below w.heap.size w wr) (fun i _ => n - (intOf i).toNat)
  case atStart => exact ⟨0, _, _, _, _, _, _, _, _, _, by omega, rfl, HMV.out, HRV.out, HBV.out⟩
  case round =>
    clear HMV HRV HBV
    obtain ⟨k, B1, m1, d1, B2, m2, d2, B3, m3, d3, hk, rfl, hM, hR, hB⟩ := hrel
    have HM := Lib.hid hM
    have HR := Lib.hid hR
    have HB := Lib.hid hB
    obtain ⟨q0, q1, q2, q3, q4, q5, q6, q7⟩ := hM.cells
    have HMW := Lib.hid (show w.heap.size ≤ m from (by have := hM.far; have := HRW.out; omega))
    clear hM hR hB
    by_cases hkn : k < n
    · have hkI : (k : Int) < n := by omega
      go_wp2_with (go_at_call 17; refine (own_any n _ _ _ (mkOwns n k) k 0 k [0, 0] wr (fun _ hb => hb.2.2) HM.out.mc (mkOwns_get hkn) (by simp) (by simp) (by simp [mkOwns]; omega)).mono ?_; rw [show (mkOwns n k).set k ([0, 0].set 0 (k : Int)) = mkOwns n (k + 1) from mkOwns_set]; rintro e w3 ⟨v3, rfl, hm3, hb3⟩; have HM3 := Lib.hid hm3; have HB3 := Lib.hid hb3; obtain ⟨C1, n1, e1, C2, n2', e2, C3, n3, e3, rfl⟩ := (MS.start hm3).form; obtain ⟨q0, q1, q2, q3, q4, q5, q6, q7⟩ := (HM.out.below hb3).cells; clear hm3 hb3)
      go_roundw
      case rel => exact ⟨k + 1, _, _, _, _, _, _, _, _, _, by omega, by go_num, HM.out.put HB3.out HM3.out, ((((HR.out.below HB3.out HR.out.lt).far (p := ⟨m, 0, none⟩) (hrm HM.out.far) _).far (p := ⟨m, 1, none⟩) (hrm HM.out.far) _).far (p := ⟨m, 2, none⟩) (hrm HM.out.far) _).far (p := ⟨m, 3, none⟩) (hrm HM.out.far) _, ((((HB.out.trans (HB3.out.mono HB.out.size)).setCell (HMW.out) _).setCell (HMW.out) _).setCell (HMW.out) _).setCell (HMW.out) _⟩
      case measure => simp [intOf]; omega
    · obtain rfl : k = n := by omega
      have hkI : ¬ (k : Int) < k := by omega
      obtain ⟨r0, r1, r2, r3⟩ : wr.cell? ⟨r, 0, none⟩ = some (.int .i64 0) ∧ wr.cell? ⟨r, 1, none⟩ = some (.slice none 0 0) ∧ wr.cell? ⟨r, 2, none⟩ = some (.slice none 0 0) ∧ wr.cell? ⟨r, 3, none⟩ = some (.slice none 0 0) := ⟨(HR.out.cell 0).trans rfl, (HR.out.cell 1).trans rfl, (HR.out.cell 2).trans rfl, (HR.out.cell 3).trans rfl⟩
      have f0 := HR.out.free 0
      have f1 := HR.out.free 1
      have f2 := HR.out.free 2
      have f3 := HR.out.free 3
      go_wp2
      have hs4 : ((((wr.setCell ⟨r, 0, none⟩ (.int .i64 k)).setCell ⟨r, 1, none⟩ (.slice B1 m1 d1)).setCell ⟨r, 2, none⟩ (.slice B2 m2 d2)).setCell ⟨r, 3, none⟩ (.slice B3 m3 d3)).heap.size = wr.heap.size := by simp [World.setCell]
      have hrw : w.heap.size ≤ r := Nat.le_of_eq HRW.out.symm
      have hT := ((((HR.out.put 0 (.int .i64 k)).put 1 (.slice B1 m1 d1)).put 2 (.slice B2 m2 d2)).put 3 (.slice B3 m3 d3))
      have hmc := HM.out.mc
      rw [HN2.out, mkOwns_done, mkLines_done, mkWords_done] at hmc
      exact bodyPost_ret (v := .agg #[.int .i64 k, .slice B1 m1 d1, .slice B2 m2 d2, .slice B3 m3 d3]) (results_cell_row rfl _ _ r 31 _ (0, 0) _ rfl hT Tryd.underlying31 rfl (by kernel_rfl)) rfl
        ⟨_, rfl, hmc.keep (fun b hb => ⟨by have := hb.2.1; omega, by rw [hs4]; exact hb.2.2⟩) (fun p hp => four_off wr r _ _ _ _ p (by have := hp.2.1; omega)), (((HB.out.setCell hrw _).setCell hrw _).setCell hrw _).setCell hrw _⟩
end Go.Proofs.YtobfaohcadmopaaDoor.Clh
