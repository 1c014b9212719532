/-
  What latchgarthref1.Results answers where what is stored waits.
-/
import Derived.Test.YthpnnmkpbkbanaaDoorRefRs
import Derived.Test.YthpnnmkpbkbanaaDoorRefSt2
namespace Go.Proofs.YthpnnmkpbkbanaaDoor
open Go.RowKit

theorem ins1_len (l : List (List Int)) (x : List Int) : l.length ≤ (ins1 l x).length := by
  unfold ins1
  split
  · exact Nat.le_refl _
  · simp
def ResT (w : World) (words : Int) (hs : List (List Ln)) (e : Ending) (w' : World) : Prop := ∃ v ts, e = .returned v ∧ RwsP w' (fun b => b < w'.heap.size) v ts ∧ TsoOf words hs ts ∧ Below w.heap.size w w'
/-- A step, whatever the line. -/
theorem refstep_true {words : Int} {hs : List (List Ln)} (hW : Well words hs) {s : TS} (hs' : RR true hs s) {h : Nat} (hlt : h < hs.length) {l : Ln} (hn : rnext hs s h = some l) (W : World) (sv : Value) (B : Nat) (hnu : Nums W B sv (r46 s)) (hB : B ≤ W.heap.size) :
    Calls Tryd.prog 18 #[sv, .int .i64 h, lnV l, .bool true] W (DonePost W (r46 (rstp true s h l))) := by
  have h3 := hW.few
  have hw4 := hW.hi
  have hok := (well_line hW hn).2.2
  have hq5 := hs'.q5 hW
  have hn10 := hs'.n10 hW h
  have htk := hs'.tok hW
  by_cases k2 : l.k = 2
  · have hr := okLn_reg hok (by omega)
    have hd := okLn_word hok (by omega)
    obtain ⟨k, r, d, v⟩ := l
    simp only at k2 hr hd
    subst k2
    obtain ⟨r, rfl⟩ := Int.eq_ofNat_of_zero_le hr.1
    obtain ⟨d, rfl⟩ := Int.eq_ofNat_of_zero_le hd.1
    have h1 := htk.qn h
    have h2 := lt_of_line hn
    have h5 := well_short hW h
    have h6 : ((cl hs s).o h).n ≤ (s.o h).n := Nat.min_le_left _ _
    have h7 : ((cl hs s).o h).q.length = (s.o h).q.length := rfl
    exact refstep_push s h (by omega) hq5 (by omega) (by omega) sv B r d v W hnu hB (by omega)
  · by_cases k1 : l.k = 1
    · have hr := okLn_reg hok (by omega)
      have hd := okLn_word hok (by omega)
      obtain ⟨k, r, d, v⟩ := l
      simp only at k1 hr hd
      subst k1
      obtain ⟨r, rfl⟩ := Int.eq_ofNat_of_zero_le hr.1
      obtain ⟨d, rfl⟩ := Int.eq_ofNat_of_zero_le hd.1
      exact refstep_fwd s h (by omega) hq5 (by omega) words hw4 sv B r d v hok W hnu hB (by omega)
    · have e : rstp true s h l = rdo s h l := by
        unfold rstp
        dsimp only
        rw [if_neg (fun h => k2 h.2), if_neg k1]
      rw [e, ← refDone_r46 (by omega) hw4 hok]
      exact refstep_plain (r46 s) sv B h (s.o h).n words l true W hnu hB (hs'.len hW) (by omega) (r46_n s (by omega)) (by omega) hw4 hok (Or.inr k2) _ (r46_cnt (by omega) hq5) (Or.inr k1)

set_option maxRecDepth 100000 in
set_option maxHeartbeats 2000000 in
theorem refres_true (words : Int) (hv : Value) (hs : List (List Ln)) (w : World) (hh : Hands w w.heap.size hv hs) (hc : check words hs = 0) :
    Calls Tryd.prog 6 #[.agg #[.int .i64 words, hv], .bool true] w (ResT w words hs) := by
  have HH := Lib.hid hh
  have hW := check_well hc
  have HW := Lib.hid hW
  have h3 := hW.few
  have HMK : ∀ w, (Instr.makeSlice 42 (.int .i64 1009) (.int .i64 1009)).run Tryd.prog w = .ok (.slice (some ⟨w.heap.size, 0, none⟩) 1009 1009) (w.alloc (.cells (madeCells #[.slice none 0 0] 1009) 43)) := make_rows
  obtain ⟨A, c, rfl, hlen, _⟩ := hh
  have HS0 := Lib.hid (RSt.start w words (.slice A hs.length c))
  clear hW hc
  go_enter Tryd.func6, Tryd.ntmps6
  go_wp2_with (first | (go_at_call 16; refine (first_any _).mono ?_; rintro e w1 hcp; obtain ⟨g, c1, rfl, hc46, hn1, hb1⟩ := hcp.form (by simp); rw [← r46_ts0] at hn1; have HR1 := Lib.hid hn1; have HS1 := Lib.hid (HS0.out.on hb1); clear hcp hn1 hb1) | (go_at_call 15; go_loud (refine (addR HW.out HS1.out (by simp) (by simp) (RR.start (wait := true) (hs := hs)) hc46 (HR1.out.keep (fun b hb => HS0.out.new hb.1 hb.2) fun _ _ => rfl)).mono ?_); rintro e w2 ⟨rfl, lv, cs, us, bs, hst, -, -⟩; have HS2 := Lib.hid hst; clear hst))
  rw [show ins1 [] (r46 ts0) = [r46 ts0] from rfl] at HS2
  go_loopw [6, 7] (fun ov av wr => ∃ (a : Nat) (lv : Value) (cs : Array Value) (us : List Value) (bs : Nat → List Value) (L out : List (List Int)), a ≤ L.length ∧ av = .int .i64 a ∧ RSt w wr words (.slice A hs.length c) lv cs us bs L ∧ RKnow true hs L a ∧ ROut true words hs L a out ∧ out.length ≤ a ∧ ROv w wr lv cs ov out) (fun _ av _ => 4459118884992 - (intOf av).toNat)
  case atStart => exact ⟨0, lv, cs, us, bs, [r46 ts0], [], by simp, rfl, HS2.out, RKnow.start _ _, ROut.start _ _ _ _, by simp, ⟨none, 0, rfl, by simp, fun h => by simp at h⟩⟩
  case round =>
    clear HS2 lv cs us bs HS0 HR1 HS1
    obtain ⟨a, lv, cs, us, bs, L, out, ha, rfl, hst, hkn, hou, hol, hov⟩ := hrel
    have hfew := hkn.few HW.out
    have HST := Lib.hid hst
    have HKN := Lib.hid hkn
    have HOU := Lib.hid hou
    have HOV := Lib.hid hov
    have HUL := Lib.hid hst.fat.row.1
    obtain ⟨Al, cl_, rfl, hAl⟩ := own_form hst.fat.own
    obtain ⟨Ao, co, rfl, _, _⟩ := hov
    have f1 : wr.cell? ⟨w.heap.size + 1 + 1, 1, none⟩ = some (.slice Al us.length cl_) := (hst.fat.fblk.cell 1).trans rfl
    clear hst hkn hou
    by_cases hlt : a < us.length
    · have haI : (a : Int) < us.length := by omega
      obtain ⟨gl, rfl⟩ := hAl (by omega)
      obtain ⟨u, hu⟩ : ∃ u, us[a]? = some u := ⟨_, List.getElem?_eq_getElem hlt⟩
      obtain ⟨y, hy⟩ : ∃ y, L[a]? = some y := ⟨_, List.getElem?_eq_getElem (by have := HUL.out; omega)⟩
      obtain ⟨s, hs', rfl⟩ := HKN.out.rch y (List.mem_of_getElem? hy)
      have hrl := hs'.len HW.out
      have hnu := HST.out.fat.row.2 a u _ hu hy
      have hcu := HST.out.fat.cap u (List.mem_of_getElem? hu)
      have g3 : wr.cell? ⟨gl, a, none⟩ = some u := own_at HST.out.fat.own hu
      have HNU := Lib.hid hnu
      obtain ⟨Au, cu, rfl, _, hnc⟩ := hnu
      obtain ⟨b, o, rfl, _, _⟩ := hnc (by omega)
      have HRR := Lib.hid (show RRow w wr (.slice (some ⟨gl, 0, none⟩) us.length cl_) cs b o cu s from ⟨by have := hcu _ _ _ rfl; omega, by rw [← hrl]; exact HNU.out⟩)
      have HSR := Lib.hid hs'
      have HRL := Lib.hid hrl
      have HY := Lib.hid hy
      have HQ5 := Lib.hid (hs'.q5 HW.out)
      have HTK := Lib.hid (hs'.tok HW.out)
      have HN10 := Lib.hid (hs'.n10 HW.out)
      rw [hrl] at g3
      clear hu hy hs' hrl hcu hnc HNU
      go_wp2
      clear f1 g3 haI HUL hlt
      go_loopw [9, 10] (fun ev hv wr => ∃ (h : Nat) (eb : Bool) (lv : Value) (cs : Array Value) (us : List Value) (bs : Nat → List Value) (L : List (List Int)), h ≤ hs.length ∧ hv = .int .i64 h ∧ ev = .bool eb ∧ a < L.length ∧ RSt w wr words (.slice A hs.length c) lv cs us bs L ∧ RKnow true hs L a ∧ ROut true words hs L a out ∧ ROv w wr lv cs (.slice Ao out.length co) out ∧ RRow w wr lv cs b o cu s ∧ L[a]? = some (r46 s) ∧ RDone true hs L s h ∧ (eb = true ↔ ∀ p, p < h → rnext hs s p = none ∧ (s.o p).q = [])) (fun _ hv _ => hs.length - (intOf hv).toNat)
      case atStart => exact ⟨0, true, _, cs, us, bs, L, by omega, rfl, rfl, (List.getElem?_eq_some_iff.1 HY.out).1, HST.out, HKN.out, HOU.out, HOV.out, HRR.out, HY.out, fun p hp => by omega, ⟨fun _ p hp => by omega, fun _ => rfl⟩⟩
      case round =>
        clear HST HKN HOU HOV HRR HY hAl
        obtain ⟨h, eb, lv, cs, us, bs, L, hh_, rfl, rfl, haL, hst, hkn, hou, hov, hrr, hy, hrd, heb⟩ := hrel
        have hfew := hkn.few HW.out
        have HST := Lib.hid hst
        have HKN := Lib.hid hkn
        have HOU := Lib.hid hou
        have HOV := Lib.hid hov
        have HRR := Lib.hid hrr
        have HY := Lib.hid hy
        have HRD := Lib.hid hrd
        have HEB := Lib.hid heb
        have c0 := hst.pbk.cell 0
        have c1 := hst.pbk.cell 1
        simp at c0 c1
        clear hst hkn hou hov hrr hy hrd heb
        by_cases hlt : h < hs.length
        · have hhI : (h : Int) < hs.length := by omega
          have hl : hs[h]? = some (hs.getD h []) := by rw [List.getD_eq_getElem?_getD, List.getElem?_eq_getElem hlt]; rfl
          have HNX := Lib.hid (next_any words _ _ hs (r46 s) wr.heap.size h (s.o h).n (hs.getD h []) wr ((HH.out.below HST.out.below (Nat.le_refl _)).more HST.out.below.size) HRR.out.nums hl (r46_n s (by omega)))
          have i1 : (13 : Int) + (h : Int) * 11 < 46 := by omega
          have i2 : (0 : Int) ≤ 13 + (h : Int) * 11 := by omega
          have HCN := Lib.hid (r46_cnt (s := s) (p := h) (by omega) HQ5.out)
          clear hl
          cases hq : (s.o h).q with
          | nil =>
            have HQ := Lib.hid hq
            have HC0 := Lib.hid (show (r46 s)[13 + h * 11]? = some (0 : Int) by rw [HCN.out, hq]; rfl)
            clear hq HCN
            cases hn : rnext hs s h with
            | none =>
              have HN := Lib.hid hn
              rw [rnext_none HW.out hlt hn, show lnV ⟨0, 0, 0, 0⟩ = .agg #[.int .i64 0, .int .i64 0, .int .i64 0, .int .i64 0] from rfl] at HNX
              clear hn
              go_wp2_with (go_at_call 17; refine HNX.out.mono ?_; rintro e w3 ⟨rfl, hb3⟩; have hb4 := hb3.alloc hb3.size (.cells #[.int .i64 0, .int .i64 0, .int .i64 0, .int .i64 0] 40); have HB4 := Lib.hid hb4; have HRR4 := Lib.hid (HRR.out.on hb4); have HST4 := Lib.hid (HST.out.on hb4); have HOV4 := Lib.hid (HOV.out.on hb4); have q4 := HRR4.out.cell HRL.out HC0.out; clear hb3 hb4)
              go_roundw
              case rel =>
                refine ⟨h + 1, eb, lv, cs, us, bs, L, by omega, by go_num, rfl, haL, HST4.out, HKN.out, HOU.out, HOV4.out, HRR4.out, HY.out, fun p hp => ?_, HEB.out.trans ⟨fun h1 p hp => ?_, fun h1 p hp => h1 p (by omega)⟩⟩
                · rcases Nat.lt_or_ge p h with h1 | h1
                  · exact HRD.out p h1
                  · obtain rfl : p = h := by omega
                    exact ⟨fun l hl => (by rw [HN.out] at hl; cases hl), fun hq => absurd HQ.out hq⟩
                · rcases Nat.lt_or_ge p h with h2 | h2
                  · exact h1 p h2
                  · obtain rfl : p = h := by omega
                    exact ⟨HN.out, HQ.out⟩
              case measure => simp [intOf]; omega
            | some l =>
              have HN := Lib.hid hn
              have HSTP := Lib.hid (fun (W : World) (hs' : RRow w W lv cs b o cu s) => (refstep_true HW.out HSR.out hlt hn W _ W.heap.size hs'.nums (Nat.le_refl _) : Calls Tryd.prog 18 #[.slice (some ⟨b, o, none⟩) 46 cu, .int .i64 h, lnV l, .bool true] W (DonePost W (r46 (rstp true s h l)))))
              have HT := Lib.hid (fun hm => RR.step HSR.out hlt hn hm)
              rw [rnext_some HW.out hn] at HNX
              obtain ⟨y2, hy2⟩ : ∃ y2, y2 = rstp true s h l := ⟨_, rfl⟩
              rw [← hy2] at HT HSTP
              have HY2 := Lib.hid hy2
              obtain ⟨k, r, d, v⟩ := l
              rw [show lnV ⟨k, r, d, v⟩ = .agg #[.int .i64 k, .int .i64 r, .int .i64 d, .int .i64 v] from rfl] at HNX HSTP
              clear hn hy2
              have HT := Lib.hid (HT.out (by simp [rmay, HQ.out]))
              go_wp2_with (first | (go_at_call 17; refine HNX.out.mono ?_; rintro e w3 ⟨rfl, hb3⟩; have hb4 := hb3.alloc hb3.size (.cells #[.int .i64 k, .int .i64 r, .int .i64 d, .int .i64 v] 40); have HB4 := Lib.hid hb4; have HRR4 := Lib.hid (HRR.out.on hb4); have HST4 := Lib.hid (HST.out.on hb4); have HOV4 := Lib.hid (HOV.out.on hb4); have q4 := HRR4.out.cell HRL.out HC0.out; clear hb3 hb4) | (go_at_call 18; refine (HSTP.out _ HRR4.out).mono ?_; rintro e w5 hdp; obtain ⟨g5, c5, rfl, hc5, hn5, hb5⟩ := hdp.form (HT.out.len HW.out); have HNN5 := Lib.hid (hn5.keep (fun b hb => HST4.out.new hb.1 hb.2) fun _ _ => rfl); have HST5 := Lib.hid (HST4.out.on hb5); have HRR5 := Lib.hid (HRR4.out.on hb5); have HOV5 := Lib.hid (HOV4.out.on hb5); clear hdp hn5 hb5) | (go_at_call 15; refine (addR HW.out HST5.out (RSt.rows46 HW.out (HKN.out)) ((HKN.out).few HW.out) HT.out hc5 HNN5.out).mono ?_; rintro e w6 ⟨rfl, lv6, cs6, us6, bs6, hst6, ht6, hm6⟩; have HST6 := Lib.hid hst6; have HRR6 := Lib.hid (HRR5.out.turn ht6 hm6); have HOV6 := Lib.hid (HOV5.out.turn ht6 hm6); have q6 := HRR6.out.cell HRL.out HC0.out; clear hst6 ht6 hm6))
              go_roundw
              case rel =>
                refine ⟨h + 1, false, lv6, cs6, us6, bs6, ins1 L (r46 y2), by omega, by go_num, rfl, Nat.lt_of_lt_of_le haL (ins1_len _ _), HST6.out, HKN.out.put (by omega) HT.out, HOU.out.more (by omega) _, HOV6.out, HRR6.out, by rw [ins1_get haL]; exact HY.out, fun p hp => ?_, ⟨fun h1 => (by cases h1), fun h1 => ?_⟩⟩
                · rcases Nat.lt_or_ge p h with h1 | h1
                  · exact (HRD.out.more (fun _ hy => ins1_mem hy)) p h1
                  · obtain rfl : p = h := by omega
                    refine ⟨fun l hl hm => ?_, fun hq => ?_⟩
                    · rw [HN.out] at hl
                      obtain rfl := Option.some.inj hl
                      rw [← HY2.out]
                      exact mem_ins1.2 (Or.inr rfl)
                    · exact absurd HQ.out hq
                · have := h1 h (by omega)
                  rw [HN.out] at this; cases this.1
              case measure => simp [intOf]; omega
          | cons x qr =>
            obtain ⟨cn, hcn⟩ : ∃ cn : Nat, cn = (s.o h).q.length := ⟨_, rfl⟩
            have hcn1 : 0 < cn := by rw [hcn, hq]; simp
            have HC0 := Lib.hid (show (r46 s)[13 + h * 11]? = some (cn : Int) by rw [HCN.out, hcn])
            have ec : ((cn : Int) == 0) = false := beq_eq_false_iff_ne.2 (by omega)
            have ep : (0 : Int) < cn := by omega
            have HQ := Lib.hid (show (s.o h).q ≠ [] by rw [hq]; simp)
            have HT2 := Lib.hid (RR.come HSR.out hlt HQ.out)
            have HCOM := Lib.hid (fun (W : World) (lv : Value) (cs : Array Value) (hs' : RRow w W lv cs b o cu s) => (by obtain ⟨xd, xv⟩ := x; exact refcome_any s h (by omega) HQ5.out xd xv qr hq (by have := (HTK.out.rq h (xd, xv) (by show _ ∈ (s.o h).q; rw [hq]; simp)).1; have := HW.out.hi; simp at *; omega) _ W.heap.size W hs'.nums : Calls Tryd.prog 19 #[.slice (some ⟨b, o, none⟩) 46 cu, .int .i64 h] W (DonePost W (r46 (tcom s h)))))
            obtain ⟨y3, hy3⟩ : ∃ y3, y3 = tcom s h := ⟨_, rfl⟩
            rw [← hy3] at HT2 HCOM
            have HY3 := Lib.hid hy3
            clear hq HCN hcn hy3
            cases hn : rnext hs s h with
            | none =>
              have HN := Lib.hid hn
              rw [rnext_none HW.out hlt hn, show lnV ⟨0, 0, 0, 0⟩ = .agg #[.int .i64 0, .int .i64 0, .int .i64 0, .int .i64 0] from rfl] at HNX
              clear hn
              go_wp2_with (first | (go_at_call 17; refine HNX.out.mono ?_; rintro e w3 ⟨rfl, hb3⟩; have hb4 := hb3.alloc hb3.size (.cells #[.int .i64 0, .int .i64 0, .int .i64 0, .int .i64 0] 40); have HB4 := Lib.hid hb4; have HRR4 := Lib.hid (HRR.out.on hb4); have HST4 := Lib.hid (HST.out.on hb4); have HOV4 := Lib.hid (HOV.out.on hb4); have q4 := HRR4.out.cell HRL.out HC0.out; clear hb3 hb4) | (go_at_call 19; refine (HCOM.out _ _ _ HRR4.out).mono ?_; rintro e w5 hdp; obtain ⟨g5, c5, rfl, hc5, hn5, hb5⟩ := hdp.form (HT2.out.len HW.out); have HNN5 := Lib.hid (hn5.keep (fun b hb => HST4.out.new hb.1 hb.2) fun _ _ => rfl); have HST5 := Lib.hid (HST4.out.on hb5); have HRR5 := Lib.hid (HRR4.out.on hb5); have HOV5 := Lib.hid (HOV4.out.on hb5); clear hdp hn5 hb5) | (go_at_call 15; refine (addR HW.out HST5.out (RSt.rows46 HW.out (HKN.out)) ((HKN.out).few HW.out) HT2.out hc5 HNN5.out).mono ?_; rintro e w6 ⟨rfl, lv6, cs6, us6, bs6, hst6, ht6, hm6⟩; have HST6 := Lib.hid hst6; have HRR6 := Lib.hid (HRR5.out.turn ht6 hm6); have HOV6 := Lib.hid (HOV5.out.turn ht6 hm6); have q6 := HRR6.out.cell HRL.out HC0.out; clear hst6 ht6 hm6))
              go_roundw
              case rel =>
                refine ⟨h + 1, false, lv6, cs6, us6, bs6, ins1 L (r46 y3), by omega, by go_num, rfl, Nat.lt_of_lt_of_le haL (ins1_len _ _), HST6.out, HKN.out.put (by omega) HT2.out, HOU.out.more (by omega) _, HOV6.out, HRR6.out, by rw [ins1_get haL]; exact HY.out, fun p hp => ?_, ⟨fun h1 => (by cases h1), fun h1 => ?_⟩⟩
                · rcases Nat.lt_or_ge p h with h1 | h1
                  · exact (HRD.out.more (fun _ hy => ins1_mem hy)) p h1
                  · obtain rfl : p = h := by omega
                    refine ⟨fun l hl hm => ?_, fun hq => ?_⟩
                    · rw [HN.out] at hl; cases hl
                    · rw [← HY3.out]; exact mem_ins1.2 (Or.inr rfl)
                · have := h1 h (by omega)
                  exact absurd this.2 HQ.out
              case measure => simp [intOf]; omega
            | some l =>
              have HN := Lib.hid hn
              have HSTP := Lib.hid (fun (W : World) (hs' : RRow w W lv cs b o cu s) => (refstep_true HW.out HSR.out hlt hn W _ W.heap.size hs'.nums (Nat.le_refl _) : Calls Tryd.prog 18 #[.slice (some ⟨b, o, none⟩) 46 cu, .int .i64 h, lnV l, .bool true] W (DonePost W (r46 (rstp true s h l)))))
              have HT := Lib.hid (fun hm => RR.step HSR.out hlt hn hm)
              rw [rnext_some HW.out hn] at HNX
              obtain ⟨y2, hy2⟩ : ∃ y2, y2 = rstp true s h l := ⟨_, rfl⟩
              rw [← hy2] at HT HSTP
              have HY2 := Lib.hid hy2
              obtain ⟨k, r, d, v⟩ := l
              rw [show lnV ⟨k, r, d, v⟩ = .agg #[.int .i64 k, .int .i64 r, .int .i64 d, .int .i64 v] from rfl] at HNX HSTP
              clear hn hy2
              by_cases hk : k = 3 ∨ k = 4
              · have HMN := Lib.hid (show rmay true s h ⟨k, r, d, v⟩ = false by
                  have h1 : (s.o h).q.isEmpty = false := by
                    cases h2 : (s.o h).q with
                    | nil => exact absurd h2 HQ.out
                    | cons _ _ => rfl
                  rcases hk with rfl | rfl <;> simp [rmay, h1])
                rcases hk with rfl | rfl
                · go_wp2_with (first | (go_at_call 17; refine HNX.out.mono ?_; rintro e w3 ⟨rfl, hb3⟩; have hb4 := hb3.alloc hb3.size (.cells #[.int .i64 3, .int .i64 r, .int .i64 d, .int .i64 v] 40); have HB4 := Lib.hid hb4; have HRR4 := Lib.hid (HRR.out.on hb4); have HST4 := Lib.hid (HST.out.on hb4); have HOV4 := Lib.hid (HOV.out.on hb4); have q4 := HRR4.out.cell HRL.out HC0.out; clear hb3 hb4) | (go_at_call 19; refine (HCOM.out _ _ _ HRR4.out).mono ?_; rintro e w5 hdp; obtain ⟨g5, c5, rfl, hc5, hn5, hb5⟩ := hdp.form (HT2.out.len HW.out); have HNN5 := Lib.hid (hn5.keep (fun b hb => HST4.out.new hb.1 hb.2) fun _ _ => rfl); have HST5 := Lib.hid (HST4.out.on hb5); have HRR5 := Lib.hid (HRR4.out.on hb5); have HOV5 := Lib.hid (HOV4.out.on hb5); clear hdp hn5 hb5) | (go_at_call 15; refine (addR HW.out HST5.out (RSt.rows46 HW.out (HKN.out)) ((HKN.out).few HW.out) HT2.out hc5 HNN5.out).mono ?_; rintro e w6 ⟨rfl, lv6, cs6, us6, bs6, hst6, ht6, hm6⟩; have HST6 := Lib.hid hst6; have HRR6 := Lib.hid (HRR5.out.turn ht6 hm6); have HOV6 := Lib.hid (HOV5.out.turn ht6 hm6); have q6 := HRR6.out.cell HRL.out HC0.out; clear hst6 ht6 hm6))
                  go_roundw
                  case rel =>
                    refine ⟨h + 1, false, lv6, cs6, us6, bs6, ins1 L (r46 y3), by omega, by go_num, rfl, Nat.lt_of_lt_of_le haL (ins1_len _ _), HST6.out, HKN.out.put (by omega) HT2.out, HOU.out.more (by omega) _, HOV6.out, HRR6.out, by rw [ins1_get haL]; exact HY.out, fun p hp => ?_, ⟨fun h1 => (by cases h1), fun h1 => ?_⟩⟩
                    · rcases Nat.lt_or_ge p h with h1 | h1
                      · exact (HRD.out.more (fun _ hy => ins1_mem hy)) p h1
                      · obtain rfl : p = h := by omega
                        refine ⟨fun l hl hm => ?_, fun hq => ?_⟩
                        · rw [HN.out] at hl
                          obtain rfl := Option.some.inj hl
                          rw [HMN.out] at hm; cases hm
                        · rw [← HY3.out]; exact mem_ins1.2 (Or.inr rfl)
                    · have := h1 h (by omega)
                      exact absurd this.2 HQ.out
                  case measure => simp [intOf]; omega
                · go_wp2_with (first | (go_at_call 17; refine HNX.out.mono ?_; rintro e w3 ⟨rfl, hb3⟩; have hb4 := hb3.alloc hb3.size (.cells #[.int .i64 4, .int .i64 r, .int .i64 d, .int .i64 v] 40); have HB4 := Lib.hid hb4; have HRR4 := Lib.hid (HRR.out.on hb4); have HST4 := Lib.hid (HST.out.on hb4); have HOV4 := Lib.hid (HOV.out.on hb4); have q4 := HRR4.out.cell HRL.out HC0.out; clear hb3 hb4) | (go_at_call 19; refine (HCOM.out _ _ _ HRR4.out).mono ?_; rintro e w5 hdp; obtain ⟨g5, c5, rfl, hc5, hn5, hb5⟩ := hdp.form (HT2.out.len HW.out); have HNN5 := Lib.hid (hn5.keep (fun b hb => HST4.out.new hb.1 hb.2) fun _ _ => rfl); have HST5 := Lib.hid (HST4.out.on hb5); have HRR5 := Lib.hid (HRR4.out.on hb5); have HOV5 := Lib.hid (HOV4.out.on hb5); clear hdp hn5 hb5) | (go_at_call 15; refine (addR HW.out HST5.out (RSt.rows46 HW.out (HKN.out)) ((HKN.out).few HW.out) HT2.out hc5 HNN5.out).mono ?_; rintro e w6 ⟨rfl, lv6, cs6, us6, bs6, hst6, ht6, hm6⟩; have HST6 := Lib.hid hst6; have HRR6 := Lib.hid (HRR5.out.turn ht6 hm6); have HOV6 := Lib.hid (HOV5.out.turn ht6 hm6); have q6 := HRR6.out.cell HRL.out HC0.out; clear hst6 ht6 hm6))
                  go_roundw
                  case rel =>
                    refine ⟨h + 1, false, lv6, cs6, us6, bs6, ins1 L (r46 y3), by omega, by go_num, rfl, Nat.lt_of_lt_of_le haL (ins1_len _ _), HST6.out, HKN.out.put (by omega) HT2.out, HOU.out.more (by omega) _, HOV6.out, HRR6.out, by rw [ins1_get haL]; exact HY.out, fun p hp => ?_, ⟨fun h1 => (by cases h1), fun h1 => ?_⟩⟩
                    · rcases Nat.lt_or_ge p h with h1 | h1
                      · exact (HRD.out.more (fun _ hy => ins1_mem hy)) p h1
                      · obtain rfl : p = h := by omega
                        refine ⟨fun l hl hm => ?_, fun hq => ?_⟩
                        · rw [HN.out] at hl
                          obtain rfl := Option.some.inj hl
                          rw [HMN.out] at hm; cases hm
                        · rw [← HY3.out]; exact mem_ins1.2 (Or.inr rfl)
                    · have := h1 h (by omega)
                      exact absurd this.2 HQ.out
                  case measure => simp [intOf]; omega
              · have e3 : (k != 3) = true := bne_iff_ne.2 (fun e => hk (Or.inl e))
                have e4 : (k != 4) = true := bne_iff_ne.2 (fun e => hk (Or.inr e))
                have HT := Lib.hid (HT.out (by
                  have h3 : k ≠ 3 := fun e => hk (Or.inl e)
                  have h4 : k ≠ 4 := fun e => hk (Or.inr e)
                  simp [rmay, h3, h4]))
                clear hk
                go_wp2_with (first | (go_at_call 17; refine HNX.out.mono ?_; rintro e w3 ⟨rfl, hb3⟩; have hb4 := hb3.alloc hb3.size (.cells #[.int .i64 k, .int .i64 r, .int .i64 d, .int .i64 v] 40); have HB4 := Lib.hid hb4; have HRR4 := Lib.hid (HRR.out.on hb4); have HST4 := Lib.hid (HST.out.on hb4); have HOV4 := Lib.hid (HOV.out.on hb4); have q4 := HRR4.out.cell HRL.out HC0.out; clear hb3 hb4) | (go_at_call 18; refine (HSTP.out _ HRR4.out).mono ?_; rintro e w5 hdp; obtain ⟨g5, c5, rfl, hc5, hn5, hb5⟩ := hdp.form (HT.out.len HW.out); have HNN5 := Lib.hid (hn5.keep (fun b hb => HST4.out.new hb.1 hb.2) fun _ _ => rfl); have HST5 := Lib.hid (HST4.out.on hb5); have HRR5 := Lib.hid (HRR4.out.on hb5); have HOV5 := Lib.hid (HOV4.out.on hb5); clear hdp hn5 hb5) | (go_at_call 15; refine (addR HW.out HST5.out (RSt.rows46 HW.out (HKN.out)) ((HKN.out).few HW.out) HT.out hc5 HNN5.out).mono ?_; rintro e w6 ⟨rfl, lv6, cs6, us6, bs6, hst6, ht6, hm6⟩; have HST6 := Lib.hid hst6; have HRR6 := Lib.hid (HRR5.out.turn ht6 hm6); have HOV6 := Lib.hid (HOV5.out.turn ht6 hm6); have q6 := HRR6.out.cell HRL.out HC0.out; clear hst6 ht6 hm6))
                refine (HCOM.out _ _ _ HRR6.out).mono ?_
                rintro e w7 hdp
                obtain ⟨g7, c7, rfl, hc7, hn7, hb7⟩ := hdp.form (HT2.out.len HW.out)
                have HNN7 := Lib.hid (hn7.keep (fun b hb => HST6.out.new hb.1 hb.2) fun _ _ => rfl)
                have HST7 := Lib.hid (HST6.out.on hb7)
                have HRR7 := Lib.hid (HRR6.out.on hb7)
                have HOV7 := Lib.hid (HOV6.out.on hb7)
                clear hdp hn7 hb7 HST4 HRR4 HOV4 HB4 HST5 HRR5 HOV5 HNN5 HST HRR HOV q4
                go_wp2_with (go_at_call 15; refine (addR HW.out HST7.out (RSt.rows46 HW.out (HKN.out.put (by omega) HT.out)) ((HKN.out.put (by omega) HT.out).few HW.out) HT2.out hc7 HNN7.out).mono ?_; rintro e w8 ⟨rfl, lv8, cs8, us8, bs8, hst8, ht8, hm8⟩; have HST8 := Lib.hid hst8; have HRR8 := Lib.hid (HRR7.out.turn ht8 hm8); have HOV8 := Lib.hid (HOV7.out.turn ht8 hm8); have q8 := HRR8.out.cell HRL.out HC0.out; clear hst8 ht8 hm8)
                go_roundw
                case rel =>
                  refine ⟨h + 1, false, lv8, cs8, us8, bs8, ins1 (ins1 L (r46 y2)) (r46 y3), by omega, by go_num, rfl, Nat.lt_of_lt_of_le haL (Nat.le_trans (ins1_len _ _) (ins1_len _ _)), HST8.out, (HKN.out.put (by omega) HT.out).put (Nat.le_trans (Nat.le_of_lt haL) (ins1_len _ _)) HT2.out, (HOU.out.more (by omega) _).more (Nat.le_trans (Nat.le_of_lt haL) (ins1_len _ _)) _, HOV8.out, HRR8.out, by rw [ins1_get (Nat.lt_of_lt_of_le haL (ins1_len _ _)), ins1_get haL]; exact HY.out, fun p hp => ?_, ⟨fun h1 => (by cases h1), fun h1 => ?_⟩⟩
                  · rcases Nat.lt_or_ge p h with h1 | h1
                    · exact (HRD.out.more (fun _ hy => ins1_mem (ins1_mem hy))) p h1
                    · obtain rfl : p = h := by omega
                      refine ⟨fun l hl hm => ?_, fun hq => ?_⟩
                      · rw [HN.out] at hl
                        obtain rfl := Option.some.inj hl
                        rw [← HY2.out]
                        exact ins1_mem (mem_ins1.2 (Or.inr rfl))
                      · rw [← HY3.out]; exact mem_ins1.2 (Or.inr rfl)
                  · have := h1 h (by omega)
                    exact absurd this.2 HQ.out
                case measure => simp [intOf]; omega
        · have hhI : ¬ (h : Int) < hs.length := by omega
          obtain rfl : h = hs.length := by omega
          cases eb with
          | false =>
            have HNE := Lib.hid (show ¬ rEnd hs s from fun he => by have := HEB.out.2 (fun p hp => he p hp); cases this)
            go_wp2
            go_roundw
            case rel => exact ⟨a + 1, lv, cs, us, bs, L, out, by omega, by go_num, HST.out, HKN.out.done HSR.out HY.out HRD.out, HOU.out.skip HW.out HSR.out HY.out HNE.out, by omega, HOV.out⟩
            case measure => simp [intOf]; omega
          | true =>
            have HE := Lib.hid (show rEnd hs s from fun p hp => HEB.out.1 rfl p hp)
            go_wp2_with (first | (go_at_call 21; refine (result_new (r46 s) _ words _ hs wr.heap.size wr ((HH.out.below HST.out.below (Nat.le_refl _)).more HST.out.below.size) h3 HW.out.lo HW.out.hi b o cu rfl HRR.out.cap HRR.out.nums (Nat.le_refl _) HRL.out).mono ?_; rintro e w7 ⟨v7, rfl, hn7, hb7⟩; have HN7 := Lib.hid (hn7.keep (fun b hb => HST.out.new hb.1 hb.2) fun _ _ => rfl); have HST7 := Lib.hid (HST.out.on hb7); have HOV7 := Lib.hid (HOV.out.on hb7); clear hn7 hb7) | (go_at_call 20; refine (refput_any out (rTold words hs (r46 s)) _ _ w7 (P := FixR w w7 lv cs) (fun b hb => hb.1) HOV7.out HN7.out (fun z hz => (HOU.out.len z hz).trans rTold_length.symm) (by omega)).mono ?_; rintro e w8 ⟨v8, rfl, hn8, hb8⟩; have HST8 := Lib.hid (HST7.out.on hb8); have HOV8 := Lib.hid (show ROv w w8 lv cs v8 (putL out (rTold words hs (r46 s))) from RwsP.keep hn8 (fun b hb => hb.elim (FixR.below hb8 b) fun h => HST7.out.new h.1 h.2) fun _ _ => rfl); clear hn8 hb8))
            go_roundw
            case rel => exact ⟨a + 1, lv, cs, us, bs, L, putL out (rTold words hs (r46 s)), by omega, by go_num, HST8.out, HKN.out.done HSR.out HY.out HRD.out, HOU.out.put HSR.out HY.out HE.out, by have := putL_length out (rTold words hs (r46 s)); omega, HOV8.out⟩
            case measure => simp [intOf]; omega
    · have haI : ¬ (a : Int) < us.length := by omega
      go_wp2
      go_ret
      exact ⟨_, out, rfl, RwsP.keep HOV.out (fun b hb => hb.1) fun _ _ => rfl, HOU.out.tso HW.out HKN.out (by have := HUL.out; omega), HST.out.below⟩
end Go.Proofs.YthpnnmkpbkbanaaDoor
