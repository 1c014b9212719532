/-
  What latchgarthref1.Races answers.
-/
import Derived.Test.YthpnnmkpbkbanaaDoorRefRs
namespace Go.Proofs.YthpnnmkpbkbanaaDoor
open Go.RowKit

theorem next_cl {hs : List (List Ln)} {s : TS} {p : Nat} (hp : p < 3) : nextLn hs (e16 (cl hs s)) p = rnext hs s p := by
  have h1 : (e16 (cl hs s)).getD (p * 4 + 2) 0 = ((min (s.o p).n (hs.getD p []).length : Nat) : Int) := by
    rw [List.getD_eq_getElem?_getD, e16_n _ hp]; rfl
  unfold nextLn rnext
  rw [h1, if_neg (by omega), Int.toNat_natCast]
  rcases Nat.lt_or_ge (s.o p).n (hs.getD p []).length with h | h
  · rw [Nat.min_eq_left (by omega)]
  · rw [Nat.min_eq_right h, List.getElem?_eq_none (Nat.le_refl _), List.getElem?_eq_none h]
/-- Two hands touch one word next. -/
def RaceAt (hs : List (List Ln)) (s : TS) (a b : Nat) : Prop := ∃ x y, rnext hs s a = some x ∧ rnext hs s b = some y ∧ clashB x y = true
theorem race_at {hs : List (List Ln)} (h3 : hs.length ≤ 3) {s : TS} {a b : Nat} (ha : a < hs.length) (hb : b < a) : race2 hs (e16 (cl hs s)) a b = true ↔ RaceAt hs s a b := by
  unfold race2 RaceAt
  rw [next_cl (by omega), next_cl (by omega)]
  cases hx : rnext hs s a with
  | none => simp
  | some x =>
    cases hy : rnext hs s b with
    | none => simp
    | some y => simp
def NoRace (hs : List (List Ln)) (s : TS) : Prop := ∀ a, a < hs.length → ∀ b, b < a → ¬ RaceAt hs s a b
theorem race_yes {words : Int} {hs : List (List Ln)} (hW : Well words hs) {s : TS} (hs' : RR false hs s) {a b : Nat} (ha : a < hs.length) (hb : b < a) (h : RaceAt hs s a b) : scRace hs = true :=
  (scRace_iff hW).2 ⟨e16 (cl hs s), (hs'.cl_sreach hW).reach hW, raceB_iff.2 ⟨a, b, ha, hb, (race_at hW.few ha hb).2 h⟩⟩
theorem race_no {words : Int} {hs : List (List Ln)} (hW : Well words hs) {L : List (List Int)} {n : Nat} (hk : RKnow false hs L n) (hn : L.length ≤ n) (h : ∀ (j : Nat) (s : TS), j < n → L[j]? = some (r46 s) → RR false hs s → NoRace hs s) : scRace hs = false := by
  rw [← Bool.not_eq_true]
  intro hr
  obtain ⟨z, h1, h2⟩ := (scRace_iff hW).1 hr
  obtain ⟨t, h4, rfl⟩ := Reach.sreach hW h1
  obtain ⟨s, h5, rfl⟩ := SReach.of_rr hW h4
  obtain ⟨a, b, ha, hb, h6⟩ := raceB_iff.1 h2
  obtain ⟨j, hj⟩ := List.getElem?_of_mem (hk.all hW hn h5)
  exact h j s (by have := (List.getElem?_eq_some_iff.1 hj).1; omega) hj h5 a ha b hb ((race_at hW.few ha hb).1 h6)
theorem clash_no_touch1 {x y : Ln} (h : inR x.k 1 3 = false) : clashB x y = false := by
  have : touchB x = false := by
    rw [← Bool.not_eq_true]
    intro h2
    simp only [touchB, Bool.or_eq_true, decide_eq_true_eq] at h2
    rw [← Bool.not_eq_true] at h
    exact h (inR_true.2 (by omega))
  simp [clashB, this]
theorem clash_no_touch2 {x y : Ln} (h : inR y.k 1 3 = false) : clashB x y = false := by
  have : touchB y = false := by
    rw [← Bool.not_eq_true]
    intro h2
    simp only [touchB, Bool.or_eq_true, decide_eq_true_eq] at h2
    rw [← Bool.not_eq_true] at h
    exact h (inR_true.2 (by omega))
  simp [clashB, this]

set_option maxRecDepth 100000 in
set_option maxHeartbeats 8000000 in
theorem refraces_any (words : Int) (hv : Value) (hs : List (List Ln)) (w : World) (hh : Hands w w.heap.size hv hs) (hc : check words hs = 0) :
    Calls Tryd.prog 7 #[.agg #[.int .i64 words, hv]] w fun e w' => e = .returned (.bool (scRace hs)) ∧ Below w.heap.size w w' := by
  have HH := Lib.hid hh
  have hW := check_well hc
  have HW := Lib.hid hW
  have h3 := hW.few
  have HMK : ∀ w, (Instr.makeSlice 42 (.int .i64 1009) (.int .i64 1009)).run Tryd.prog w = .ok (.slice (some ⟨w.heap.size, 0, none⟩) 1009 1009) (w.alloc (.cells (madeCells #[.slice none 0 0] 1009) 43)) := make_rows
  obtain ⟨A, c, rfl, hlen, _⟩ := hh
  have HS0 := Lib.hid (RSt.start w words (.slice A hs.length c))
  clear hW hc
  go_enter Tryd.func7, Tryd.ntmps7
  go_wp2_with (first | (go_at_call 16; refine (first_any _).mono ?_; rintro e w1 hcp; obtain ⟨g, c1, rfl, hc46, hn1, hb1⟩ := hcp.form (by simp); rw [← r46_ts0] at hn1; have HR1 := Lib.hid hn1; have HS1 := Lib.hid (HS0.out.on hb1); clear hcp hn1 hb1) | (go_at_call 15; go_loud (refine (addR HW.out HS1.out (by simp) (by simp) (RR.start (wait := false) (hs := hs)) hc46 (HR1.out.keep (fun b hb => HS0.out.new hb.1 hb.2) fun _ _ => rfl)).mono ?_); rintro e w2 ⟨rfl, lv, cs, us, bs, hst, -, -⟩; have HS2 := Lib.hid hst; clear hst))
  rw [show ins1 [] (r46 ts0) = [r46 ts0] from rfl] at HS2
  go_loopw [4] (fun av wr => ∃ (a : Nat) (lv : Value) (cs : Array Value) (us : List Value) (bs : Nat → List Value) (L : List (List Int)), a ≤ L.length ∧ av = .int .i64 a ∧ RSt w wr words (.slice A hs.length c) lv cs us bs L ∧ RKnow false hs L a ∧ ∀ (j : Nat) (s : TS), j < a → L[j]? = some (r46 s) → RR false hs s → NoRace hs s) (fun av _ => 4459118884992 - (intOf av).toNat)
  case atStart => exact ⟨0, lv, cs, us, bs, [r46 ts0], by simp, rfl, HS2.out, RKnow.start _ _, fun j s hj => by omega⟩
  case round =>
    clear HS2 lv cs us bs HS0 HR1 HS1
    obtain ⟨a, lv, cs, us, bs, L, ha, rfl, hst, hkn, hnr⟩ := hrel
    have hfew := hkn.few HW.out
    have HST := Lib.hid hst
    have HKN := Lib.hid hkn
    have HNR := Lib.hid hnr
    have HUL := Lib.hid hst.fat.row.1
    obtain ⟨Al, cl_, rfl, hAl⟩ := own_form hst.fat.own
    have f1 : wr.cell? ⟨w.heap.size + 1 + 1, 1, none⟩ = some (.slice Al us.length cl_) := (hst.fat.fblk.cell 1).trans rfl
    clear hst hkn hnr
    by_cases hlt : a < us.length
    · have haI : (a : Int) < us.length := by omega
      obtain ⟨gl, rfl⟩ := hAl (by omega)
      obtain ⟨u, hu⟩ : ∃ u, us[a]? = some u := ⟨_, List.getElem?_eq_getElem hlt⟩
      obtain ⟨y, hy⟩ : ∃ y, L[a]? = some y := ⟨_, List.getElem?_eq_getElem (by have := HUL.out; omega)⟩
      obtain ⟨s, hs', rfl⟩ := HKN.out.rch y (List.mem_of_getElem? hy)
      have hrl := hs'.len HW.out
      have hnu := HST.out.fat.row.2 a u _ hu hy
      have hcu := HST.out.fat.cap u (List.mem_of_getElem? hu)
      have g3 : wr.cell? ⟨gl, a, none⟩ = some u := own_at HST.out.fat.own hu
      have HNU := Lib.hid hnu
      obtain ⟨Au, cu, rfl, _, hnc⟩ := hnu
      obtain ⟨b, o, rfl, _, _⟩ := hnc (by omega)
      have HRR := Lib.hid (show RRow w wr (.slice (some ⟨gl, 0, none⟩) us.length cl_) cs b o cu s from ⟨by have := hcu _ _ _ rfl; omega, by rw [← hrl]; exact HNU.out⟩)
      have HSR := Lib.hid hs'
      have HRL := Lib.hid hrl
      have HY := Lib.hid hy
      have HQN := Lib.hid hs'.q_nil
      rw [hrl] at g3
      clear hu hy hs' hrl hcu hnc HNU
      go_wp2
      clear f1 g3 haI HUL hlt
      go_loopw [6] (fun hv wr => ∃ (h : Nat) (lv : Value) (cs : Array Value) (us : List Value) (bs : Nat → List Value) (L : List (List Int)), h ≤ hs.length ∧ hv = .int .i64 h ∧ a < L.length ∧ RSt w wr words (.slice A hs.length c) lv cs us bs L ∧ RKnow false hs L a ∧ (∀ (j : Nat) (s : TS), j < a → L[j]? = some (r46 s) → RR false hs s → NoRace hs s) ∧ RRow w wr lv cs b o cu s ∧ L[a]? = some (r46 s) ∧ RDone false hs L s h ∧ ∀ a', a' < h → ∀ b', b' < a' → ¬ RaceAt hs s a' b') (fun hv _ => hs.length - (intOf hv).toNat)
      case atStart => exact ⟨0, _, cs, us, bs, L, by omega, rfl, (List.getElem?_eq_some_iff.1 HY.out).1, HST.out, HKN.out, HNR.out, HRR.out, HY.out, fun p hp => by omega, fun a' ha' => by omega⟩
      case round =>
        clear HST HKN HNR HRR HY hAl
        obtain ⟨h, lv, cs, us, bs, L, hh_, rfl, haL, hst, hkn, hnr, hrr, hy, hrd, hnn⟩ := hrel
        have hfew := hkn.few HW.out
        have HST := Lib.hid hst
        have HKN := Lib.hid hkn
        have HNR := Lib.hid hnr
        have HRR := Lib.hid hrr
        have HY := Lib.hid hy
        have HRD := Lib.hid hrd
        have HNN := Lib.hid hnn
        have c0 := hst.pbk.cell 0
        have c1 := hst.pbk.cell 1
        simp at c0 c1
        clear hst hkn hnr hrr hy hrd hnn
        by_cases hlt : h < hs.length
        · have hhI : (h : Int) < hs.length := by omega
          have hl : hs[h]? = some (hs.getD h []) := by rw [List.getD_eq_getElem?_getD, List.getElem?_eq_getElem hlt]; rfl
          have HNX := Lib.hid (next_any words _ _ hs (r46 s) wr.heap.size h (s.o h).n (hs.getD h []) wr ((HH.out.below HST.out.below (Nat.le_refl _)).more HST.out.below.size) HRR.out.nums hl (r46_n s (by omega)))
          clear hl
          cases hn : rnext hs s h with
          | none =>
            have HN := Lib.hid hn
            rw [rnext_none HW.out hlt hn, show lnV ⟨0, 0, 0, 0⟩ = .agg #[.int .i64 0, .int .i64 0, .int .i64 0, .int .i64 0] from rfl] at HNX
            clear hn
            go_wp2_with (go_at_call 17; refine HNX.out.mono ?_; rintro e w3 ⟨rfl, hb3⟩; have hb4 := hb3.alloc hb3.size (.cells #[.int .i64 0, .int .i64 0, .int .i64 0, .int .i64 0] 40); have HB3 := Lib.hid hb3; have HB4 := Lib.hid hb4; have HRR4 := Lib.hid (HRR.out.on hb4); have HST4 := Lib.hid (HST.out.on hb4); clear hb3 hb4)
            go_roundw
            case rel =>
              refine ⟨h + 1, lv, cs, us, bs, L, by omega, by go_num, haL, HST4.out, HKN.out, HNR.out, HRR4.out, HY.out, fun p hp => ?_, fun a' ha' b' hb' => ?_⟩
              · rcases Nat.lt_or_ge p h with h1 | h1
                · exact HRD.out p h1
                · obtain rfl : p = h := by omega
                  exact ⟨fun l hl => (by rw [HN.out] at hl; cases hl), fun hq => absurd (HQN.out p) hq⟩
              · rcases Nat.lt_or_ge a' h with h1 | h1
                · exact HNN.out a' h1 b' hb'
                · obtain rfl : a' = h := by omega
                  rintro ⟨x, y, hx, _⟩
                  rw [HN.out] at hx; cases hx
            case measure => simp [intOf]; omega
          | some l =>
            have HN := Lib.hid hn
            have HT := Lib.hid (RR.step HSR.out hlt hn rfl)
            have HOK := Lib.hid (well_line HW.out hn).2.2
            have HE := Lib.hid (show refDone (r46 s) h l = r46 (rstp false s h l) by rw [refDone_r46 (by omega) HW.out.hi HOK.out, rstp_rdo (HQN.out h)])
            have HSTP := Lib.hid (fun (W : World) (hs' : RRow w W lv cs b o cu s) => (by have := refdone_any (r46 s) _ W.heap.size h (s.o h).n words l W hs'.nums (Nat.le_refl _) HRL.out (by omega) (r46_n s (by omega)) (by have := HSR.out.n10 HW.out h; omega) HW.out.hi HOK.out; rw [HE.out] at this; exact this : Calls Tryd.prog 22 #[.slice (some ⟨b, o, none⟩) 46 cu, .int .i64 h, lnV l] W (DonePost W (r46 (rstp false s h l)))))
            rw [rnext_some HW.out hn] at HNX
            obtain ⟨y2, hy2⟩ : ∃ y2, y2 = rstp false s h l := ⟨_, rfl⟩
            rw [← hy2] at HT HSTP
            have HY2 := Lib.hid hy2
            obtain ⟨k, r, d, v⟩ := l
            rw [show lnV ⟨k, r, d, v⟩ = .agg #[.int .i64 k, .int .i64 r, .int .i64 d, .int .i64 v] from rfl] at HNX HSTP
            clear hn HE HOK hy2
            go_wp2_with (first | (go_at_call 17; refine HNX.out.mono ?_; rintro e w3 ⟨rfl, hb3⟩; have hb4 := hb3.alloc hb3.size (.cells #[.int .i64 k, .int .i64 r, .int .i64 d, .int .i64 v] 40); have HB3 := Lib.hid hb3; have HB4 := Lib.hid hb4; have HRR4 := Lib.hid (HRR.out.on hb4); have HST4 := Lib.hid (HST.out.on hb4); clear hb3 hb4) | (go_at_call 22; refine (HSTP.out _ HRR4.out).mono ?_; rintro e w5 hdp; obtain ⟨g2, c2, rfl, hc2, hn2, hb5⟩ := hdp.form (HT.out.len HW.out); have HN2 := Lib.hid (hn2.keep (fun b hb => HST4.out.new hb.1 hb.2) fun _ _ => rfl); have HST5 := Lib.hid (HST4.out.on hb5); have HRR5 := Lib.hid (HRR4.out.on hb5); have HXB5 := Lib.hid (Block.below (Block.made w3 40 #[.int .i64 k, .int .i64 r, .int .i64 d, .int .i64 v]) hb5 (by simp)); clear hdp hn2 hb5) | (go_at_call 15; refine (addR HW.out HST5.out (RSt.rows46 HW.out HKN.out) hfew HT.out hc2 HN2.out).mono ?_; rintro e w6 ⟨rfl, lv', cs', us', bs', hst6, ht6, hm6⟩; have HST6 := Lib.hid hst6; have HRR6 := Lib.hid (HRR5.out.turn ht6 hm6); have HXB6 := Lib.hid (HXB5.out.touch ht6 (fun hm => by have := HST.out.fat.mine_lt hm; have := HB3.out.size; omega)); clear hst6 ht6 hm6))
            obtain ⟨xb, hxb⟩ : ∃ xb, xb = w3.heap.size := ⟨_, rfl⟩
            rw [← hxb] at HXB6
            rw [← hxb]
            have HQ := Lib.hid (show ∀ b', b' < h → RaceAt hs s h b' → scRace hs = true from fun b' h1 h2 => race_yes HW.out HSR.out hlt h1 h2)
            have HHN := Lib.hid hhI
            clear hxb HXB5 HRR5 HST5 HN2 HRR4 HST4 HB4 HB3 HST HRR HNX HSTP c0 c1 hhI
            go_loopw [9] (fun bv wr => ∃ bb : Nat, bb ≤ h ∧ bv = .int .i64 bb ∧ Below w6.heap.size w6 wr ∧ ∀ b', b' < bb → ¬ RaceAt hs s h b') (fun bv _ => h - (intOf bv).toNat)
            case atStart => exact ⟨0, by omega, rfl, Below.refl _ _, fun b' hb' => by omega⟩
            case round =>
              obtain ⟨bb, hbb, rfl, hbel, hnb⟩ := hrel
              have HST := Lib.hid (HST6.out.on hbel)
              have HRR := Lib.hid (HRR6.out.on hbel)
              have HXB := Lib.hid (HXB6.out.below hbel HXB6.out.lt)
              have HBEL := Lib.hid hbel
              have HNB := Lib.hid hnb
              have c0 := HST.out.pbk.cell 0
              have c1 := HST.out.pbk.cell 1
              simp at c0 c1
              clear hbel hnb
              by_cases hlb : bb < h
              · have hbI : (bb : Int) < h := by omega
                have hbl : bb < hs.length := by omega
                have hl : hs[bb]? = some (hs.getD bb []) := by rw [List.getD_eq_getElem?_getD, List.getElem?_eq_getElem hbl]; rfl
                have HNX := Lib.hid (next_any words _ _ hs (r46 s) wr.heap.size bb (s.o bb).n (hs.getD bb []) wr ((HH.out.below HST.out.below (Nat.le_refl _)).more HST.out.below.size) HRR.out.nums hl (r46_n s (by omega)))
                clear hl
                cases hn : rnext hs s bb with
                | none =>
                  have HNBB := Lib.hid hn
                  rw [rnext_none HW.out hbl hn, show lnV ⟨0, 0, 0, 0⟩ = .agg #[.int .i64 0, .int .i64 0, .int .i64 0, .int .i64 0] from rfl] at HNX
                  clear hn
                  go_wp2_with (go_at_call 17; refine HNX.out.mono ?_; rintro e w7 ⟨rfl, hb7⟩; have HB8 := Lib.hid ((HBEL.out.trans (hb7.mono HBEL.out.size)).alloc (by have := HBEL.out.size; have := hb7.size; omega) (.cells #[.int .i64 0, .int .i64 0, .int .i64 0, .int .i64 0] 40)); clear hb7)
                  go_roundw
                  case rel =>
                    refine ⟨bb + 1, by omega, by go_num, HB8.out, fun b' hb' => ?_⟩
                    rcases Nat.lt_or_ge b' bb with h1 | h1
                    · exact HNB.out b' h1
                    · obtain rfl : b' = bb := by omega
                      rintro ⟨x, y, _, hy, _⟩
                      rw [HNBB.out] at hy; cases hy
                  case measure => simp [intOf]; omega
                | some l2 =>
                  have HN2 := Lib.hid hn
                  rw [rnext_some HW.out hn] at HNX
                  obtain ⟨k2, r2, d2, v2⟩ := l2
                  rw [show lnV ⟨k2, r2, d2, v2⟩ = .agg #[.int .i64 k2, .int .i64 r2, .int .i64 d2, .int .i64 v2] from rfl] at HNX
                  clear hn
                  by_cases t1 : inR k 1 3 = true
                  · by_cases t2 : inR k2 1 3 = true
                    · have t1' := inR_true.1 t1
                      have t2' := inR_true.1 t2
                      clear t1 t2
                      obtain rfl | rfl | rfl : k = 1 ∨ k = 2 ∨ k = 3 := by omega
                      · obtain rfl | rfl | rfl : k2 = 1 ∨ k2 = 2 ∨ k2 = 3 := by omega
                        · clear t1' t2'
                          by_cases hd : d = d2
                          · subst hd
                            go_wp2_with (first | (go_at_call 17; refine HNX.out.mono ?_; rintro e w7 ⟨rfl, hb7⟩; have hx7 := HXB.out.below hb7 HXB.out.lt; have hb8 := (HBEL.out.trans (hb7.mono HBEL.out.size)).alloc (by have := HBEL.out.size; have := hb7.size; omega) (.cells #[.int .i64 1, .int .i64 r2, .int .i64 d, .int .i64 v2] 40); have HB8 := Lib.hid hb8; have HB9 := Lib.hid (hb8.alloc hb8.size (.cells #[.int .i64 1, .int .i64 r, .int .i64 d, .int .i64 v] 40)); have HB10 := Lib.hid (HB9.out.alloc HB9.out.size (.cells #[.int .i64 1, .int .i64 r2, .int .i64 d, .int .i64 v2] 40)); have HX8 := Lib.hid (hx7.alloc (.cells #[.int .i64 1, .int .i64 r2, .int .i64 d, .int .i64 v2] 40)); have HY8 := Lib.hid (Block.made w7 40 #[.int .i64 1, .int .i64 r2, .int .i64 d, .int .i64 v2]); have HX9 := Lib.hid (HX8.out.alloc (.cells #[.int .i64 1, .int .i64 r, .int .i64 d, .int .i64 v] 40)); have HY9 := Lib.hid (HY8.out.alloc (.cells #[.int .i64 1, .int .i64 r, .int .i64 d, .int .i64 v] 40)); have HX10 := Lib.hid (HX9.out.alloc (.cells #[.int .i64 1, .int .i64 r2, .int .i64 d, .int .i64 v2] 40)); have HY10 := Lib.hid (HY9.out.alloc (.cells #[.int .i64 1, .int .i64 r2, .int .i64 d, .int .i64 v2] 40)); have x0 := (HX8.out.cell 0).trans rfl; have x1 := (HX8.out.cell 1).trans rfl; have x2 := (HX8.out.cell 2).trans rfl; have x3 := (HX8.out.cell 3).trans rfl; have x0p := (HX9.out.cell 0).trans rfl; have x1p := (HX9.out.cell 1).trans rfl; have x2p := (HX9.out.cell 2).trans rfl; have x3p := (HX9.out.cell 3).trans rfl; have x0q := (HX10.out.cell 0).trans rfl; have x1q := (HX10.out.cell 1).trans rfl; have x2q := (HX10.out.cell 2).trans rfl; have x3q := (HX10.out.cell 3).trans rfl; have y0 := (HY8.out.cell 0).trans rfl; have y1 := (HY8.out.cell 1).trans rfl; have y2 := (HY8.out.cell 2).trans rfl; have y3 := (HY8.out.cell 3).trans rfl; have y0p := (HY9.out.cell 0).trans rfl; have y1p := (HY9.out.cell 1).trans rfl; have y2p := (HY9.out.cell 2).trans rfl; have y3p := (HY9.out.cell 3).trans rfl; have y0q := (HY10.out.cell 0).trans rfl; have y1q := (HY10.out.cell 1).trans rfl; have y2q := (HY10.out.cell 2).trans rfl; have y3q := (HY10.out.cell 3).trans rfl; clear hb7 hx7 hb8) | (go_at_call 14; refine (reftouches_any ⟨1, r, d, v⟩ _).mono ?_; rw [show inR 1 1 3 = true from rfl]; rintro e w' ⟨rfl, rfl⟩) | (go_at_call 14; refine (reftouches_any ⟨1, r2, d, v2⟩ _).mono ?_; rw [show inR 1 1 3 = true from rfl]; rintro e w' ⟨rfl, rfl⟩))
                            go_roundw
                            case rel =>
                              refine ⟨bb + 1, by omega, by go_num, HB10.out, fun b' hb' => ?_⟩
                              rcases Nat.lt_or_ge b' bb with h1 | h1
                              · exact HNB.out b' h1
                              · obtain rfl : b' = bb := by omega
                                rintro ⟨x, y, hx, hy, hxy⟩
                                rw [HN.out] at hx
                                rw [HN2.out] at hy
                                obtain rfl := Option.some.inj hx
                                obtain rfl := Option.some.inj hy
                                rw [show clashB ⟨1, r, d, v⟩ ⟨1, r2, d, v2⟩ = false by simp [clashB, touchB]] at hxy
                                cases hxy
                            case measure => simp [intOf]; omega
                          · have ed : (d == d2) = false := beq_eq_false_iff_ne.2 hd
                            go_wp2_with (first | (go_at_call 17; refine HNX.out.mono ?_; rintro e w7 ⟨rfl, hb7⟩; have hx7 := HXB.out.below hb7 HXB.out.lt; have hb8 := (HBEL.out.trans (hb7.mono HBEL.out.size)).alloc (by have := HBEL.out.size; have := hb7.size; omega) (.cells #[.int .i64 1, .int .i64 r2, .int .i64 d2, .int .i64 v2] 40); have HB8 := Lib.hid hb8; have HB9 := Lib.hid (hb8.alloc hb8.size (.cells #[.int .i64 1, .int .i64 r, .int .i64 d, .int .i64 v] 40)); have HB10 := Lib.hid (HB9.out.alloc HB9.out.size (.cells #[.int .i64 1, .int .i64 r2, .int .i64 d2, .int .i64 v2] 40)); have HX8 := Lib.hid (hx7.alloc (.cells #[.int .i64 1, .int .i64 r2, .int .i64 d2, .int .i64 v2] 40)); have HY8 := Lib.hid (Block.made w7 40 #[.int .i64 1, .int .i64 r2, .int .i64 d2, .int .i64 v2]); have HX9 := Lib.hid (HX8.out.alloc (.cells #[.int .i64 1, .int .i64 r, .int .i64 d, .int .i64 v] 40)); have HY9 := Lib.hid (HY8.out.alloc (.cells #[.int .i64 1, .int .i64 r, .int .i64 d, .int .i64 v] 40)); have HX10 := Lib.hid (HX9.out.alloc (.cells #[.int .i64 1, .int .i64 r2, .int .i64 d2, .int .i64 v2] 40)); have HY10 := Lib.hid (HY9.out.alloc (.cells #[.int .i64 1, .int .i64 r2, .int .i64 d2, .int .i64 v2] 40)); have x0 := (HX8.out.cell 0).trans rfl; have x1 := (HX8.out.cell 1).trans rfl; have x2 := (HX8.out.cell 2).trans rfl; have x3 := (HX8.out.cell 3).trans rfl; have x0p := (HX9.out.cell 0).trans rfl; have x1p := (HX9.out.cell 1).trans rfl; have x2p := (HX9.out.cell 2).trans rfl; have x3p := (HX9.out.cell 3).trans rfl; have x0q := (HX10.out.cell 0).trans rfl; have x1q := (HX10.out.cell 1).trans rfl; have x2q := (HX10.out.cell 2).trans rfl; have x3q := (HX10.out.cell 3).trans rfl; have y0 := (HY8.out.cell 0).trans rfl; have y1 := (HY8.out.cell 1).trans rfl; have y2 := (HY8.out.cell 2).trans rfl; have y3 := (HY8.out.cell 3).trans rfl; have y0p := (HY9.out.cell 0).trans rfl; have y1p := (HY9.out.cell 1).trans rfl; have y2p := (HY9.out.cell 2).trans rfl; have y3p := (HY9.out.cell 3).trans rfl; have y0q := (HY10.out.cell 0).trans rfl; have y1q := (HY10.out.cell 1).trans rfl; have y2q := (HY10.out.cell 2).trans rfl; have y3q := (HY10.out.cell 3).trans rfl; clear hb7 hx7 hb8) | (go_at_call 14; refine (reftouches_any ⟨1, r, d, v⟩ _).mono ?_; rw [show inR 1 1 3 = true from rfl]; rintro e w' ⟨rfl, rfl⟩) | (go_at_call 14; refine (reftouches_any ⟨1, r2, d2, v2⟩ _).mono ?_; rw [show inR 1 1 3 = true from rfl]; rintro e w' ⟨rfl, rfl⟩))
                            go_roundw
                            case rel =>
                              refine ⟨bb + 1, by omega, by go_num, HB10.out, fun b' hb' => ?_⟩
                              rcases Nat.lt_or_ge b' bb with h1 | h1
                              · exact HNB.out b' h1
                              · obtain rfl : b' = bb := by omega
                                rintro ⟨x, y, hx, hy, hxy⟩
                                rw [HN.out] at hx
                                rw [HN2.out] at hy
                                obtain rfl := Option.some.inj hx
                                obtain rfl := Option.some.inj hy
                                rw [show clashB ⟨1, r, d, v⟩ ⟨1, r2, d2, v2⟩ = false by simp [clashB, touchB, hd]] at hxy
                                cases hxy
                            case measure => simp [intOf]; omega
                        · clear t1' t2'
                          by_cases hd : d = d2
                          · subst hd
                            go_wp2_with (first | (go_at_call 17; refine HNX.out.mono ?_; rintro e w7 ⟨rfl, hb7⟩; have hx7 := HXB.out.below hb7 HXB.out.lt; have hb8 := (HBEL.out.trans (hb7.mono HBEL.out.size)).alloc (by have := HBEL.out.size; have := hb7.size; omega) (.cells #[.int .i64 2, .int .i64 r2, .int .i64 d, .int .i64 v2] 40); have HB8 := Lib.hid hb8; have HB9 := Lib.hid (hb8.alloc hb8.size (.cells #[.int .i64 1, .int .i64 r, .int .i64 d, .int .i64 v] 40)); have HB10 := Lib.hid (HB9.out.alloc HB9.out.size (.cells #[.int .i64 2, .int .i64 r2, .int .i64 d, .int .i64 v2] 40)); have HX8 := Lib.hid (hx7.alloc (.cells #[.int .i64 2, .int .i64 r2, .int .i64 d, .int .i64 v2] 40)); have HY8 := Lib.hid (Block.made w7 40 #[.int .i64 2, .int .i64 r2, .int .i64 d, .int .i64 v2]); have HX9 := Lib.hid (HX8.out.alloc (.cells #[.int .i64 1, .int .i64 r, .int .i64 d, .int .i64 v] 40)); have HY9 := Lib.hid (HY8.out.alloc (.cells #[.int .i64 1, .int .i64 r, .int .i64 d, .int .i64 v] 40)); have HX10 := Lib.hid (HX9.out.alloc (.cells #[.int .i64 2, .int .i64 r2, .int .i64 d, .int .i64 v2] 40)); have HY10 := Lib.hid (HY9.out.alloc (.cells #[.int .i64 2, .int .i64 r2, .int .i64 d, .int .i64 v2] 40)); have x0 := (HX8.out.cell 0).trans rfl; have x1 := (HX8.out.cell 1).trans rfl; have x2 := (HX8.out.cell 2).trans rfl; have x3 := (HX8.out.cell 3).trans rfl; have x0p := (HX9.out.cell 0).trans rfl; have x1p := (HX9.out.cell 1).trans rfl; have x2p := (HX9.out.cell 2).trans rfl; have x3p := (HX9.out.cell 3).trans rfl; have x0q := (HX10.out.cell 0).trans rfl; have x1q := (HX10.out.cell 1).trans rfl; have x2q := (HX10.out.cell 2).trans rfl; have x3q := (HX10.out.cell 3).trans rfl; have y0 := (HY8.out.cell 0).trans rfl; have y1 := (HY8.out.cell 1).trans rfl; have y2 := (HY8.out.cell 2).trans rfl; have y3 := (HY8.out.cell 3).trans rfl; have y0p := (HY9.out.cell 0).trans rfl; have y1p := (HY9.out.cell 1).trans rfl; have y2p := (HY9.out.cell 2).trans rfl; have y3p := (HY9.out.cell 3).trans rfl; have y0q := (HY10.out.cell 0).trans rfl; have y1q := (HY10.out.cell 1).trans rfl; have y2q := (HY10.out.cell 2).trans rfl; have y3q := (HY10.out.cell 3).trans rfl; clear hb7 hx7 hb8) | (go_at_call 14; refine (reftouches_any ⟨1, r, d, v⟩ _).mono ?_; rw [show inR 1 1 3 = true from rfl]; rintro e w' ⟨rfl, rfl⟩) | (go_at_call 14; refine (reftouches_any ⟨2, r2, d, v2⟩ _).mono ?_; rw [show inR 2 1 3 = true from rfl]; rintro e w' ⟨rfl, rfl⟩))
                            go_ret
                            exact ⟨by rw [HQ.out _ hlb ⟨_, _, HN.out, HN2.out, by simp [clashB, touchB]⟩]; rfl, HST6.out.below.trans (HB10.out.mono HST6.out.below.size)⟩
                          · have ed : (d == d2) = false := beq_eq_false_iff_ne.2 hd
                            go_wp2_with (first | (go_at_call 17; refine HNX.out.mono ?_; rintro e w7 ⟨rfl, hb7⟩; have hx7 := HXB.out.below hb7 HXB.out.lt; have hb8 := (HBEL.out.trans (hb7.mono HBEL.out.size)).alloc (by have := HBEL.out.size; have := hb7.size; omega) (.cells #[.int .i64 2, .int .i64 r2, .int .i64 d2, .int .i64 v2] 40); have HB8 := Lib.hid hb8; have HB9 := Lib.hid (hb8.alloc hb8.size (.cells #[.int .i64 1, .int .i64 r, .int .i64 d, .int .i64 v] 40)); have HB10 := Lib.hid (HB9.out.alloc HB9.out.size (.cells #[.int .i64 2, .int .i64 r2, .int .i64 d2, .int .i64 v2] 40)); have HX8 := Lib.hid (hx7.alloc (.cells #[.int .i64 2, .int .i64 r2, .int .i64 d2, .int .i64 v2] 40)); have HY8 := Lib.hid (Block.made w7 40 #[.int .i64 2, .int .i64 r2, .int .i64 d2, .int .i64 v2]); have HX9 := Lib.hid (HX8.out.alloc (.cells #[.int .i64 1, .int .i64 r, .int .i64 d, .int .i64 v] 40)); have HY9 := Lib.hid (HY8.out.alloc (.cells #[.int .i64 1, .int .i64 r, .int .i64 d, .int .i64 v] 40)); have HX10 := Lib.hid (HX9.out.alloc (.cells #[.int .i64 2, .int .i64 r2, .int .i64 d2, .int .i64 v2] 40)); have HY10 := Lib.hid (HY9.out.alloc (.cells #[.int .i64 2, .int .i64 r2, .int .i64 d2, .int .i64 v2] 40)); have x0 := (HX8.out.cell 0).trans rfl; have x1 := (HX8.out.cell 1).trans rfl; have x2 := (HX8.out.cell 2).trans rfl; have x3 := (HX8.out.cell 3).trans rfl; have x0p := (HX9.out.cell 0).trans rfl; have x1p := (HX9.out.cell 1).trans rfl; have x2p := (HX9.out.cell 2).trans rfl; have x3p := (HX9.out.cell 3).trans rfl; have x0q := (HX10.out.cell 0).trans rfl; have x1q := (HX10.out.cell 1).trans rfl; have x2q := (HX10.out.cell 2).trans rfl; have x3q := (HX10.out.cell 3).trans rfl; have y0 := (HY8.out.cell 0).trans rfl; have y1 := (HY8.out.cell 1).trans rfl; have y2 := (HY8.out.cell 2).trans rfl; have y3 := (HY8.out.cell 3).trans rfl; have y0p := (HY9.out.cell 0).trans rfl; have y1p := (HY9.out.cell 1).trans rfl; have y2p := (HY9.out.cell 2).trans rfl; have y3p := (HY9.out.cell 3).trans rfl; have y0q := (HY10.out.cell 0).trans rfl; have y1q := (HY10.out.cell 1).trans rfl; have y2q := (HY10.out.cell 2).trans rfl; have y3q := (HY10.out.cell 3).trans rfl; clear hb7 hx7 hb8) | (go_at_call 14; refine (reftouches_any ⟨1, r, d, v⟩ _).mono ?_; rw [show inR 1 1 3 = true from rfl]; rintro e w' ⟨rfl, rfl⟩) | (go_at_call 14; refine (reftouches_any ⟨2, r2, d2, v2⟩ _).mono ?_; rw [show inR 2 1 3 = true from rfl]; rintro e w' ⟨rfl, rfl⟩))
                            go_roundw
                            case rel =>
                              refine ⟨bb + 1, by omega, by go_num, HB10.out, fun b' hb' => ?_⟩
                              rcases Nat.lt_or_ge b' bb with h1 | h1
                              · exact HNB.out b' h1
                              · obtain rfl : b' = bb := by omega
                                rintro ⟨x, y, hx, hy, hxy⟩
                                rw [HN.out] at hx
                                rw [HN2.out] at hy
                                obtain rfl := Option.some.inj hx
                                obtain rfl := Option.some.inj hy
                                rw [show clashB ⟨1, r, d, v⟩ ⟨2, r2, d2, v2⟩ = false by simp [clashB, touchB, hd]] at hxy
                                cases hxy
                            case measure => simp [intOf]; omega
                        · clear t1' t2'
                          by_cases hd : d = d2
                          · subst hd
                            go_wp2_with (first | (go_at_call 17; refine HNX.out.mono ?_; rintro e w7 ⟨rfl, hb7⟩; have hx7 := HXB.out.below hb7 HXB.out.lt; have hb8 := (HBEL.out.trans (hb7.mono HBEL.out.size)).alloc (by have := HBEL.out.size; have := hb7.size; omega) (.cells #[.int .i64 3, .int .i64 r2, .int .i64 d, .int .i64 v2] 40); have HB8 := Lib.hid hb8; have HB9 := Lib.hid (hb8.alloc hb8.size (.cells #[.int .i64 1, .int .i64 r, .int .i64 d, .int .i64 v] 40)); have HB10 := Lib.hid (HB9.out.alloc HB9.out.size (.cells #[.int .i64 3, .int .i64 r2, .int .i64 d, .int .i64 v2] 40)); have HX8 := Lib.hid (hx7.alloc (.cells #[.int .i64 3, .int .i64 r2, .int .i64 d, .int .i64 v2] 40)); have HY8 := Lib.hid (Block.made w7 40 #[.int .i64 3, .int .i64 r2, .int .i64 d, .int .i64 v2]); have HX9 := Lib.hid (HX8.out.alloc (.cells #[.int .i64 1, .int .i64 r, .int .i64 d, .int .i64 v] 40)); have HY9 := Lib.hid (HY8.out.alloc (.cells #[.int .i64 1, .int .i64 r, .int .i64 d, .int .i64 v] 40)); have HX10 := Lib.hid (HX9.out.alloc (.cells #[.int .i64 3, .int .i64 r2, .int .i64 d, .int .i64 v2] 40)); have HY10 := Lib.hid (HY9.out.alloc (.cells #[.int .i64 3, .int .i64 r2, .int .i64 d, .int .i64 v2] 40)); have x0 := (HX8.out.cell 0).trans rfl; have x1 := (HX8.out.cell 1).trans rfl; have x2 := (HX8.out.cell 2).trans rfl; have x3 := (HX8.out.cell 3).trans rfl; have x0p := (HX9.out.cell 0).trans rfl; have x1p := (HX9.out.cell 1).trans rfl; have x2p := (HX9.out.cell 2).trans rfl; have x3p := (HX9.out.cell 3).trans rfl; have x0q := (HX10.out.cell 0).trans rfl; have x1q := (HX10.out.cell 1).trans rfl; have x2q := (HX10.out.cell 2).trans rfl; have x3q := (HX10.out.cell 3).trans rfl; have y0 := (HY8.out.cell 0).trans rfl; have y1 := (HY8.out.cell 1).trans rfl; have y2 := (HY8.out.cell 2).trans rfl; have y3 := (HY8.out.cell 3).trans rfl; have y0p := (HY9.out.cell 0).trans rfl; have y1p := (HY9.out.cell 1).trans rfl; have y2p := (HY9.out.cell 2).trans rfl; have y3p := (HY9.out.cell 3).trans rfl; have y0q := (HY10.out.cell 0).trans rfl; have y1q := (HY10.out.cell 1).trans rfl; have y2q := (HY10.out.cell 2).trans rfl; have y3q := (HY10.out.cell 3).trans rfl; clear hb7 hx7 hb8) | (go_at_call 14; refine (reftouches_any ⟨1, r, d, v⟩ _).mono ?_; rw [show inR 1 1 3 = true from rfl]; rintro e w' ⟨rfl, rfl⟩) | (go_at_call 14; refine (reftouches_any ⟨3, r2, d, v2⟩ _).mono ?_; rw [show inR 3 1 3 = true from rfl]; rintro e w' ⟨rfl, rfl⟩))
                            go_ret
                            exact ⟨by rw [HQ.out _ hlb ⟨_, _, HN.out, HN2.out, by simp [clashB, touchB]⟩]; rfl, HST6.out.below.trans (HB10.out.mono HST6.out.below.size)⟩
                          · have ed : (d == d2) = false := beq_eq_false_iff_ne.2 hd
                            go_wp2_with (first | (go_at_call 17; refine HNX.out.mono ?_; rintro e w7 ⟨rfl, hb7⟩; have hx7 := HXB.out.below hb7 HXB.out.lt; have hb8 := (HBEL.out.trans (hb7.mono HBEL.out.size)).alloc (by have := HBEL.out.size; have := hb7.size; omega) (.cells #[.int .i64 3, .int .i64 r2, .int .i64 d2, .int .i64 v2] 40); have HB8 := Lib.hid hb8; have HB9 := Lib.hid (hb8.alloc hb8.size (.cells #[.int .i64 1, .int .i64 r, .int .i64 d, .int .i64 v] 40)); have HB10 := Lib.hid (HB9.out.alloc HB9.out.size (.cells #[.int .i64 3, .int .i64 r2, .int .i64 d2, .int .i64 v2] 40)); have HX8 := Lib.hid (hx7.alloc (.cells #[.int .i64 3, .int .i64 r2, .int .i64 d2, .int .i64 v2] 40)); have HY8 := Lib.hid (Block.made w7 40 #[.int .i64 3, .int .i64 r2, .int .i64 d2, .int .i64 v2]); have HX9 := Lib.hid (HX8.out.alloc (.cells #[.int .i64 1, .int .i64 r, .int .i64 d, .int .i64 v] 40)); have HY9 := Lib.hid (HY8.out.alloc (.cells #[.int .i64 1, .int .i64 r, .int .i64 d, .int .i64 v] 40)); have HX10 := Lib.hid (HX9.out.alloc (.cells #[.int .i64 3, .int .i64 r2, .int .i64 d2, .int .i64 v2] 40)); have HY10 := Lib.hid (HY9.out.alloc (.cells #[.int .i64 3, .int .i64 r2, .int .i64 d2, .int .i64 v2] 40)); have x0 := (HX8.out.cell 0).trans rfl; have x1 := (HX8.out.cell 1).trans rfl; have x2 := (HX8.out.cell 2).trans rfl; have x3 := (HX8.out.cell 3).trans rfl; have x0p := (HX9.out.cell 0).trans rfl; have x1p := (HX9.out.cell 1).trans rfl; have x2p := (HX9.out.cell 2).trans rfl; have x3p := (HX9.out.cell 3).trans rfl; have x0q := (HX10.out.cell 0).trans rfl; have x1q := (HX10.out.cell 1).trans rfl; have x2q := (HX10.out.cell 2).trans rfl; have x3q := (HX10.out.cell 3).trans rfl; have y0 := (HY8.out.cell 0).trans rfl; have y1 := (HY8.out.cell 1).trans rfl; have y2 := (HY8.out.cell 2).trans rfl; have y3 := (HY8.out.cell 3).trans rfl; have y0p := (HY9.out.cell 0).trans rfl; have y1p := (HY9.out.cell 1).trans rfl; have y2p := (HY9.out.cell 2).trans rfl; have y3p := (HY9.out.cell 3).trans rfl; have y0q := (HY10.out.cell 0).trans rfl; have y1q := (HY10.out.cell 1).trans rfl; have y2q := (HY10.out.cell 2).trans rfl; have y3q := (HY10.out.cell 3).trans rfl; clear hb7 hx7 hb8) | (go_at_call 14; refine (reftouches_any ⟨1, r, d, v⟩ _).mono ?_; rw [show inR 1 1 3 = true from rfl]; rintro e w' ⟨rfl, rfl⟩) | (go_at_call 14; refine (reftouches_any ⟨3, r2, d2, v2⟩ _).mono ?_; rw [show inR 3 1 3 = true from rfl]; rintro e w' ⟨rfl, rfl⟩))
                            go_roundw
                            case rel =>
                              refine ⟨bb + 1, by omega, by go_num, HB10.out, fun b' hb' => ?_⟩
                              rcases Nat.lt_or_ge b' bb with h1 | h1
                              · exact HNB.out b' h1
                              · obtain rfl : b' = bb := by omega
                                rintro ⟨x, y, hx, hy, hxy⟩
                                rw [HN.out] at hx
                                rw [HN2.out] at hy
                                obtain rfl := Option.some.inj hx
                                obtain rfl := Option.some.inj hy
                                rw [show clashB ⟨1, r, d, v⟩ ⟨3, r2, d2, v2⟩ = false by simp [clashB, touchB, hd]] at hxy
                                cases hxy
                            case measure => simp [intOf]; omega
                      · obtain rfl | rfl | rfl : k2 = 1 ∨ k2 = 2 ∨ k2 = 3 := by omega
                        · clear t1' t2'
                          by_cases hd : d = d2
                          · subst hd
                            go_wp2_with (first | (go_at_call 17; refine HNX.out.mono ?_; rintro e w7 ⟨rfl, hb7⟩; have hx7 := HXB.out.below hb7 HXB.out.lt; have hb8 := (HBEL.out.trans (hb7.mono HBEL.out.size)).alloc (by have := HBEL.out.size; have := hb7.size; omega) (.cells #[.int .i64 1, .int .i64 r2, .int .i64 d, .int .i64 v2] 40); have HB8 := Lib.hid hb8; have HB9 := Lib.hid (hb8.alloc hb8.size (.cells #[.int .i64 2, .int .i64 r, .int .i64 d, .int .i64 v] 40)); have HB10 := Lib.hid (HB9.out.alloc HB9.out.size (.cells #[.int .i64 1, .int .i64 r2, .int .i64 d, .int .i64 v2] 40)); have HX8 := Lib.hid (hx7.alloc (.cells #[.int .i64 1, .int .i64 r2, .int .i64 d, .int .i64 v2] 40)); have HY8 := Lib.hid (Block.made w7 40 #[.int .i64 1, .int .i64 r2, .int .i64 d, .int .i64 v2]); have HX9 := Lib.hid (HX8.out.alloc (.cells #[.int .i64 2, .int .i64 r, .int .i64 d, .int .i64 v] 40)); have HY9 := Lib.hid (HY8.out.alloc (.cells #[.int .i64 2, .int .i64 r, .int .i64 d, .int .i64 v] 40)); have HX10 := Lib.hid (HX9.out.alloc (.cells #[.int .i64 1, .int .i64 r2, .int .i64 d, .int .i64 v2] 40)); have HY10 := Lib.hid (HY9.out.alloc (.cells #[.int .i64 1, .int .i64 r2, .int .i64 d, .int .i64 v2] 40)); have x0 := (HX8.out.cell 0).trans rfl; have x1 := (HX8.out.cell 1).trans rfl; have x2 := (HX8.out.cell 2).trans rfl; have x3 := (HX8.out.cell 3).trans rfl; have x0p := (HX9.out.cell 0).trans rfl; have x1p := (HX9.out.cell 1).trans rfl; have x2p := (HX9.out.cell 2).trans rfl; have x3p := (HX9.out.cell 3).trans rfl; have x0q := (HX10.out.cell 0).trans rfl; have x1q := (HX10.out.cell 1).trans rfl; have x2q := (HX10.out.cell 2).trans rfl; have x3q := (HX10.out.cell 3).trans rfl; have y0 := (HY8.out.cell 0).trans rfl; have y1 := (HY8.out.cell 1).trans rfl; have y2 := (HY8.out.cell 2).trans rfl; have y3 := (HY8.out.cell 3).trans rfl; have y0p := (HY9.out.cell 0).trans rfl; have y1p := (HY9.out.cell 1).trans rfl; have y2p := (HY9.out.cell 2).trans rfl; have y3p := (HY9.out.cell 3).trans rfl; have y0q := (HY10.out.cell 0).trans rfl; have y1q := (HY10.out.cell 1).trans rfl; have y2q := (HY10.out.cell 2).trans rfl; have y3q := (HY10.out.cell 3).trans rfl; clear hb7 hx7 hb8) | (go_at_call 14; refine (reftouches_any ⟨2, r, d, v⟩ _).mono ?_; rw [show inR 2 1 3 = true from rfl]; rintro e w' ⟨rfl, rfl⟩) | (go_at_call 14; refine (reftouches_any ⟨1, r2, d, v2⟩ _).mono ?_; rw [show inR 1 1 3 = true from rfl]; rintro e w' ⟨rfl, rfl⟩))
                            go_ret
                            exact ⟨by rw [HQ.out _ hlb ⟨_, _, HN.out, HN2.out, by simp [clashB, touchB]⟩]; rfl, HST6.out.below.trans (HB10.out.mono HST6.out.below.size)⟩
                          · have ed : (d == d2) = false := beq_eq_false_iff_ne.2 hd
                            go_wp2_with (first | (go_at_call 17; refine HNX.out.mono ?_; rintro e w7 ⟨rfl, hb7⟩; have hx7 := HXB.out.below hb7 HXB.out.lt; have hb8 := (HBEL.out.trans (hb7.mono HBEL.out.size)).alloc (by have := HBEL.out.size; have := hb7.size; omega) (.cells #[.int .i64 1, .int .i64 r2, .int .i64 d2, .int .i64 v2] 40); have HB8 := Lib.hid hb8; have HB9 := Lib.hid (hb8.alloc hb8.size (.cells #[.int .i64 2, .int .i64 r, .int .i64 d, .int .i64 v] 40)); have HB10 := Lib.hid (HB9.out.alloc HB9.out.size (.cells #[.int .i64 1, .int .i64 r2, .int .i64 d2, .int .i64 v2] 40)); have HX8 := Lib.hid (hx7.alloc (.cells #[.int .i64 1, .int .i64 r2, .int .i64 d2, .int .i64 v2] 40)); have HY8 := Lib.hid (Block.made w7 40 #[.int .i64 1, .int .i64 r2, .int .i64 d2, .int .i64 v2]); have HX9 := Lib.hid (HX8.out.alloc (.cells #[.int .i64 2, .int .i64 r, .int .i64 d, .int .i64 v] 40)); have HY9 := Lib.hid (HY8.out.alloc (.cells #[.int .i64 2, .int .i64 r, .int .i64 d, .int .i64 v] 40)); have HX10 := Lib.hid (HX9.out.alloc (.cells #[.int .i64 1, .int .i64 r2, .int .i64 d2, .int .i64 v2] 40)); have HY10 := Lib.hid (HY9.out.alloc (.cells #[.int .i64 1, .int .i64 r2, .int .i64 d2, .int .i64 v2] 40)); have x0 := (HX8.out.cell 0).trans rfl; have x1 := (HX8.out.cell 1).trans rfl; have x2 := (HX8.out.cell 2).trans rfl; have x3 := (HX8.out.cell 3).trans rfl; have x0p := (HX9.out.cell 0).trans rfl; have x1p := (HX9.out.cell 1).trans rfl; have x2p := (HX9.out.cell 2).trans rfl; have x3p := (HX9.out.cell 3).trans rfl; have x0q := (HX10.out.cell 0).trans rfl; have x1q := (HX10.out.cell 1).trans rfl; have x2q := (HX10.out.cell 2).trans rfl; have x3q := (HX10.out.cell 3).trans rfl; have y0 := (HY8.out.cell 0).trans rfl; have y1 := (HY8.out.cell 1).trans rfl; have y2 := (HY8.out.cell 2).trans rfl; have y3 := (HY8.out.cell 3).trans rfl; have y0p := (HY9.out.cell 0).trans rfl; have y1p := (HY9.out.cell 1).trans rfl; have y2p := (HY9.out.cell 2).trans rfl; have y3p := (HY9.out.cell 3).trans rfl; have y0q := (HY10.out.cell 0).trans rfl; have y1q := (HY10.out.cell 1).trans rfl; have y2q := (HY10.out.cell 2).trans rfl; have y3q := (HY10.out.cell 3).trans rfl; clear hb7 hx7 hb8) | (go_at_call 14; refine (reftouches_any ⟨2, r, d, v⟩ _).mono ?_; rw [show inR 2 1 3 = true from rfl]; rintro e w' ⟨rfl, rfl⟩) | (go_at_call 14; refine (reftouches_any ⟨1, r2, d2, v2⟩ _).mono ?_; rw [show inR 1 1 3 = true from rfl]; rintro e w' ⟨rfl, rfl⟩))
                            go_roundw
                            case rel =>
                              refine ⟨bb + 1, by omega, by go_num, HB10.out, fun b' hb' => ?_⟩
                              rcases Nat.lt_or_ge b' bb with h1 | h1
                              · exact HNB.out b' h1
                              · obtain rfl : b' = bb := by omega
                                rintro ⟨x, y, hx, hy, hxy⟩
                                rw [HN.out] at hx
                                rw [HN2.out] at hy
                                obtain rfl := Option.some.inj hx
                                obtain rfl := Option.some.inj hy
                                rw [show clashB ⟨2, r, d, v⟩ ⟨1, r2, d2, v2⟩ = false by simp [clashB, touchB, hd]] at hxy
                                cases hxy
                            case measure => simp [intOf]; omega
                        · clear t1' t2'
                          by_cases hd : d = d2
                          · subst hd
                            go_wp2_with (first | (go_at_call 17; refine HNX.out.mono ?_; rintro e w7 ⟨rfl, hb7⟩; have hx7 := HXB.out.below hb7 HXB.out.lt; have hb8 := (HBEL.out.trans (hb7.mono HBEL.out.size)).alloc (by have := HBEL.out.size; have := hb7.size; omega) (.cells #[.int .i64 2, .int .i64 r2, .int .i64 d, .int .i64 v2] 40); have HB8 := Lib.hid hb8; have HB9 := Lib.hid (hb8.alloc hb8.size (.cells #[.int .i64 2, .int .i64 r, .int .i64 d, .int .i64 v] 40)); have HB10 := Lib.hid (HB9.out.alloc HB9.out.size (.cells #[.int .i64 2, .int .i64 r2, .int .i64 d, .int .i64 v2] 40)); have HX8 := Lib.hid (hx7.alloc (.cells #[.int .i64 2, .int .i64 r2, .int .i64 d, .int .i64 v2] 40)); have HY8 := Lib.hid (Block.made w7 40 #[.int .i64 2, .int .i64 r2, .int .i64 d, .int .i64 v2]); have HX9 := Lib.hid (HX8.out.alloc (.cells #[.int .i64 2, .int .i64 r, .int .i64 d, .int .i64 v] 40)); have HY9 := Lib.hid (HY8.out.alloc (.cells #[.int .i64 2, .int .i64 r, .int .i64 d, .int .i64 v] 40)); have HX10 := Lib.hid (HX9.out.alloc (.cells #[.int .i64 2, .int .i64 r2, .int .i64 d, .int .i64 v2] 40)); have HY10 := Lib.hid (HY9.out.alloc (.cells #[.int .i64 2, .int .i64 r2, .int .i64 d, .int .i64 v2] 40)); have x0 := (HX8.out.cell 0).trans rfl; have x1 := (HX8.out.cell 1).trans rfl; have x2 := (HX8.out.cell 2).trans rfl; have x3 := (HX8.out.cell 3).trans rfl; have x0p := (HX9.out.cell 0).trans rfl; have x1p := (HX9.out.cell 1).trans rfl; have x2p := (HX9.out.cell 2).trans rfl; have x3p := (HX9.out.cell 3).trans rfl; have x0q := (HX10.out.cell 0).trans rfl; have x1q := (HX10.out.cell 1).trans rfl; have x2q := (HX10.out.cell 2).trans rfl; have x3q := (HX10.out.cell 3).trans rfl; have y0 := (HY8.out.cell 0).trans rfl; have y1 := (HY8.out.cell 1).trans rfl; have y2 := (HY8.out.cell 2).trans rfl; have y3 := (HY8.out.cell 3).trans rfl; have y0p := (HY9.out.cell 0).trans rfl; have y1p := (HY9.out.cell 1).trans rfl; have y2p := (HY9.out.cell 2).trans rfl; have y3p := (HY9.out.cell 3).trans rfl; have y0q := (HY10.out.cell 0).trans rfl; have y1q := (HY10.out.cell 1).trans rfl; have y2q := (HY10.out.cell 2).trans rfl; have y3q := (HY10.out.cell 3).trans rfl; clear hb7 hx7 hb8) | (go_at_call 14; refine (reftouches_any ⟨2, r, d, v⟩ _).mono ?_; rw [show inR 2 1 3 = true from rfl]; rintro e w' ⟨rfl, rfl⟩) | (go_at_call 14; refine (reftouches_any ⟨2, r2, d, v2⟩ _).mono ?_; rw [show inR 2 1 3 = true from rfl]; rintro e w' ⟨rfl, rfl⟩))
                            go_ret
                            exact ⟨by rw [HQ.out _ hlb ⟨_, _, HN.out, HN2.out, by simp [clashB, touchB]⟩]; rfl, HST6.out.below.trans (HB10.out.mono HST6.out.below.size)⟩
                          · have ed : (d == d2) = false := beq_eq_false_iff_ne.2 hd
                            go_wp2_with (first | (go_at_call 17; refine HNX.out.mono ?_; rintro e w7 ⟨rfl, hb7⟩; have hx7 := HXB.out.below hb7 HXB.out.lt; have hb8 := (HBEL.out.trans (hb7.mono HBEL.out.size)).alloc (by have := HBEL.out.size; have := hb7.size; omega) (.cells #[.int .i64 2, .int .i64 r2, .int .i64 d2, .int .i64 v2] 40); have HB8 := Lib.hid hb8; have HB9 := Lib.hid (hb8.alloc hb8.size (.cells #[.int .i64 2, .int .i64 r, .int .i64 d, .int .i64 v] 40)); have HB10 := Lib.hid (HB9.out.alloc HB9.out.size (.cells #[.int .i64 2, .int .i64 r2, .int .i64 d2, .int .i64 v2] 40)); have HX8 := Lib.hid (hx7.alloc (.cells #[.int .i64 2, .int .i64 r2, .int .i64 d2, .int .i64 v2] 40)); have HY8 := Lib.hid (Block.made w7 40 #[.int .i64 2, .int .i64 r2, .int .i64 d2, .int .i64 v2]); have HX9 := Lib.hid (HX8.out.alloc (.cells #[.int .i64 2, .int .i64 r, .int .i64 d, .int .i64 v] 40)); have HY9 := Lib.hid (HY8.out.alloc (.cells #[.int .i64 2, .int .i64 r, .int .i64 d, .int .i64 v] 40)); have HX10 := Lib.hid (HX9.out.alloc (.cells #[.int .i64 2, .int .i64 r2, .int .i64 d2, .int .i64 v2] 40)); have HY10 := Lib.hid (HY9.out.alloc (.cells #[.int .i64 2, .int .i64 r2, .int .i64 d2, .int .i64 v2] 40)); have x0 := (HX8.out.cell 0).trans rfl; have x1 := (HX8.out.cell 1).trans rfl; have x2 := (HX8.out.cell 2).trans rfl; have x3 := (HX8.out.cell 3).trans rfl; have x0p := (HX9.out.cell 0).trans rfl; have x1p := (HX9.out.cell 1).trans rfl; have x2p := (HX9.out.cell 2).trans rfl; have x3p := (HX9.out.cell 3).trans rfl; have x0q := (HX10.out.cell 0).trans rfl; have x1q := (HX10.out.cell 1).trans rfl; have x2q := (HX10.out.cell 2).trans rfl; have x3q := (HX10.out.cell 3).trans rfl; have y0 := (HY8.out.cell 0).trans rfl; have y1 := (HY8.out.cell 1).trans rfl; have y2 := (HY8.out.cell 2).trans rfl; have y3 := (HY8.out.cell 3).trans rfl; have y0p := (HY9.out.cell 0).trans rfl; have y1p := (HY9.out.cell 1).trans rfl; have y2p := (HY9.out.cell 2).trans rfl; have y3p := (HY9.out.cell 3).trans rfl; have y0q := (HY10.out.cell 0).trans rfl; have y1q := (HY10.out.cell 1).trans rfl; have y2q := (HY10.out.cell 2).trans rfl; have y3q := (HY10.out.cell 3).trans rfl; clear hb7 hx7 hb8) | (go_at_call 14; refine (reftouches_any ⟨2, r, d, v⟩ _).mono ?_; rw [show inR 2 1 3 = true from rfl]; rintro e w' ⟨rfl, rfl⟩) | (go_at_call 14; refine (reftouches_any ⟨2, r2, d2, v2⟩ _).mono ?_; rw [show inR 2 1 3 = true from rfl]; rintro e w' ⟨rfl, rfl⟩))
                            go_roundw
                            case rel =>
                              refine ⟨bb + 1, by omega, by go_num, HB10.out, fun b' hb' => ?_⟩
                              rcases Nat.lt_or_ge b' bb with h1 | h1
                              · exact HNB.out b' h1
                              · obtain rfl : b' = bb := by omega
                                rintro ⟨x, y, hx, hy, hxy⟩
                                rw [HN.out] at hx
                                rw [HN2.out] at hy
                                obtain rfl := Option.some.inj hx
                                obtain rfl := Option.some.inj hy
                                rw [show clashB ⟨2, r, d, v⟩ ⟨2, r2, d2, v2⟩ = false by simp [clashB, touchB, hd]] at hxy
                                cases hxy
                            case measure => simp [intOf]; omega
                        · clear t1' t2'
                          by_cases hd : d = d2
                          · subst hd
                            go_wp2_with (first | (go_at_call 17; refine HNX.out.mono ?_; rintro e w7 ⟨rfl, hb7⟩; have hx7 := HXB.out.below hb7 HXB.out.lt; have hb8 := (HBEL.out.trans (hb7.mono HBEL.out.size)).alloc (by have := HBEL.out.size; have := hb7.size; omega) (.cells #[.int .i64 3, .int .i64 r2, .int .i64 d, .int .i64 v2] 40); have HB8 := Lib.hid hb8; have HB9 := Lib.hid (hb8.alloc hb8.size (.cells #[.int .i64 2, .int .i64 r, .int .i64 d, .int .i64 v] 40)); have HB10 := Lib.hid (HB9.out.alloc HB9.out.size (.cells #[.int .i64 3, .int .i64 r2, .int .i64 d, .int .i64 v2] 40)); have HX8 := Lib.hid (hx7.alloc (.cells #[.int .i64 3, .int .i64 r2, .int .i64 d, .int .i64 v2] 40)); have HY8 := Lib.hid (Block.made w7 40 #[.int .i64 3, .int .i64 r2, .int .i64 d, .int .i64 v2]); have HX9 := Lib.hid (HX8.out.alloc (.cells #[.int .i64 2, .int .i64 r, .int .i64 d, .int .i64 v] 40)); have HY9 := Lib.hid (HY8.out.alloc (.cells #[.int .i64 2, .int .i64 r, .int .i64 d, .int .i64 v] 40)); have HX10 := Lib.hid (HX9.out.alloc (.cells #[.int .i64 3, .int .i64 r2, .int .i64 d, .int .i64 v2] 40)); have HY10 := Lib.hid (HY9.out.alloc (.cells #[.int .i64 3, .int .i64 r2, .int .i64 d, .int .i64 v2] 40)); have x0 := (HX8.out.cell 0).trans rfl; have x1 := (HX8.out.cell 1).trans rfl; have x2 := (HX8.out.cell 2).trans rfl; have x3 := (HX8.out.cell 3).trans rfl; have x0p := (HX9.out.cell 0).trans rfl; have x1p := (HX9.out.cell 1).trans rfl; have x2p := (HX9.out.cell 2).trans rfl; have x3p := (HX9.out.cell 3).trans rfl; have x0q := (HX10.out.cell 0).trans rfl; have x1q := (HX10.out.cell 1).trans rfl; have x2q := (HX10.out.cell 2).trans rfl; have x3q := (HX10.out.cell 3).trans rfl; have y0 := (HY8.out.cell 0).trans rfl; have y1 := (HY8.out.cell 1).trans rfl; have y2 := (HY8.out.cell 2).trans rfl; have y3 := (HY8.out.cell 3).trans rfl; have y0p := (HY9.out.cell 0).trans rfl; have y1p := (HY9.out.cell 1).trans rfl; have y2p := (HY9.out.cell 2).trans rfl; have y3p := (HY9.out.cell 3).trans rfl; have y0q := (HY10.out.cell 0).trans rfl; have y1q := (HY10.out.cell 1).trans rfl; have y2q := (HY10.out.cell 2).trans rfl; have y3q := (HY10.out.cell 3).trans rfl; clear hb7 hx7 hb8) | (go_at_call 14; refine (reftouches_any ⟨2, r, d, v⟩ _).mono ?_; rw [show inR 2 1 3 = true from rfl]; rintro e w' ⟨rfl, rfl⟩) | (go_at_call 14; refine (reftouches_any ⟨3, r2, d, v2⟩ _).mono ?_; rw [show inR 3 1 3 = true from rfl]; rintro e w' ⟨rfl, rfl⟩))
                            go_ret
                            exact ⟨by rw [HQ.out _ hlb ⟨_, _, HN.out, HN2.out, by simp [clashB, touchB]⟩]; rfl, HST6.out.below.trans (HB10.out.mono HST6.out.below.size)⟩
                          · have ed : (d == d2) = false := beq_eq_false_iff_ne.2 hd
                            go_wp2_with (first | (go_at_call 17; refine HNX.out.mono ?_; rintro e w7 ⟨rfl, hb7⟩; have hx7 := HXB.out.below hb7 HXB.out.lt; have hb8 := (HBEL.out.trans (hb7.mono HBEL.out.size)).alloc (by have := HBEL.out.size; have := hb7.size; omega) (.cells #[.int .i64 3, .int .i64 r2, .int .i64 d2, .int .i64 v2] 40); have HB8 := Lib.hid hb8; have HB9 := Lib.hid (hb8.alloc hb8.size (.cells #[.int .i64 2, .int .i64 r, .int .i64 d, .int .i64 v] 40)); have HB10 := Lib.hid (HB9.out.alloc HB9.out.size (.cells #[.int .i64 3, .int .i64 r2, .int .i64 d2, .int .i64 v2] 40)); have HX8 := Lib.hid (hx7.alloc (.cells #[.int .i64 3, .int .i64 r2, .int .i64 d2, .int .i64 v2] 40)); have HY8 := Lib.hid (Block.made w7 40 #[.int .i64 3, .int .i64 r2, .int .i64 d2, .int .i64 v2]); have HX9 := Lib.hid (HX8.out.alloc (.cells #[.int .i64 2, .int .i64 r, .int .i64 d, .int .i64 v] 40)); have HY9 := Lib.hid (HY8.out.alloc (.cells #[.int .i64 2, .int .i64 r, .int .i64 d, .int .i64 v] 40)); have HX10 := Lib.hid (HX9.out.alloc (.cells #[.int .i64 3, .int .i64 r2, .int .i64 d2, .int .i64 v2] 40)); have HY10 := Lib.hid (HY9.out.alloc (.cells #[.int .i64 3, .int .i64 r2, .int .i64 d2, .int .i64 v2] 40)); have x0 := (HX8.out.cell 0).trans rfl; have x1 := (HX8.out.cell 1).trans rfl; have x2 := (HX8.out.cell 2).trans rfl; have x3 := (HX8.out.cell 3).trans rfl; have x0p := (HX9.out.cell 0).trans rfl; have x1p := (HX9.out.cell 1).trans rfl; have x2p := (HX9.out.cell 2).trans rfl; have x3p := (HX9.out.cell 3).trans rfl; have x0q := (HX10.out.cell 0).trans rfl; have x1q := (HX10.out.cell 1).trans rfl; have x2q := (HX10.out.cell 2).trans rfl; have x3q := (HX10.out.cell 3).trans rfl; have y0 := (HY8.out.cell 0).trans rfl; have y1 := (HY8.out.cell 1).trans rfl; have y2 := (HY8.out.cell 2).trans rfl; have y3 := (HY8.out.cell 3).trans rfl; have y0p := (HY9.out.cell 0).trans rfl; have y1p := (HY9.out.cell 1).trans rfl; have y2p := (HY9.out.cell 2).trans rfl; have y3p := (HY9.out.cell 3).trans rfl; have y0q := (HY10.out.cell 0).trans rfl; have y1q := (HY10.out.cell 1).trans rfl; have y2q := (HY10.out.cell 2).trans rfl; have y3q := (HY10.out.cell 3).trans rfl; clear hb7 hx7 hb8) | (go_at_call 14; refine (reftouches_any ⟨2, r, d, v⟩ _).mono ?_; rw [show inR 2 1 3 = true from rfl]; rintro e w' ⟨rfl, rfl⟩) | (go_at_call 14; refine (reftouches_any ⟨3, r2, d2, v2⟩ _).mono ?_; rw [show inR 3 1 3 = true from rfl]; rintro e w' ⟨rfl, rfl⟩))
                            go_roundw
                            case rel =>
                              refine ⟨bb + 1, by omega, by go_num, HB10.out, fun b' hb' => ?_⟩
                              rcases Nat.lt_or_ge b' bb with h1 | h1
                              · exact HNB.out b' h1
                              · obtain rfl : b' = bb := by omega
                                rintro ⟨x, y, hx, hy, hxy⟩
                                rw [HN.out] at hx
                                rw [HN2.out] at hy
                                obtain rfl := Option.some.inj hx
                                obtain rfl := Option.some.inj hy
                                rw [show clashB ⟨2, r, d, v⟩ ⟨3, r2, d2, v2⟩ = false by simp [clashB, touchB, hd]] at hxy
                                cases hxy
                            case measure => simp [intOf]; omega
                      · obtain rfl | rfl | rfl : k2 = 1 ∨ k2 = 2 ∨ k2 = 3 := by omega
                        · clear t1' t2'
                          by_cases hd : d = d2
                          · subst hd
                            go_wp2_with (first | (go_at_call 17; refine HNX.out.mono ?_; rintro e w7 ⟨rfl, hb7⟩; have hx7 := HXB.out.below hb7 HXB.out.lt; have hb8 := (HBEL.out.trans (hb7.mono HBEL.out.size)).alloc (by have := HBEL.out.size; have := hb7.size; omega) (.cells #[.int .i64 1, .int .i64 r2, .int .i64 d, .int .i64 v2] 40); have HB8 := Lib.hid hb8; have HB9 := Lib.hid (hb8.alloc hb8.size (.cells #[.int .i64 3, .int .i64 r, .int .i64 d, .int .i64 v] 40)); have HB10 := Lib.hid (HB9.out.alloc HB9.out.size (.cells #[.int .i64 1, .int .i64 r2, .int .i64 d, .int .i64 v2] 40)); have HX8 := Lib.hid (hx7.alloc (.cells #[.int .i64 1, .int .i64 r2, .int .i64 d, .int .i64 v2] 40)); have HY8 := Lib.hid (Block.made w7 40 #[.int .i64 1, .int .i64 r2, .int .i64 d, .int .i64 v2]); have HX9 := Lib.hid (HX8.out.alloc (.cells #[.int .i64 3, .int .i64 r, .int .i64 d, .int .i64 v] 40)); have HY9 := Lib.hid (HY8.out.alloc (.cells #[.int .i64 3, .int .i64 r, .int .i64 d, .int .i64 v] 40)); have HX10 := Lib.hid (HX9.out.alloc (.cells #[.int .i64 1, .int .i64 r2, .int .i64 d, .int .i64 v2] 40)); have HY10 := Lib.hid (HY9.out.alloc (.cells #[.int .i64 1, .int .i64 r2, .int .i64 d, .int .i64 v2] 40)); have x0 := (HX8.out.cell 0).trans rfl; have x1 := (HX8.out.cell 1).trans rfl; have x2 := (HX8.out.cell 2).trans rfl; have x3 := (HX8.out.cell 3).trans rfl; have x0p := (HX9.out.cell 0).trans rfl; have x1p := (HX9.out.cell 1).trans rfl; have x2p := (HX9.out.cell 2).trans rfl; have x3p := (HX9.out.cell 3).trans rfl; have x0q := (HX10.out.cell 0).trans rfl; have x1q := (HX10.out.cell 1).trans rfl; have x2q := (HX10.out.cell 2).trans rfl; have x3q := (HX10.out.cell 3).trans rfl; have y0 := (HY8.out.cell 0).trans rfl; have y1 := (HY8.out.cell 1).trans rfl; have y2 := (HY8.out.cell 2).trans rfl; have y3 := (HY8.out.cell 3).trans rfl; have y0p := (HY9.out.cell 0).trans rfl; have y1p := (HY9.out.cell 1).trans rfl; have y2p := (HY9.out.cell 2).trans rfl; have y3p := (HY9.out.cell 3).trans rfl; have y0q := (HY10.out.cell 0).trans rfl; have y1q := (HY10.out.cell 1).trans rfl; have y2q := (HY10.out.cell 2).trans rfl; have y3q := (HY10.out.cell 3).trans rfl; clear hb7 hx7 hb8) | (go_at_call 14; refine (reftouches_any ⟨3, r, d, v⟩ _).mono ?_; rw [show inR 3 1 3 = true from rfl]; rintro e w' ⟨rfl, rfl⟩) | (go_at_call 14; refine (reftouches_any ⟨1, r2, d, v2⟩ _).mono ?_; rw [show inR 1 1 3 = true from rfl]; rintro e w' ⟨rfl, rfl⟩))
                            go_ret
                            exact ⟨by rw [HQ.out _ hlb ⟨_, _, HN.out, HN2.out, by simp [clashB, touchB]⟩]; rfl, HST6.out.below.trans (HB10.out.mono HST6.out.below.size)⟩
                          · have ed : (d == d2) = false := beq_eq_false_iff_ne.2 hd
                            go_wp2_with (first | (go_at_call 17; refine HNX.out.mono ?_; rintro e w7 ⟨rfl, hb7⟩; have hx7 := HXB.out.below hb7 HXB.out.lt; have hb8 := (HBEL.out.trans (hb7.mono HBEL.out.size)).alloc (by have := HBEL.out.size; have := hb7.size; omega) (.cells #[.int .i64 1, .int .i64 r2, .int .i64 d2, .int .i64 v2] 40); have HB8 := Lib.hid hb8; have HB9 := Lib.hid (hb8.alloc hb8.size (.cells #[.int .i64 3, .int .i64 r, .int .i64 d, .int .i64 v] 40)); have HB10 := Lib.hid (HB9.out.alloc HB9.out.size (.cells #[.int .i64 1, .int .i64 r2, .int .i64 d2, .int .i64 v2] 40)); have HX8 := Lib.hid (hx7.alloc (.cells #[.int .i64 1, .int .i64 r2, .int .i64 d2, .int .i64 v2] 40)); have HY8 := Lib.hid (Block.made w7 40 #[.int .i64 1, .int .i64 r2, .int .i64 d2, .int .i64 v2]); have HX9 := Lib.hid (HX8.out.alloc (.cells #[.int .i64 3, .int .i64 r, .int .i64 d, .int .i64 v] 40)); have HY9 := Lib.hid (HY8.out.alloc (.cells #[.int .i64 3, .int .i64 r, .int .i64 d, .int .i64 v] 40)); have HX10 := Lib.hid (HX9.out.alloc (.cells #[.int .i64 1, .int .i64 r2, .int .i64 d2, .int .i64 v2] 40)); have HY10 := Lib.hid (HY9.out.alloc (.cells #[.int .i64 1, .int .i64 r2, .int .i64 d2, .int .i64 v2] 40)); have x0 := (HX8.out.cell 0).trans rfl; have x1 := (HX8.out.cell 1).trans rfl; have x2 := (HX8.out.cell 2).trans rfl; have x3 := (HX8.out.cell 3).trans rfl; have x0p := (HX9.out.cell 0).trans rfl; have x1p := (HX9.out.cell 1).trans rfl; have x2p := (HX9.out.cell 2).trans rfl; have x3p := (HX9.out.cell 3).trans rfl; have x0q := (HX10.out.cell 0).trans rfl; have x1q := (HX10.out.cell 1).trans rfl; have x2q := (HX10.out.cell 2).trans rfl; have x3q := (HX10.out.cell 3).trans rfl; have y0 := (HY8.out.cell 0).trans rfl; have y1 := (HY8.out.cell 1).trans rfl; have y2 := (HY8.out.cell 2).trans rfl; have y3 := (HY8.out.cell 3).trans rfl; have y0p := (HY9.out.cell 0).trans rfl; have y1p := (HY9.out.cell 1).trans rfl; have y2p := (HY9.out.cell 2).trans rfl; have y3p := (HY9.out.cell 3).trans rfl; have y0q := (HY10.out.cell 0).trans rfl; have y1q := (HY10.out.cell 1).trans rfl; have y2q := (HY10.out.cell 2).trans rfl; have y3q := (HY10.out.cell 3).trans rfl; clear hb7 hx7 hb8) | (go_at_call 14; refine (reftouches_any ⟨3, r, d, v⟩ _).mono ?_; rw [show inR 3 1 3 = true from rfl]; rintro e w' ⟨rfl, rfl⟩) | (go_at_call 14; refine (reftouches_any ⟨1, r2, d2, v2⟩ _).mono ?_; rw [show inR 1 1 3 = true from rfl]; rintro e w' ⟨rfl, rfl⟩))
                            go_roundw
                            case rel =>
                              refine ⟨bb + 1, by omega, by go_num, HB10.out, fun b' hb' => ?_⟩
                              rcases Nat.lt_or_ge b' bb with h1 | h1
                              · exact HNB.out b' h1
                              · obtain rfl : b' = bb := by omega
                                rintro ⟨x, y, hx, hy, hxy⟩
                                rw [HN.out] at hx
                                rw [HN2.out] at hy
                                obtain rfl := Option.some.inj hx
                                obtain rfl := Option.some.inj hy
                                rw [show clashB ⟨3, r, d, v⟩ ⟨1, r2, d2, v2⟩ = false by simp [clashB, touchB, hd]] at hxy
                                cases hxy
                            case measure => simp [intOf]; omega
                        · clear t1' t2'
                          by_cases hd : d = d2
                          · subst hd
                            go_wp2_with (first | (go_at_call 17; refine HNX.out.mono ?_; rintro e w7 ⟨rfl, hb7⟩; have hx7 := HXB.out.below hb7 HXB.out.lt; have hb8 := (HBEL.out.trans (hb7.mono HBEL.out.size)).alloc (by have := HBEL.out.size; have := hb7.size; omega) (.cells #[.int .i64 2, .int .i64 r2, .int .i64 d, .int .i64 v2] 40); have HB8 := Lib.hid hb8; have HB9 := Lib.hid (hb8.alloc hb8.size (.cells #[.int .i64 3, .int .i64 r, .int .i64 d, .int .i64 v] 40)); have HB10 := Lib.hid (HB9.out.alloc HB9.out.size (.cells #[.int .i64 2, .int .i64 r2, .int .i64 d, .int .i64 v2] 40)); have HX8 := Lib.hid (hx7.alloc (.cells #[.int .i64 2, .int .i64 r2, .int .i64 d, .int .i64 v2] 40)); have HY8 := Lib.hid (Block.made w7 40 #[.int .i64 2, .int .i64 r2, .int .i64 d, .int .i64 v2]); have HX9 := Lib.hid (HX8.out.alloc (.cells #[.int .i64 3, .int .i64 r, .int .i64 d, .int .i64 v] 40)); have HY9 := Lib.hid (HY8.out.alloc (.cells #[.int .i64 3, .int .i64 r, .int .i64 d, .int .i64 v] 40)); have HX10 := Lib.hid (HX9.out.alloc (.cells #[.int .i64 2, .int .i64 r2, .int .i64 d, .int .i64 v2] 40)); have HY10 := Lib.hid (HY9.out.alloc (.cells #[.int .i64 2, .int .i64 r2, .int .i64 d, .int .i64 v2] 40)); have x0 := (HX8.out.cell 0).trans rfl; have x1 := (HX8.out.cell 1).trans rfl; have x2 := (HX8.out.cell 2).trans rfl; have x3 := (HX8.out.cell 3).trans rfl; have x0p := (HX9.out.cell 0).trans rfl; have x1p := (HX9.out.cell 1).trans rfl; have x2p := (HX9.out.cell 2).trans rfl; have x3p := (HX9.out.cell 3).trans rfl; have x0q := (HX10.out.cell 0).trans rfl; have x1q := (HX10.out.cell 1).trans rfl; have x2q := (HX10.out.cell 2).trans rfl; have x3q := (HX10.out.cell 3).trans rfl; have y0 := (HY8.out.cell 0).trans rfl; have y1 := (HY8.out.cell 1).trans rfl; have y2 := (HY8.out.cell 2).trans rfl; have y3 := (HY8.out.cell 3).trans rfl; have y0p := (HY9.out.cell 0).trans rfl; have y1p := (HY9.out.cell 1).trans rfl; have y2p := (HY9.out.cell 2).trans rfl; have y3p := (HY9.out.cell 3).trans rfl; have y0q := (HY10.out.cell 0).trans rfl; have y1q := (HY10.out.cell 1).trans rfl; have y2q := (HY10.out.cell 2).trans rfl; have y3q := (HY10.out.cell 3).trans rfl; clear hb7 hx7 hb8) | (go_at_call 14; refine (reftouches_any ⟨3, r, d, v⟩ _).mono ?_; rw [show inR 3 1 3 = true from rfl]; rintro e w' ⟨rfl, rfl⟩) | (go_at_call 14; refine (reftouches_any ⟨2, r2, d, v2⟩ _).mono ?_; rw [show inR 2 1 3 = true from rfl]; rintro e w' ⟨rfl, rfl⟩))
                            go_ret
                            exact ⟨by rw [HQ.out _ hlb ⟨_, _, HN.out, HN2.out, by simp [clashB, touchB]⟩]; rfl, HST6.out.below.trans (HB10.out.mono HST6.out.below.size)⟩
                          · have ed : (d == d2) = false := beq_eq_false_iff_ne.2 hd
                            go_wp2_with (first | (go_at_call 17; refine HNX.out.mono ?_; rintro e w7 ⟨rfl, hb7⟩; have hx7 := HXB.out.below hb7 HXB.out.lt; have hb8 := (HBEL.out.trans (hb7.mono HBEL.out.size)).alloc (by have := HBEL.out.size; have := hb7.size; omega) (.cells #[.int .i64 2, .int .i64 r2, .int .i64 d2, .int .i64 v2] 40); have HB8 := Lib.hid hb8; have HB9 := Lib.hid (hb8.alloc hb8.size (.cells #[.int .i64 3, .int .i64 r, .int .i64 d, .int .i64 v] 40)); have HB10 := Lib.hid (HB9.out.alloc HB9.out.size (.cells #[.int .i64 2, .int .i64 r2, .int .i64 d2, .int .i64 v2] 40)); have HX8 := Lib.hid (hx7.alloc (.cells #[.int .i64 2, .int .i64 r2, .int .i64 d2, .int .i64 v2] 40)); have HY8 := Lib.hid (Block.made w7 40 #[.int .i64 2, .int .i64 r2, .int .i64 d2, .int .i64 v2]); have HX9 := Lib.hid (HX8.out.alloc (.cells #[.int .i64 3, .int .i64 r, .int .i64 d, .int .i64 v] 40)); have HY9 := Lib.hid (HY8.out.alloc (.cells #[.int .i64 3, .int .i64 r, .int .i64 d, .int .i64 v] 40)); have HX10 := Lib.hid (HX9.out.alloc (.cells #[.int .i64 2, .int .i64 r2, .int .i64 d2, .int .i64 v2] 40)); have HY10 := Lib.hid (HY9.out.alloc (.cells #[.int .i64 2, .int .i64 r2, .int .i64 d2, .int .i64 v2] 40)); have x0 := (HX8.out.cell 0).trans rfl; have x1 := (HX8.out.cell 1).trans rfl; have x2 := (HX8.out.cell 2).trans rfl; have x3 := (HX8.out.cell 3).trans rfl; have x0p := (HX9.out.cell 0).trans rfl; have x1p := (HX9.out.cell 1).trans rfl; have x2p := (HX9.out.cell 2).trans rfl; have x3p := (HX9.out.cell 3).trans rfl; have x0q := (HX10.out.cell 0).trans rfl; have x1q := (HX10.out.cell 1).trans rfl; have x2q := (HX10.out.cell 2).trans rfl; have x3q := (HX10.out.cell 3).trans rfl; have y0 := (HY8.out.cell 0).trans rfl; have y1 := (HY8.out.cell 1).trans rfl; have y2 := (HY8.out.cell 2).trans rfl; have y3 := (HY8.out.cell 3).trans rfl; have y0p := (HY9.out.cell 0).trans rfl; have y1p := (HY9.out.cell 1).trans rfl; have y2p := (HY9.out.cell 2).trans rfl; have y3p := (HY9.out.cell 3).trans rfl; have y0q := (HY10.out.cell 0).trans rfl; have y1q := (HY10.out.cell 1).trans rfl; have y2q := (HY10.out.cell 2).trans rfl; have y3q := (HY10.out.cell 3).trans rfl; clear hb7 hx7 hb8) | (go_at_call 14; refine (reftouches_any ⟨3, r, d, v⟩ _).mono ?_; rw [show inR 3 1 3 = true from rfl]; rintro e w' ⟨rfl, rfl⟩) | (go_at_call 14; refine (reftouches_any ⟨2, r2, d2, v2⟩ _).mono ?_; rw [show inR 2 1 3 = true from rfl]; rintro e w' ⟨rfl, rfl⟩))
                            go_roundw
                            case rel =>
                              refine ⟨bb + 1, by omega, by go_num, HB10.out, fun b' hb' => ?_⟩
                              rcases Nat.lt_or_ge b' bb with h1 | h1
                              · exact HNB.out b' h1
                              · obtain rfl : b' = bb := by omega
                                rintro ⟨x, y, hx, hy, hxy⟩
                                rw [HN.out] at hx
                                rw [HN2.out] at hy
                                obtain rfl := Option.some.inj hx
                                obtain rfl := Option.some.inj hy
                                rw [show clashB ⟨3, r, d, v⟩ ⟨2, r2, d2, v2⟩ = false by simp [clashB, touchB, hd]] at hxy
                                cases hxy
                            case measure => simp [intOf]; omega
                        · clear t1' t2'
                          by_cases hd : d = d2
                          · subst hd
                            go_wp2_with (first | (go_at_call 17; refine HNX.out.mono ?_; rintro e w7 ⟨rfl, hb7⟩; have hx7 := HXB.out.below hb7 HXB.out.lt; have hb8 := (HBEL.out.trans (hb7.mono HBEL.out.size)).alloc (by have := HBEL.out.size; have := hb7.size; omega) (.cells #[.int .i64 3, .int .i64 r2, .int .i64 d, .int .i64 v2] 40); have HB8 := Lib.hid hb8; have HB9 := Lib.hid (hb8.alloc hb8.size (.cells #[.int .i64 3, .int .i64 r, .int .i64 d, .int .i64 v] 40)); have HB10 := Lib.hid (HB9.out.alloc HB9.out.size (.cells #[.int .i64 3, .int .i64 r2, .int .i64 d, .int .i64 v2] 40)); have HX8 := Lib.hid (hx7.alloc (.cells #[.int .i64 3, .int .i64 r2, .int .i64 d, .int .i64 v2] 40)); have HY8 := Lib.hid (Block.made w7 40 #[.int .i64 3, .int .i64 r2, .int .i64 d, .int .i64 v2]); have HX9 := Lib.hid (HX8.out.alloc (.cells #[.int .i64 3, .int .i64 r, .int .i64 d, .int .i64 v] 40)); have HY9 := Lib.hid (HY8.out.alloc (.cells #[.int .i64 3, .int .i64 r, .int .i64 d, .int .i64 v] 40)); have HX10 := Lib.hid (HX9.out.alloc (.cells #[.int .i64 3, .int .i64 r2, .int .i64 d, .int .i64 v2] 40)); have HY10 := Lib.hid (HY9.out.alloc (.cells #[.int .i64 3, .int .i64 r2, .int .i64 d, .int .i64 v2] 40)); have x0 := (HX8.out.cell 0).trans rfl; have x1 := (HX8.out.cell 1).trans rfl; have x2 := (HX8.out.cell 2).trans rfl; have x3 := (HX8.out.cell 3).trans rfl; have x0p := (HX9.out.cell 0).trans rfl; have x1p := (HX9.out.cell 1).trans rfl; have x2p := (HX9.out.cell 2).trans rfl; have x3p := (HX9.out.cell 3).trans rfl; have x0q := (HX10.out.cell 0).trans rfl; have x1q := (HX10.out.cell 1).trans rfl; have x2q := (HX10.out.cell 2).trans rfl; have x3q := (HX10.out.cell 3).trans rfl; have y0 := (HY8.out.cell 0).trans rfl; have y1 := (HY8.out.cell 1).trans rfl; have y2 := (HY8.out.cell 2).trans rfl; have y3 := (HY8.out.cell 3).trans rfl; have y0p := (HY9.out.cell 0).trans rfl; have y1p := (HY9.out.cell 1).trans rfl; have y2p := (HY9.out.cell 2).trans rfl; have y3p := (HY9.out.cell 3).trans rfl; have y0q := (HY10.out.cell 0).trans rfl; have y1q := (HY10.out.cell 1).trans rfl; have y2q := (HY10.out.cell 2).trans rfl; have y3q := (HY10.out.cell 3).trans rfl; clear hb7 hx7 hb8) | (go_at_call 14; refine (reftouches_any ⟨3, r, d, v⟩ _).mono ?_; rw [show inR 3 1 3 = true from rfl]; rintro e w' ⟨rfl, rfl⟩) | (go_at_call 14; refine (reftouches_any ⟨3, r2, d, v2⟩ _).mono ?_; rw [show inR 3 1 3 = true from rfl]; rintro e w' ⟨rfl, rfl⟩))
                            go_roundw
                            case rel =>
                              refine ⟨bb + 1, by omega, by go_num, HB10.out, fun b' hb' => ?_⟩
                              rcases Nat.lt_or_ge b' bb with h1 | h1
                              · exact HNB.out b' h1
                              · obtain rfl : b' = bb := by omega
                                rintro ⟨x, y, hx, hy, hxy⟩
                                rw [HN.out] at hx
                                rw [HN2.out] at hy
                                obtain rfl := Option.some.inj hx
                                obtain rfl := Option.some.inj hy
                                rw [show clashB ⟨3, r, d, v⟩ ⟨3, r2, d, v2⟩ = false by simp [clashB, touchB]] at hxy
                                cases hxy
                            case measure => simp [intOf]; omega
                          · have ed : (d == d2) = false := beq_eq_false_iff_ne.2 hd
                            go_wp2_with (first | (go_at_call 17; refine HNX.out.mono ?_; rintro e w7 ⟨rfl, hb7⟩; have hx7 := HXB.out.below hb7 HXB.out.lt; have hb8 := (HBEL.out.trans (hb7.mono HBEL.out.size)).alloc (by have := HBEL.out.size; have := hb7.size; omega) (.cells #[.int .i64 3, .int .i64 r2, .int .i64 d2, .int .i64 v2] 40); have HB8 := Lib.hid hb8; have HB9 := Lib.hid (hb8.alloc hb8.size (.cells #[.int .i64 3, .int .i64 r, .int .i64 d, .int .i64 v] 40)); have HB10 := Lib.hid (HB9.out.alloc HB9.out.size (.cells #[.int .i64 3, .int .i64 r2, .int .i64 d2, .int .i64 v2] 40)); have HX8 := Lib.hid (hx7.alloc (.cells #[.int .i64 3, .int .i64 r2, .int .i64 d2, .int .i64 v2] 40)); have HY8 := Lib.hid (Block.made w7 40 #[.int .i64 3, .int .i64 r2, .int .i64 d2, .int .i64 v2]); have HX9 := Lib.hid (HX8.out.alloc (.cells #[.int .i64 3, .int .i64 r, .int .i64 d, .int .i64 v] 40)); have HY9 := Lib.hid (HY8.out.alloc (.cells #[.int .i64 3, .int .i64 r, .int .i64 d, .int .i64 v] 40)); have HX10 := Lib.hid (HX9.out.alloc (.cells #[.int .i64 3, .int .i64 r2, .int .i64 d2, .int .i64 v2] 40)); have HY10 := Lib.hid (HY9.out.alloc (.cells #[.int .i64 3, .int .i64 r2, .int .i64 d2, .int .i64 v2] 40)); have x0 := (HX8.out.cell 0).trans rfl; have x1 := (HX8.out.cell 1).trans rfl; have x2 := (HX8.out.cell 2).trans rfl; have x3 := (HX8.out.cell 3).trans rfl; have x0p := (HX9.out.cell 0).trans rfl; have x1p := (HX9.out.cell 1).trans rfl; have x2p := (HX9.out.cell 2).trans rfl; have x3p := (HX9.out.cell 3).trans rfl; have x0q := (HX10.out.cell 0).trans rfl; have x1q := (HX10.out.cell 1).trans rfl; have x2q := (HX10.out.cell 2).trans rfl; have x3q := (HX10.out.cell 3).trans rfl; have y0 := (HY8.out.cell 0).trans rfl; have y1 := (HY8.out.cell 1).trans rfl; have y2 := (HY8.out.cell 2).trans rfl; have y3 := (HY8.out.cell 3).trans rfl; have y0p := (HY9.out.cell 0).trans rfl; have y1p := (HY9.out.cell 1).trans rfl; have y2p := (HY9.out.cell 2).trans rfl; have y3p := (HY9.out.cell 3).trans rfl; have y0q := (HY10.out.cell 0).trans rfl; have y1q := (HY10.out.cell 1).trans rfl; have y2q := (HY10.out.cell 2).trans rfl; have y3q := (HY10.out.cell 3).trans rfl; clear hb7 hx7 hb8) | (go_at_call 14; refine (reftouches_any ⟨3, r, d, v⟩ _).mono ?_; rw [show inR 3 1 3 = true from rfl]; rintro e w' ⟨rfl, rfl⟩) | (go_at_call 14; refine (reftouches_any ⟨3, r2, d2, v2⟩ _).mono ?_; rw [show inR 3 1 3 = true from rfl]; rintro e w' ⟨rfl, rfl⟩))
                            go_roundw
                            case rel =>
                              refine ⟨bb + 1, by omega, by go_num, HB10.out, fun b' hb' => ?_⟩
                              rcases Nat.lt_or_ge b' bb with h1 | h1
                              · exact HNB.out b' h1
                              · obtain rfl : b' = bb := by omega
                                rintro ⟨x, y, hx, hy, hxy⟩
                                rw [HN.out] at hx
                                rw [HN2.out] at hy
                                obtain rfl := Option.some.inj hx
                                obtain rfl := Option.some.inj hy
                                rw [show clashB ⟨3, r, d, v⟩ ⟨3, r2, d2, v2⟩ = false by simp [clashB, touchB, hd]] at hxy
                                cases hxy
                            case measure => simp [intOf]; omega
                    · have t2' : inR k2 1 3 = false := by simpa using t2
                      have HT2 := Lib.hid t2'
                      have t1x := t1
                      clear t2
                      go_wp2_with (first | (go_at_call 17; refine HNX.out.mono ?_; rintro e w7 ⟨rfl, hb7⟩; have hx7 := HXB.out.below hb7 HXB.out.lt; have hb8 := (HBEL.out.trans (hb7.mono HBEL.out.size)).alloc (by have := HBEL.out.size; have := hb7.size; omega) (.cells #[.int .i64 k2, .int .i64 r2, .int .i64 d2, .int .i64 v2] 40); have HB8 := Lib.hid hb8; have HB9 := Lib.hid (hb8.alloc hb8.size (.cells #[.int .i64 k, .int .i64 r, .int .i64 d, .int .i64 v] 40)); have HB10 := Lib.hid (HB9.out.alloc HB9.out.size (.cells #[.int .i64 k2, .int .i64 r2, .int .i64 d2, .int .i64 v2] 40)); have HX8 := Lib.hid (hx7.alloc (.cells #[.int .i64 k2, .int .i64 r2, .int .i64 d2, .int .i64 v2] 40)); have HY8 := Lib.hid (Block.made w7 40 #[.int .i64 k2, .int .i64 r2, .int .i64 d2, .int .i64 v2]); have HX9 := Lib.hid (HX8.out.alloc (.cells #[.int .i64 k, .int .i64 r, .int .i64 d, .int .i64 v] 40)); have HY9 := Lib.hid (HY8.out.alloc (.cells #[.int .i64 k, .int .i64 r, .int .i64 d, .int .i64 v] 40)); have HX10 := Lib.hid (HX9.out.alloc (.cells #[.int .i64 k2, .int .i64 r2, .int .i64 d2, .int .i64 v2] 40)); have HY10 := Lib.hid (HY9.out.alloc (.cells #[.int .i64 k2, .int .i64 r2, .int .i64 d2, .int .i64 v2] 40)); have x0 := (HX8.out.cell 0).trans rfl; have x1 := (HX8.out.cell 1).trans rfl; have x2 := (HX8.out.cell 2).trans rfl; have x3 := (HX8.out.cell 3).trans rfl; have x0p := (HX9.out.cell 0).trans rfl; have x1p := (HX9.out.cell 1).trans rfl; have x2p := (HX9.out.cell 2).trans rfl; have x3p := (HX9.out.cell 3).trans rfl; have x0q := (HX10.out.cell 0).trans rfl; have x1q := (HX10.out.cell 1).trans rfl; have x2q := (HX10.out.cell 2).trans rfl; have x3q := (HX10.out.cell 3).trans rfl; have y0 := (HY8.out.cell 0).trans rfl; have y1 := (HY8.out.cell 1).trans rfl; have y2 := (HY8.out.cell 2).trans rfl; have y3 := (HY8.out.cell 3).trans rfl; have y0p := (HY9.out.cell 0).trans rfl; have y1p := (HY9.out.cell 1).trans rfl; have y2p := (HY9.out.cell 2).trans rfl; have y3p := (HY9.out.cell 3).trans rfl; have y0q := (HY10.out.cell 0).trans rfl; have y1q := (HY10.out.cell 1).trans rfl; have y2q := (HY10.out.cell 2).trans rfl; have y3q := (HY10.out.cell 3).trans rfl; clear hb7 hx7 hb8) | (go_at_call 14; refine (reftouches_any ⟨k, r, d, v⟩ _).mono ?_; rw [t1x]; rintro e w' ⟨rfl, rfl⟩) | (go_at_call 14; refine (reftouches_any ⟨k2, r2, d2, v2⟩ _).mono ?_; rw [t2']; rintro e w' ⟨rfl, rfl⟩))
                      go_roundw
                      case rel =>
                        refine ⟨bb + 1, by omega, by go_num, HB10.out, fun b' hb' => ?_⟩
                        rcases Nat.lt_or_ge b' bb with h1 | h1
                        · exact HNB.out b' h1
                        · obtain rfl : b' = bb := by omega
                          rintro ⟨x, y, hx, hy, hxy⟩
                          rw [HN.out] at hx
                          rw [HN2.out] at hy
                          obtain rfl := Option.some.inj hx
                          obtain rfl := Option.some.inj hy
                          rw [clash_no_touch2 HT2.out] at hxy
                          cases hxy
                      case measure => simp [intOf]; omega
                  · have t1' : inR k 1 3 = false := by simpa using t1
                    have HT1 := Lib.hid t1'
                    clear t1
                    go_wp2_with (first | (go_at_call 17; refine HNX.out.mono ?_; rintro e w7 ⟨rfl, hb7⟩; have hx7 := HXB.out.below hb7 HXB.out.lt; have hb8 := (HBEL.out.trans (hb7.mono HBEL.out.size)).alloc (by have := HBEL.out.size; have := hb7.size; omega) (.cells #[.int .i64 k2, .int .i64 r2, .int .i64 d2, .int .i64 v2] 40); have HB8 := Lib.hid hb8; have HB9 := Lib.hid (hb8.alloc hb8.size (.cells #[.int .i64 k, .int .i64 r, .int .i64 d, .int .i64 v] 40)); have HB10 := Lib.hid (HB9.out.alloc HB9.out.size (.cells #[.int .i64 k2, .int .i64 r2, .int .i64 d2, .int .i64 v2] 40)); have HX8 := Lib.hid (hx7.alloc (.cells #[.int .i64 k2, .int .i64 r2, .int .i64 d2, .int .i64 v2] 40)); have HY8 := Lib.hid (Block.made w7 40 #[.int .i64 k2, .int .i64 r2, .int .i64 d2, .int .i64 v2]); have HX9 := Lib.hid (HX8.out.alloc (.cells #[.int .i64 k, .int .i64 r, .int .i64 d, .int .i64 v] 40)); have HY9 := Lib.hid (HY8.out.alloc (.cells #[.int .i64 k, .int .i64 r, .int .i64 d, .int .i64 v] 40)); have HX10 := Lib.hid (HX9.out.alloc (.cells #[.int .i64 k2, .int .i64 r2, .int .i64 d2, .int .i64 v2] 40)); have HY10 := Lib.hid (HY9.out.alloc (.cells #[.int .i64 k2, .int .i64 r2, .int .i64 d2, .int .i64 v2] 40)); have x0 := (HX8.out.cell 0).trans rfl; have x1 := (HX8.out.cell 1).trans rfl; have x2 := (HX8.out.cell 2).trans rfl; have x3 := (HX8.out.cell 3).trans rfl; have x0p := (HX9.out.cell 0).trans rfl; have x1p := (HX9.out.cell 1).trans rfl; have x2p := (HX9.out.cell 2).trans rfl; have x3p := (HX9.out.cell 3).trans rfl; have x0q := (HX10.out.cell 0).trans rfl; have x1q := (HX10.out.cell 1).trans rfl; have x2q := (HX10.out.cell 2).trans rfl; have x3q := (HX10.out.cell 3).trans rfl; have y0 := (HY8.out.cell 0).trans rfl; have y1 := (HY8.out.cell 1).trans rfl; have y2 := (HY8.out.cell 2).trans rfl; have y3 := (HY8.out.cell 3).trans rfl; have y0p := (HY9.out.cell 0).trans rfl; have y1p := (HY9.out.cell 1).trans rfl; have y2p := (HY9.out.cell 2).trans rfl; have y3p := (HY9.out.cell 3).trans rfl; have y0q := (HY10.out.cell 0).trans rfl; have y1q := (HY10.out.cell 1).trans rfl; have y2q := (HY10.out.cell 2).trans rfl; have y3q := (HY10.out.cell 3).trans rfl; clear hb7 hx7 hb8) | (go_at_call 14; refine (reftouches_any ⟨k, r, d, v⟩ _).mono ?_; rw [t1']; rintro e w' ⟨rfl, rfl⟩))
                    go_roundw
                    case rel =>
                      refine ⟨bb + 1, by omega, by go_num, HB9.out, fun b' hb' => ?_⟩
                      rcases Nat.lt_or_ge b' bb with h1 | h1
                      · exact HNB.out b' h1
                      · obtain rfl : b' = bb := by omega
                        rintro ⟨x, y, hx, hy, hxy⟩
                        rw [HN.out] at hx
                        rw [HN2.out] at hy
                        obtain rfl := Option.some.inj hx
                        obtain rfl := Option.some.inj hy
                        rw [clash_no_touch1 HT1.out] at hxy
                        cases hxy
                    case measure => simp [intOf]; omega
              · obtain rfl : bb = h := by omega
                go_wp2
                go_roundw
                case rel =>
                  refine ⟨bb + 1, lv', cs', us', bs', ins1 L (r46 y2), by omega, by go_num, ?_, HST.out, HKN.out.put (by omega) HT.out, fun j s' hj hjs hs' => HNR.out j s' hj (by rwa [ins1_get (by omega)] at hjs) hs', HRR.out, by rw [ins1_get haL]; exact HY.out, fun p hp => ?_, fun a' ha' b' hb' => ?_⟩
                  · unfold ins1; split
                    · exact haL
                    · simp; omega
                  · rcases Nat.lt_or_ge p bb with h1 | h1
                    · exact (HRD.out.more (fun _ => ins1_mem)) p h1
                    · obtain rfl : p = bb := by omega
                      refine ⟨fun l hl _ => ?_, fun hq => absurd (HQN.out p) hq⟩
                      rw [HN.out] at hl
                      obtain rfl := Option.some.inj hl
                      rw [← HY2.out]
                      exact mem_ins1.2 (Or.inr rfl)
                  · rcases Nat.lt_or_ge a' bb with h1 | h1
                    · exact HNN.out a' h1 b' hb'
                    · obtain rfl : a' = bb := by omega
                      exact HNB.out b' hb'
                case measure => have := HHN.out; simp [intOf]; omega
        · have hhI : ¬ (h : Int) < hs.length := by omega
          obtain rfl : h = hs.length := by omega
          go_wp2
          go_roundw
          case rel =>
            refine ⟨a + 1, lv, cs, us, bs, L, by omega, by go_num, HST.out, HKN.out.done HSR.out HY.out HRD.out, fun j s' hj hjs hs' => ?_⟩
            rcases Nat.lt_or_ge j a with h1 | h1
            · exact HNR.out j s' h1 hjs hs'
            · obtain rfl : j = a := by omega
              rw [HY.out] at hjs
              rw [← r46_inj HW.out HSR.out hs' (Option.some.inj hjs)]
              exact HNN.out
          case measure => simp [intOf]; omega
    · have haI : ¬ (a : Int) < us.length := by omega
      have e : scRace hs = false := race_no HW.out HKN.out (by have := HUL.out; omega) HNR.out
      go_wp2
      go_ret
      exact ⟨rfl, HST.out.below⟩
end Go.Proofs.YthpnnmkpbkbanaaDoor
