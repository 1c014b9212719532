/-
  LinWide: what took longer may have happened as well.
-/
import Derived.Test.YtimdhnjkjflbdaaDoorLinOps
import Derived.Test.YtimdhnjkjflbdaaDoorLinIn
import Derived.Test.YtimdhnjkjflbdaaDoorLinFact
import Derived.Test.YtimdhnjkjflbdaaDoorAs2
namespace Go.Proofs.YtimdhnjkjflbdaaDoor.Lin
open Go.RowKit

set_option maxHeartbeats 8000000 in
set_option maxRecDepth 100000 in
theorem linwide_law (ob : Int) (v : Value) (h : List LO) (i from' to' : Int) (w : World) (hh : Ops w w.heap.size v h) (hg : ErrVar w) :
    Calls Tryd.prog 4 #[.int .i64 ob, v, .int .i64 i, .int .i64 from', .int .i64 to'] w fun e w' => e = .returned (.bool true) ∧ Below w.heap.size w w' := by
  have HF := Lib.hid (linFact_any w)
  have HR := Lib.hid (fun (W : World) (hb : Below w.heap.size w W) => row_any ob h v W ((hh.below hb (Nat.le_refl _)).more hb.size))
  have HRA := Lib.hid (fun (W : World) (k : List LO) (u : Value) (hk : Ops W W.heap.size u k) => row_any ob k u W hk)
  have HI := Lib.hid in_any
  by_cases h0 : lchk ob h = 0
  · have hf := lchk_zero.1 h0
    obtain ⟨o, rfl⟩ := Int.eq_ofNat_of_zero_le hf.o1
    rw [h0, show errV 40 ((0 : Nat) : Int) = .nilIface from rfl] at HR
    cases hL : lans (o : Int) h with
    | none =>
      rw [hL, lrowI_none hL, show (none : Option (List Nat)).isSome = false from rfl] at HR
      clear hL hf h0 hh
      go_enter Tryd.func4, Tryd.ntmps4
      go_wp2_with (first | (go_at_call 11; (with_reducible refine HF.out.mono ?_); rintro e w1 ⟨rfl, hb1⟩; have HB1 := Lib.hid hb1; clear hb1) | (go_at_call 9; (with_reducible refine (HR.out _ HB1.out).mono ?_); rintro e w2 ⟨⟨u2, rfl, hn2⟩, hb2⟩; have HB2 := Lib.hid (HB1.out.trans (hb2.mono HB1.out.size)); clear hn2 hb2))
      go_ret
      exact ⟨rfl, HB2.out⟩
    | some L =>
      rw [hL, show (some L).isSome = true from rfl] at HR
      obtain ⟨A, c, rfl, ⟨hc1, hc2⟩, -⟩ := id hh
      have hl8 := hf.len
      by_cases hi : 0 ≤ i ∧ i ≤ (h.length : Int) - 1
      · obtain ⟨k, rfl⟩ := Int.eq_ofNat_of_zero_le hi.1
        have hk : k < h.length := by omega
        have d1 : inR (k : Int) 0 ((h.length : Int) - 1) = true := inR_true.2 hi
        obtain ⟨b, off, rfl, hb, -, -, -, -, c4, c5⟩ := hh.at_ hk
        have HC4 := Lib.hid c4; have HC5 := Lib.hid c5
        clear c4 c5 hi
        by_cases hfr : 0 ≤ from' ∧ from' ≤ (lat h k).fr
        · have d2 : inR from' 0 (lat h k).fr = true := inR_true.2 hfr
          by_cases hto : (lat h k).to ≤ to' ∧ to' ≤ 1000
          · have d3 : inR to' (lat h k).to 1000 = true := inR_true.2 hto
            have HCE := Lib.hid (fun (W : World) (hW : Below w.heap.size w W) => ops_cells (hh.below hW (Nat.le_refl _)))
            have HWC := Lib.hid (wide_chk hf hk hfr.1 hfr.2 hto.1 hto.2)
            have HWR := Lib.hid (fun f' => wide_row hf hL hk hfr.2 hto.1 f')
            obtain ⟨h', hh'⟩ : ∃ h', h' = h.set k { lat h k with fr := from', «to» := to' } := ⟨_, rfl⟩
            rw [← hh'] at HWC HWR
            have HH' := Lib.hid hh'
            have HHF := Lib.hid hf
            obtain ⟨i0, hi0, hz0, hz1, hz2⟩ := info_parts Top.info
            have hg2 := hg.lt
            clear hh' hfr hto hL hf h0 hh
            go_enter Tryd.func4, Tryd.ntmps4
            go_upto_region 9 with (first | (go_at_call 11; (with_reducible refine HF.out.mono ?_); rintro e w1 ⟨rfl, hb1⟩; have HB1 := Lib.hid hb1; clear hb1) | (go_at_call 9; (with_reducible refine (HR.out _ HB1.out).mono ?_); rintro e w2 ⟨⟨u2, rfl, hn2⟩, hb2⟩; have HB2 := Lib.hid (HB1.out.trans (hb2.mono HB1.out.size)); have k4 := (HB2.out.cell (p := ⟨b, off + k * 6 + 4, none⟩) hb).trans HC4.out; have k5 := (HB2.out.cell (p := ⟨b, off + k * 6 + 5, none⟩) hb).trans HC5.out; clear hn2 hb2) | (go_at_call 12; (with_reducible refine (HI.out _ _ _ _).mono ?_); rintro e w3 ⟨rfl, rfl⟩) | (at_builtin; refine wpList_append_lies _ rfl (.tmp 69) (.tmp 70) 22 rfl w.heap.size 38 i0 (.agg #[.int .i64 0, .int .i64 0, .int .i64 0, .int .i64 0, .int .i64 0, .int .i64 0]) 6 48 Tryd.underlying22 hi0 hz0 hz1 hz2 rfl (by omega) (.slice none 0 0) 0 [] rfl (World.ownsRow_nil _ _ _ _) ⟨b, off, none⟩ h.length c (lcells h) rfl (by rw [lcells_len]) (HCE.out _ HB2.out) lcells_one (by omega) (by unfold maxLen; omega) (by omega) HB2.out.size w2.heap.size rfl ?_; intro q cap w3 hown hgrow hat hlt; have HO3 := Lib.hid hown; have HB3 := Lib.hid (HB2.out.grown hgrow HB2.out.size fun k hk => by cases hk); clear hown hgrow hat hlt))
            have hw3 : HG 38 w3 w.heap.size (.slice (some ⟨q, 0, none⟩) h.length cap) h := ⟨by have := HO3.out; rwa [Nat.zero_add, List.nil_append] at this⟩
            have q4 := hw3.cell rfl hk (k := 4) rfl
            have q5 := hw3.cell rfl hk (k := 5) rfl
            have f4 := hw3.free rfl (k * 6 + 4)
            have f5 := hw3.free rfl (k * 6 + 5)
            have hp1 := hw3.put rfl hk (k := 4) (z := from') (o' := { lat h k with fr := from' }) (by omega) rfl
            have hp2 := hp1.put rfl (i := k) (k := 5) (z := to') (o' := { lat h k with fr := from', «to» := to' }) (by rw [List.length_set]; exact hk) (by omega) (by rw [lat_set, if_pos ⟨rfl, hk⟩]; rfl)
            rw [List.set_set, ← HH'.out] at hp2
            have hq := hw3.lt (k := q) rfl
            have HOP := Lib.hid hp2.ops
            have HB4 := Lib.hid ((HB3.out.setCell (p := ⟨q, k * 6 + 4, none⟩) hq.1 (.int .i64 from')).setCell (p := ⟨q, k * 6 + 5, none⟩) hq.1 (.int .i64 to'))
            have HRB := Lib.hid (HRA.out _ h' _ HOP.out)
            clear hp1 hp2 hw3
            by_cases hc0 : lchk (o : Int) h' = 0
            · have hne := HWR.out (lchk_zero.1 hc0)
              rw [hc0, show errV 40 ((0 : Nat) : Int) = .nilIface from rfl, show (lans (o : Int) h').isSome = true from Option.isSome_iff_ne_none.2 hne] at HRB
              clear hc0 hne
              go_wp2_with (go_at_call 9; (with_reducible refine HRB.out.mono ?_); rintro e w5 ⟨⟨u5, rfl, hn5⟩, hb5⟩; have HB5 := Lib.hid (HB4.out.trans (hb5.mono HB4.out.size)); clear hn5 hb5)
              go_ret
              exact ⟨rfl, HB5.out⟩
            · have hc6 : lchk (o : Int) h' = 6 := HWC.out.resolve_left hc0
              rw [hc6, show errV 40 ((6 : Nat) : Int) = .iface 40 (.int .i64 6) from rfl] at HRB
              have HER := Lib.hid (fun (W : World) (hW : Below w.heap.size w W) => errorIs_any 6 6 W (hg.below hW hg2))
              rw [show errV 40 6 = .iface 40 (.int .i64 6) from rfl, show decide ((6 : Int) = 6) = true from rfl] at HER
              clear hc0 hc6
              go_wp2_with (first | (go_at_call 9; (with_reducible refine HRB.out.mono ?_); rintro e w5 ⟨⟨u5, rfl, hn5⟩, hb5⟩; have HB5 := Lib.hid (HB4.out.trans (hb5.mono HB4.out.size)); clear hn5 hb5) | (go_at_call 6; (with_reducible refine (HER.out _ HB5.out).mono ?_); rintro e w6 ⟨rfl, hb6⟩; have HB6 := Lib.hid (HB5.out.trans (hb6.mono HB5.out.size)); clear hb6))
              go_ret
              exact ⟨rfl, HB6.out⟩
          · have d3 : inR to' (lat h k).to 1000 = false := inR_false.2 hto
            clear hto hfr hL hf h0 hh
            go_enter Tryd.func4, Tryd.ntmps4
            go_wp2_with (first | (go_at_call 11; (with_reducible refine HF.out.mono ?_); rintro e w1 ⟨rfl, hb1⟩; have HB1 := Lib.hid hb1; clear hb1) | (go_at_call 9; (with_reducible refine (HR.out _ HB1.out).mono ?_); rintro e w2 ⟨⟨u2, rfl, hn2⟩, hb2⟩; have HB2 := Lib.hid (HB1.out.trans (hb2.mono HB1.out.size)); have k4 := (HB2.out.cell (p := ⟨b, off + k * 6 + 4, none⟩) hb).trans HC4.out; have k5 := (HB2.out.cell (p := ⟨b, off + k * 6 + 5, none⟩) hb).trans HC5.out; clear hn2 hb2) | (go_at_call 12; (with_reducible refine (HI.out _ _ _ _).mono ?_); rintro e w3 ⟨rfl, rfl⟩))
            go_ret
            exact ⟨rfl, HB2.out⟩
        · have d2 : inR from' 0 (lat h k).fr = false := inR_false.2 hfr
          clear hfr hL hf h0 hh
          go_enter Tryd.func4, Tryd.ntmps4
          go_wp2_with (first | (go_at_call 11; (with_reducible refine HF.out.mono ?_); rintro e w1 ⟨rfl, hb1⟩; have HB1 := Lib.hid hb1; clear hb1) | (go_at_call 9; (with_reducible refine (HR.out _ HB1.out).mono ?_); rintro e w2 ⟨⟨u2, rfl, hn2⟩, hb2⟩; have HB2 := Lib.hid (HB1.out.trans (hb2.mono HB1.out.size)); have k4 := (HB2.out.cell (p := ⟨b, off + k * 6 + 4, none⟩) hb).trans HC4.out; have k5 := (HB2.out.cell (p := ⟨b, off + k * 6 + 5, none⟩) hb).trans HC5.out; clear hn2 hb2) | (go_at_call 12; (with_reducible refine (HI.out _ _ _ _).mono ?_); rintro e w3 ⟨rfl, rfl⟩))
          go_ret
          exact ⟨rfl, HB2.out⟩
      · have d1 : inR i 0 ((h.length : Int) - 1) = false := inR_false.2 hi
        clear hi hL hf h0 hh
        go_enter Tryd.func4, Tryd.ntmps4
        go_wp2_with (first | (go_at_call 11; (with_reducible refine HF.out.mono ?_); rintro e w1 ⟨rfl, hb1⟩; have HB1 := Lib.hid hb1; clear hb1) | (go_at_call 9; (with_reducible refine (HR.out _ HB1.out).mono ?_); rintro e w2 ⟨⟨u2, rfl, hn2⟩, hb2⟩; have HB2 := Lib.hid (HB1.out.trans (hb2.mono HB1.out.size)); clear hn2 hb2) | (go_at_call 12; (with_reducible refine (HI.out _ _ _ _).mono ?_); rintro e w3 ⟨rfl, rfl⟩))
        go_ret
        exact ⟨rfl, HB2.out⟩
  · have HN := Lib.hid (lans_bad h0)
    rw [errV_bad h0, HN.out, lrowI_none HN.out, show (none : Option (List Nat)).isSome = false from rfl] at HR
    clear h0 hh
    go_enter Tryd.func4, Tryd.ntmps4
    go_wp2_with (first | (go_at_call 11; (with_reducible refine HF.out.mono ?_); rintro e w1 ⟨rfl, hb1⟩; have HB1 := Lib.hid hb1; clear hb1) | (go_at_call 9; (with_reducible refine (HR.out _ HB1.out).mono ?_); rintro e w2 ⟨⟨u2, rfl, hn2⟩, hb2⟩; have HB2 := Lib.hid (HB1.out.trans (hb2.mono HB1.out.size)); clear hn2 hb2))
    go_ret
    exact ⟨rfl, HB2.out⟩
end Go.Proofs.YtimdhnjkjflbdaaDoor.Lin
