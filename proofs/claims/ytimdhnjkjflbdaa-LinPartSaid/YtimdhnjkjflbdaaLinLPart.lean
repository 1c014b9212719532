/-
  LinPart: what ends well began well.
-/
import Derived.Test.YtimdhnjkjflbdaaLinApp
import Derived.Test.YtimdhnjkjflbdaaLinIn
import Derived.Test.YtimdhnjkjflbdaaLinFact
namespace Go.Proofs.Ytimdhnjkjflbdaa.Lin
open Go.RowKit

/-- Those of the first i ops that p picks. -/
def fl (h : List LO) (i : Nat) (p : Nat → Bool) : List LO := ((List.range i).filter p).map (lat h)
theorem fl_len {h : List LO} {k : Nat} {p : Nat → Bool} : (fl h k p).length ≤ k := by
  unfold fl
  rw [List.length_map]
  have := List.length_filter_le p (List.range k)
  simpa using this
theorem fl_yes {h : List LO} {i : Nat} {p : Nat → Bool} (e : p i = true) : fl h (i + 1) p = fl h i p ++ [lat h i] := by
  unfold fl
  rw [List.range_succ, List.filter_append, List.map_append]
  simp [e]
theorem fl_no {h : List LO} {i : Nat} {p : Nat → Bool} (e : p i = false) : fl h (i + 1) p = fl h i p := by
  unfold fl
  rw [List.range_succ, List.filter_append, List.map_append]
  simp [e]
/-- All but z. -/
def nz (z : Nat) : Nat → Bool := fun j => decide (j ≠ z)
theorem nums_last {w : World} {B : Nat} {v : Value} {A : List Nat} {z : Nat} (h : Nums w B v ((A ++ [z]).map Int.ofNat)) :
    ∃ b o c, v = .slice (some ⟨b, o, none⟩) (A.length + 1) c ∧ b < B ∧ w.cell? ⟨b, o + A.length, none⟩ = some (.int .i64 (z : Int)) := by
  obtain ⟨X, c, e, _, hf⟩ := h
  obtain ⟨b, o, rfl, hb, hc⟩ := hf (by simp)
  refine ⟨b, o, c, by rw [e]; simp, hb, hc A.length _ (by simp)⟩
set_option maxHeartbeats 16000000 in
set_option maxRecDepth 100000 in
theorem linpart_law (ob : Int) (v : Value) (h : List LO) (t : Int) (w : World) (hh : Ops w w.heap.size v h) :
    Calls Try.prog 7 #[.int .i64 ob, v, .int .i64 t] w fun e w' => e = .returned (.bool true) ∧ Below w.heap.size w w' := by
  have HF := Lib.hid (linFact_any w)
  have HR := Lib.hid (fun (W : World) (hb : Below w.heap.size w W) => row_any ob h v W ((hh.below hb (Nat.le_refl _)).more hb.size))
  have HRA := Lib.hid (fun (W : World) (k : List LO) (u : Value) (hk : Ops W W.heap.size u k) => row_any ob k u W hk)
  have HI := Lib.hid in_any
  by_cases h0 : lchk ob h = 0
  · have hf := lchk_zero.1 h0
    obtain ⟨o, rfl⟩ := Int.eq_ofNat_of_zero_le hf.o1
    rw [h0, show errV 55 ((0 : Nat) : Int) = .nilIface from rfl] at HR
    cases hL : lans (o : Int) h with
    | none =>
      rw [hL, lrowI_none hL, show (none : Option (List Nat)).isSome = false from rfl] at HR
      clear hL hf h0 hh
      go_enter Try.func7, Try.ntmps7
      go_wp2_with (first | (go_at_call 26; (with_reducible refine HF.out.mono ?_); rintro e w1 ⟨rfl, hb1⟩; have HB1 := Lib.hid hb1; clear hb1) | (go_at_call 27; (with_reducible refine (HR.out _ HB1.out).mono ?_); rintro e w2 ⟨⟨u2, rfl, hn2⟩, hb2⟩; have HB2 := Lib.hid (HB1.out.trans (hb2.mono HB1.out.size)); obtain ⟨A2, c2, rfl, -⟩ := nums_form hn2; clear hn2 hb2))
      go_ret
      exact ⟨rfl, HB2.out⟩
    | some L =>
      have HLE := Lib.hid (lrowI_some hL)
      rw [HLE.out, hL, show (some L).isSome = true from rfl] at HR
      obtain ⟨A, c, rfl, ⟨hc1, hc2⟩, -⟩ := id hh
      have hl8 := hf.len
      have HO := Lib.hid (fun (k : Nat) (hk : k < h.length) => hh.at_ hk)
      have HPA := Lib.hid (fun ht => part_early (t := t) hf hL ht)
      rw [show ((List.range h.length).filter fun i => decide ((lat h i).to ≤ t)).map (lat h) = fl h h.length fun j => decide ((lat h j).to ≤ t) from rfl] at HPA
      rcases List.eq_nil_or_concat L with e0 | ⟨A0, z, e0⟩
      · subst e0
        clear hL hf h0 hh
        go_enter Try.func7, Try.ntmps7
        go_wp2_with (first | (go_at_call 26; (with_reducible refine HF.out.mono ?_); rintro e w1 ⟨rfl, hb1⟩; have HB1 := Lib.hid hb1; clear hb1) | (go_at_call 27; (with_reducible refine (HR.out _ HB1.out).mono ?_); rintro e w5 ⟨⟨u2, rfl, hn2⟩, hb2⟩; have HB5 := Lib.hid (HB1.out.trans (hb2.mono HB1.out.size)); obtain ⟨A2, c2, rfl, -⟩ := nums_form hn2; clear hn2 hb2))
        go_loopw [16] (fun y wr => ∃ i : Nat, i ≤ h.length ∧ y = .int .i64 i ∧ (∀ j, j < i → ¬ ((lat h j).fr < t ∧ t < (lat h j).to)) ∧ w5 = wr) (fun y _ => h.length - (intOf y).toNat)
        case atStart => exact ⟨0, Nat.zero_le _, rfl, (fun j hj => absurd hj (Nat.not_lt_zero _)), rfl⟩
        case round =>
          obtain ⟨i, hi, rfl, hz, rfl⟩ := hrel
          have HZ := Lib.hid hz; clear hz
          by_cases hlt : i < h.length
          · obtain ⟨b, off, hA, hb, c0, c1, c2, c3, c4, c5⟩ := HO.out i hlt
            subst hA
            have g0 := (HB5.out.cell (p := ⟨b, off + i * 6, none⟩) hb).trans c0
            have g1 := (HB5.out.cell (p := ⟨b, off + i * 6 + 1, none⟩) hb).trans c1
            have g2 := (HB5.out.cell (p := ⟨b, off + i * 6 + 2, none⟩) hb).trans c2
            have g3 := (HB5.out.cell (p := ⟨b, off + i * 6 + 3, none⟩) hb).trans c3
            have g4 := (HB5.out.cell (p := ⟨b, off + i * 6 + 4, none⟩) hb).trans c4
            have g5 := (HB5.out.cell (p := ⟨b, off + i * 6 + 5, none⟩) hb).trans c5
            clear c0 c1 c2 c3 c4 c5
            by_cases e1 : (lat h i).fr < t
            · have d1 : decide ((lat h i).fr < t) = true := decide_eq_true e1
              by_cases e2 : t < (lat h i).to
              · have d2 : decide (t < (lat h i).to) = true := decide_eq_true e2
                clear e1 e2
                go_wp2
                go_ret
                exact ⟨rfl, HB5.out⟩
              · have d2 : decide (t < (lat h i).to) = false := decide_eq_false e2
                have HN := Lib.hid (show ¬ ((lat h i).fr < t ∧ t < (lat h i).to) from fun c => e2 c.2)
                clear e1 e2
                go_wp2
                go_roundw
                case rel => exact ⟨i + 1, by omega, by go_num, fun j hj => (if e : j = i then e ▸ HN.out else HZ.out j (by omega)), by first | trivial | rfl⟩
                case measure => simp [intOf]; omega
            · have d1 : decide ((lat h i).fr < t) = false := decide_eq_false e1
              have HN := Lib.hid (show ¬ ((lat h i).fr < t ∧ t < (lat h i).to) from fun c => e1 c.1)
              clear e1
              go_wp2
              go_roundw
              case rel => exact ⟨i + 1, by omega, by go_num, fun j hj => (if e : j = i then e ▸ HN.out else HZ.out j (by omega)), by first | trivial | rfl⟩
              case measure => simp [intOf]; omega
          · have HPE := Lib.hid (HPA.out fun j hj => HZ.out j (by omega))
            go_wp2
            go_loopw [17, 18] (fun vx y wr => ∃ i : Nat, i ≤ h.length ∧ y = .int .i64 i ∧ HG 34 wr w5.heap.size vx (fl h i fun j => decide ((lat h j).to ≤ t)) ∧ Below w5.heap.size w5 wr) (fun _ y _ => h.length - (intOf y).toNat)
            case atStart => exact ⟨0, Nat.zero_le _, rfl, HG.nil _ _ _, Below.refl _ _⟩
            case round =>
              obtain ⟨i, hi, rfl, hg, hbw⟩ := hrel
              have HGG := Lib.hid hg; clear hg
              have HBW := Lib.hid hbw; clear hbw
              have HS := Lib.hid HBW.out.size
              have HBX := Lib.hid (HB5.out.trans (HBW.out.mono HB5.out.size))
              by_cases hlt : i < h.length
              · obtain ⟨b, off, hA, hb, c0, c1, c2, c3, c4, c5⟩ := HO.out i hlt
                subst hA
                have g0 := (HBX.out.cell (p := ⟨b, off + i * 6, none⟩) hb).trans c0
                have g1 := (HBX.out.cell (p := ⟨b, off + i * 6 + 1, none⟩) hb).trans c1
                have g2 := (HBX.out.cell (p := ⟨b, off + i * 6 + 2, none⟩) hb).trans c2
                have g3 := (HBX.out.cell (p := ⟨b, off + i * 6 + 3, none⟩) hb).trans c3
                have g4 := (HBX.out.cell (p := ⟨b, off + i * 6 + 4, none⟩) hb).trans c4
                have g5 := (HBX.out.cell (p := ⟨b, off + i * 6 + 5, none⟩) hb).trans c5
                clear c0 c1 c2 c3 c4 c5
                by_cases e1 : (lat h i).to ≤ t
                · have d1 : decide ((lat h i).to ≤ t) = true := decide_eq_true e1
                  have HFL := Lib.hid (fl_yes (h := h) (i := i) (p := fun j => decide ((lat h j).to ≤ t)) d1)
                  clear e1
                  go_wp2_with (at_builtin; refine wpList_append_op wr rfl (.tmp 124) (.tmp 129) rfl w5.heap.size _ (fl h i fun j => decide ((lat h j).to ≤ t)) rfl rfl (lat h i) HGG.out (by have := fl_len (h := h) (k := i) (p := fun j => decide ((lat h j).to ≤ t)); omega) HS.out ?_; intro q cap w6 hg6 ht6; have HG6 := Lib.hid hg6; have HT6 := Lib.hid ht6; clear hg6 ht6)
                  go_roundw
                  case rel => exact ⟨i + 1, by omega, by go_num, by rw [HFL.out]; exact HG6.out, HBW.out.trans (HT6.out.below HBW.out.size fun k hk => (HGG.out.lt hk).1)⟩
                  case measure => simp [intOf]; omega
                · have d1 : decide ((lat h i).to ≤ t) = false := decide_eq_false e1
                  have HFL := Lib.hid (fl_no (h := h) (i := i) (p := fun j => decide ((lat h j).to ≤ t)) d1)
                  clear e1
                  go_wp2
                  go_roundw
                  case rel => exact ⟨i + 1, by omega, by go_num, by rw [HFL.out]; exact HGG.out, HBW.out⟩
                  case measure => simp [intOf]; omega
              · rw [show i = h.length by omega] at HGG
                have HRB := Lib.hid (HRA.out _ _ _ HGG.out.ops)
                have hp := HPE.out
                rw [lchk_zero.2 hp.1, show errV 55 ((0 : Nat) : Int) = .nilIface from rfl, show (lans (o : Int) (fl h h.length fun j => decide ((lat h j).to ≤ t))).isSome = true from Option.isSome_iff_ne_none.2 hp.2] at HRB
                clear hp
                go_wp2_with (go_at_call 27; (with_reducible refine HRB.out.mono ?_); rintro e w7 ⟨⟨u7, rfl, hn7⟩, hb7⟩; have HB7 := Lib.hid (HBX.out.trans (hb7.mono HBX.out.size)); clear hn7 hb7)
                go_ret
                exact ⟨rfl, HB7.out⟩
      · rw [List.concat_eq_append] at e0
        subst e0
        obtain ⟨hz, hp1, hp2⟩ := part_less hf hL
        have HPL := Lib.hid (show LFine (o : Int) (fl h h.length (nz z)) ∧ lans (o : Int) (fl h h.length (nz z)) ≠ none from ⟨hp1, hp2⟩)
        have d0 : inR (z : Int) 0 ((h.length : Int) - 1) = true := inR_true.2 (by omega)
        generalize hN : A0.length = N0 at *
        have HNL := Lib.hid hN
        have hA8 : N0 ≤ 8 := by
          have e2 := hL
          rw [lans_fine hf] at e2
          have g := lrow_good e2
          have := len_all g.nod g.all
          simp at this
          omega
        clear hp1 hp2 hL hf h0 hh hN
        go_enter Try.func7, Try.ntmps7
        go_wp2_with (first | (go_at_call 26; (with_reducible refine HF.out.mono ?_); rintro e w1 ⟨rfl, hb1⟩; have HB1 := Lib.hid hb1; clear hb1) | (go_at_call 27; (with_reducible refine (HR.out _ HB1.out).mono ?_); rintro e w2 ⟨⟨u2, rfl, hn2⟩, hb2⟩; have HB2 := Lib.hid (HB1.out.trans (hb2.mono HB1.out.size)); obtain ⟨rb, ro, c2, rfl, hrb, hrz⟩ := nums_last hn2; rw [HNL.out] at hrz ⊢; clear hn2 hb2) | (go_at_call 29; (with_reducible refine (HI.out _ _ _ _).mono ?_); rintro e w3 ⟨rfl, rfl⟩))
        go_loopw [11, 12] (fun vx y wr => ∃ i : Nat, i ≤ h.length ∧ y = .int .i64 i ∧ HG 34 wr w2.heap.size vx (fl h i (nz z)) ∧ Below w2.heap.size w2 wr) (fun _ y _ => h.length - (intOf y).toNat)
        case atStart => exact ⟨0, Nat.zero_le _, rfl, HG.nil _ _ _, Below.refl _ _⟩
        case round =>
          obtain ⟨i, hi, rfl, hg, hbw⟩ := hrel
          have HGG := Lib.hid hg; clear hg
          have HBW := Lib.hid hbw; clear hbw
          have HS := Lib.hid HBW.out.size
          have HBX := Lib.hid (HB2.out.trans (HBW.out.mono HB2.out.size))
          by_cases hlt : i < h.length
          · obtain ⟨b, off, hA, hb, c0, c1, c2', c3, c4, c5⟩ := HO.out i hlt
            subst hA
            have g0 := (HBX.out.cell (p := ⟨b, off + i * 6, none⟩) hb).trans c0
            have g1 := (HBX.out.cell (p := ⟨b, off + i * 6 + 1, none⟩) hb).trans c1
            have g2 := (HBX.out.cell (p := ⟨b, off + i * 6 + 2, none⟩) hb).trans c2'
            have g3 := (HBX.out.cell (p := ⟨b, off + i * 6 + 3, none⟩) hb).trans c3
            have g4 := (HBX.out.cell (p := ⟨b, off + i * 6 + 4, none⟩) hb).trans c4
            have g5 := (HBX.out.cell (p := ⟨b, off + i * 6 + 5, none⟩) hb).trans c5
            clear c0 c1 c2' c3 c4 c5
            have hrw := (HBW.out.cell (p := ⟨rb, ro + N0, none⟩) hrb).trans hrz
            by_cases e1 : i = z
            · have d1 : ((i : Int) != (z : Int)) = false := by simp [e1]
              have HFL := Lib.hid (fl_no (h := h) (i := i) (p := nz z) (by simp [nz, e1]))
              subst e1
              go_wp2
              go_roundw
              case rel => exact ⟨i + 1, by omega, by go_num, by rw [HFL.out]; exact HGG.out, HBW.out⟩
              case measure => simp [intOf]; omega
            · have d1 : ((i : Int) != (z : Int)) = true := by simp; omega
              have HFL := Lib.hid (fl_yes (h := h) (i := i) (p := nz z) (by simp [nz, e1]))
              clear e1
              go_wp2_with (at_builtin; refine wpList_append_op wr rfl (.tmp 69) (.tmp 74) rfl w2.heap.size _ (fl h i (nz z)) rfl rfl (lat h i) HGG.out (by have := fl_len (h := h) (k := i) (p := nz z); omega) HS.out ?_; intro q cap w6 hg6 ht6; have HG6 := Lib.hid hg6; have HT6 := Lib.hid ht6; clear hg6 ht6)
              go_roundw
              case rel => exact ⟨i + 1, by omega, by go_num, by rw [HFL.out]; exact HG6.out, HBW.out.trans (HT6.out.below HBW.out.size fun k hk => (HGG.out.lt hk).1)⟩
              case measure => simp [intOf]; omega
          · rw [show i = h.length by omega] at HGG
            have HRB := Lib.hid (HRA.out _ _ _ HGG.out.ops)
            have hp := HPL.out
            rw [lchk_zero.2 hp.1, show errV 55 ((0 : Nat) : Int) = .nilIface from rfl, show (lans (o : Int) (fl h h.length (nz z))).isSome = true from Option.isSome_iff_ne_none.2 hp.2] at HRB
            clear hp
            go_wp2_with (go_at_call 27; (with_reducible refine HRB.out.mono ?_); rintro e w5 ⟨⟨u5, rfl, hn5⟩, hb5⟩; have HB5 := Lib.hid (HBX.out.trans (hb5.mono HBX.out.size)); clear hn5 hb5)
            go_loopw [16] (fun y wr => ∃ i : Nat, i ≤ h.length ∧ y = .int .i64 i ∧ (∀ j, j < i → ¬ ((lat h j).fr < t ∧ t < (lat h j).to)) ∧ w5 = wr) (fun y _ => h.length - (intOf y).toNat)
            case atStart => exact ⟨0, Nat.zero_le _, rfl, (fun j hj => absurd hj (Nat.not_lt_zero _)), rfl⟩
            case round =>
              obtain ⟨i, hi, rfl, hz, rfl⟩ := hrel
              have HZ := Lib.hid hz; clear hz
              by_cases hlt : i < h.length
              · obtain ⟨b, off, hA, hb, c0, c1, c2, c3, c4, c5⟩ := HO.out i hlt
                subst hA
                have g0 := (HB5.out.cell (p := ⟨b, off + i * 6, none⟩) hb).trans c0
                have g1 := (HB5.out.cell (p := ⟨b, off + i * 6 + 1, none⟩) hb).trans c1
                have g2 := (HB5.out.cell (p := ⟨b, off + i * 6 + 2, none⟩) hb).trans c2
                have g3 := (HB5.out.cell (p := ⟨b, off + i * 6 + 3, none⟩) hb).trans c3
                have g4 := (HB5.out.cell (p := ⟨b, off + i * 6 + 4, none⟩) hb).trans c4
                have g5 := (HB5.out.cell (p := ⟨b, off + i * 6 + 5, none⟩) hb).trans c5
                clear c0 c1 c2 c3 c4 c5
                by_cases e1 : (lat h i).fr < t
                · have d1 : decide ((lat h i).fr < t) = true := decide_eq_true e1
                  by_cases e2 : t < (lat h i).to
                  · have d2 : decide (t < (lat h i).to) = true := decide_eq_true e2
                    clear e1 e2
                    go_wp2
                    go_ret
                    exact ⟨rfl, HB5.out⟩
                  · have d2 : decide (t < (lat h i).to) = false := decide_eq_false e2
                    have HN := Lib.hid (show ¬ ((lat h i).fr < t ∧ t < (lat h i).to) from fun c => e2 c.2)
                    clear e1 e2
                    go_wp2
                    go_roundw
                    case rel => exact ⟨i + 1, by omega, by go_num, fun j hj => (if e : j = i then e ▸ HN.out else HZ.out j (by omega)), by first | trivial | rfl⟩
                    case measure => simp [intOf]; omega
                · have d1 : decide ((lat h i).fr < t) = false := decide_eq_false e1
                  have HN := Lib.hid (show ¬ ((lat h i).fr < t ∧ t < (lat h i).to) from fun c => e1 c.1)
                  clear e1
                  go_wp2
                  go_roundw
                  case rel => exact ⟨i + 1, by omega, by go_num, fun j hj => (if e : j = i then e ▸ HN.out else HZ.out j (by omega)), by first | trivial | rfl⟩
                  case measure => simp [intOf]; omega
              · have HPE := Lib.hid (HPA.out fun j hj => HZ.out j (by omega))
                go_wp2
                go_loopw [17, 18] (fun vx y wr => ∃ i : Nat, i ≤ h.length ∧ y = .int .i64 i ∧ HG 34 wr w5.heap.size vx (fl h i fun j => decide ((lat h j).to ≤ t)) ∧ Below w5.heap.size w5 wr) (fun _ y _ => h.length - (intOf y).toNat)
                case atStart => exact ⟨0, Nat.zero_le _, rfl, HG.nil _ _ _, Below.refl _ _⟩
                case round =>
                  obtain ⟨i, hi, rfl, hg, hbw⟩ := hrel
                  have HGG := Lib.hid hg; clear hg
                  have HBW := Lib.hid hbw; clear hbw
                  have HS := Lib.hid HBW.out.size
                  have HBX := Lib.hid (HB5.out.trans (HBW.out.mono HB5.out.size))
                  by_cases hlt : i < h.length
                  · obtain ⟨b, off, hA, hb, c0, c1, c2, c3, c4, c5⟩ := HO.out i hlt
                    subst hA
                    have g0 := (HBX.out.cell (p := ⟨b, off + i * 6, none⟩) hb).trans c0
                    have g1 := (HBX.out.cell (p := ⟨b, off + i * 6 + 1, none⟩) hb).trans c1
                    have g2 := (HBX.out.cell (p := ⟨b, off + i * 6 + 2, none⟩) hb).trans c2
                    have g3 := (HBX.out.cell (p := ⟨b, off + i * 6 + 3, none⟩) hb).trans c3
                    have g4 := (HBX.out.cell (p := ⟨b, off + i * 6 + 4, none⟩) hb).trans c4
                    have g5 := (HBX.out.cell (p := ⟨b, off + i * 6 + 5, none⟩) hb).trans c5
                    clear c0 c1 c2 c3 c4 c5
                    by_cases e1 : (lat h i).to ≤ t
                    · have d1 : decide ((lat h i).to ≤ t) = true := decide_eq_true e1
                      have HFL := Lib.hid (fl_yes (h := h) (i := i) (p := fun j => decide ((lat h j).to ≤ t)) d1)
                      clear e1
                      go_wp2_with (at_builtin; refine wpList_append_op wr rfl (.tmp 124) (.tmp 129) rfl w5.heap.size _ (fl h i fun j => decide ((lat h j).to ≤ t)) rfl rfl (lat h i) HGG.out (by have := fl_len (h := h) (k := i) (p := fun j => decide ((lat h j).to ≤ t)); omega) HS.out ?_; intro q cap w6 hg6 ht6; have HG6 := Lib.hid hg6; have HT6 := Lib.hid ht6; clear hg6 ht6)
                      go_roundw
                      case rel => exact ⟨i + 1, by omega, by go_num, by rw [HFL.out]; exact HG6.out, HBW.out.trans (HT6.out.below HBW.out.size fun k hk => (HGG.out.lt hk).1)⟩
                      case measure => simp [intOf]; omega
                    · have d1 : decide ((lat h i).to ≤ t) = false := decide_eq_false e1
                      have HFL := Lib.hid (fl_no (h := h) (i := i) (p := fun j => decide ((lat h j).to ≤ t)) d1)
                      clear e1
                      go_wp2
                      go_roundw
                      case rel => exact ⟨i + 1, by omega, by go_num, by rw [HFL.out]; exact HGG.out, HBW.out⟩
                      case measure => simp [intOf]; omega
                  · rw [show i = h.length by omega] at HGG
                    have HRB := Lib.hid (HRA.out _ _ _ HGG.out.ops)
                    have hp := HPE.out
                    rw [lchk_zero.2 hp.1, show errV 55 ((0 : Nat) : Int) = .nilIface from rfl, show (lans (o : Int) (fl h h.length fun j => decide ((lat h j).to ≤ t))).isSome = true from Option.isSome_iff_ne_none.2 hp.2] at HRB
                    clear hp
                    go_wp2_with (go_at_call 27; (with_reducible refine HRB.out.mono ?_); rintro e w7 ⟨⟨u7, rfl, hn7⟩, hb7⟩; have HB7 := Lib.hid (HBX.out.trans (hb7.mono HBX.out.size)); clear hn7 hb7)
                    go_ret
                    exact ⟨rfl, HB7.out⟩
  · have HN := Lib.hid (lans_bad h0)
    rw [errV_bad h0, HN.out, lrowI_none HN.out, show (none : Option (List Nat)).isSome = false from rfl] at HR
    clear h0 hh
    go_enter Try.func7, Try.ntmps7
    go_wp2_with (first | (go_at_call 26; (with_reducible refine HF.out.mono ?_); rintro e w1 ⟨rfl, hb1⟩; have HB1 := Lib.hid hb1; clear hb1) | (go_at_call 27; (with_reducible refine (HR.out _ HB1.out).mono ?_); rintro e w2 ⟨⟨u2, rfl, hn2⟩, hb2⟩; have HB2 := Lib.hid (HB1.out.trans (hb2.mono HB1.out.size)); obtain ⟨A2, c2, rfl, -⟩ := nums_form hn2; clear hn2 hb2))
    go_ret
    exact ⟨rfl, HB2.out⟩
end Go.Proofs.Ytimdhnjkjflbdaa.Lin
