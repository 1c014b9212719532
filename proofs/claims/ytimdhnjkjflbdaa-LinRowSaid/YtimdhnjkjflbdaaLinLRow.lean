/-
  LinRow: what is told is a good row; if any row is good there is one, and none ahead of it is.
-/
import Derived.Test.YtimdhnjkjflbdaaLinGood
import Derived.Test.YtimdhnjkjflbdaaLinFact
namespace Go.Proofs.Ytimdhnjkjflbdaa.Lin
open Go.RowKit

theorem errV_bad {ob : Int} {h : List LO} (e : lchk ob h ≠ 0) : errV 55 (lchk ob h) = .iface 55 (.int .i64 (lchk ob h)) := by
  rcases lchk_errs ob h with e2 | e2 | e2 | e2 | e2
  · exact absurd e2 e
  all_goals (rw [e2]; rfl)
/-- What good answers is so, or is not. -/
theorem good_true {ob : Nat} {h : List LO} {R : List Int} {f : FuncId} {args : Array Value} {w : World} (g : goodI ob h R) (hc : Calls Try.prog f args w fun e w' => GdT ob h R e ∧ Below w.heap.size w w') : Calls Try.prog f args w fun e w' => e = .returned (.bool true) ∧ Below w.heap.size w w' :=
  hc.mono fun _ _ ⟨⟨D, he, hd⟩, hb⟩ => ⟨by rw [he, hd.2 g], hb⟩
theorem good_false {ob : Nat} {h : List LO} {R : List Int} {f : FuncId} {args : Array Value} {w : World} (g : ¬ goodI ob h R) (hc : Calls Try.prog f args w fun e w' => GdT ob h R e ∧ Below w.heap.size w w') : Calls Try.prog f args w fun e w' => e = .returned (.bool false) ∧ Below w.heap.size w w' :=
  hc.mono fun _ _ ⟨⟨D, he, hd⟩, hb⟩ => ⟨by rw [he, show D = false from by cases D with | true => exact absurd (hd.1 rfl) g | false => rfl], hb⟩
/-- The places of numbers that are read. -/
theorem nums_at {w : World} {B : Nat} {A : Option Addr} {n c : Nat} {zs : List Int} (h : Nums w B (.slice A n c) zs) {k : Nat} (hk : k < zs.length) : ∃ b o, A = some ⟨b, o, none⟩ ∧ b < B ∧ w.cell? ⟨b, o + k, none⟩ = some (.int .i64 (zs.getD k 0)) := by
  obtain ⟨A', c', e, _, hf⟩ := h
  injection e with e1 _ _
  subst e1
  obtain ⟨b, o, e2, hb, hc⟩ := hf (by omega)
  exact ⟨b, o, e2, hb, hc k _ (by rw [getD_at hk]; exact List.getElem?_eq_getElem hk)⟩
theorem nums_form {w : World} {B : Nat} {v : Value} {zs : List Int} (h : Nums w B v zs) : ∃ A c, v = .slice A zs.length c ∧ zs.length ≤ 9223372036854775807 := by
  obtain ⟨A, c, e, hl, _⟩ := h
  exact ⟨A, c, e, hl⟩
set_option maxHeartbeats 8000000 in
set_option maxRecDepth 100000 in
theorem linrow_law (ob : Int) (v : Value) (h : List LO) (rv : Value) (R : List Int) (w : World) (hh : Ops w w.heap.size v h) (hr : Nums w w.heap.size rv R) :
    Calls Try.prog 6 #[.int .i64 ob, v, rv] w fun e w' => e = .returned (.bool true) ∧ Below w.heap.size w w' := by
  have HF := Lib.hid (linFact_any w)
  have HR := Lib.hid (fun (W : World) (hb : Below w.heap.size w W) => row_any ob h v W ((hh.below hb (Nat.le_refl _)).more hb.size))
  have HRN := Lib.hid (fun (W : World) (hb : Below w.heap.size w W) => (hr.below hb (Nat.le_refl _)).more hb.size)
  have HON := Lib.hid (fun (W : World) (hb : Below w.heap.size w W) => (hh.below hb (Nat.le_refl _)).more hb.size)
  by_cases h0 : lchk ob h = 0
  · have hf := lchk_zero.1 h0
    obtain ⟨o, rfl⟩ := Int.eq_ofNat_of_zero_le hf.o1
    have ho2 : o ≤ 2 := by have := hf.o2; omega
    rw [h0, show errV 55 ((0 : Nat) : Int) = .nilIface from rfl] at HR
    have HG := Lib.hid (fun (Q : List Int) (qv : Value) (W : World) (hb : Below w.heap.size w W) (hq : Nums W W.heap.size qv Q) => good_any o ho2 h hf.inb hf.len Q v qv W (HON.out W hb) hq)
    cases hL : lans (o : Int) h with
    | none =>
      have hng : ¬ goodI o h R := fun g => (lrowI_least hf g).1 hL
      rw [hL, lrowI_none hL, show (none : Option (List Nat)).isSome = false from rfl] at HR
      have HG2 := Lib.hid (fun (W : World) (hb : Below w.heap.size w W) => good_false hng (HG.out R rv W hb (HRN.out W hb)))
      clear hng hL HG hf h0 hh hr
      go_enter Try.func6, Try.ntmps6
      go_wp2_with (first | (go_at_call 26; (with_reducible refine HF.out.mono ?_); rintro e w1 ⟨rfl, hb1⟩; have HB1 := Lib.hid hb1; clear hb1) | (go_at_call 27; (with_reducible refine (HR.out _ HB1.out).mono ?_); rintro e w2 ⟨⟨u2, rfl, hn2⟩, hb2⟩; have HN2 := Lib.hid hn2; have HB2 := Lib.hid (HB1.out.trans (hb2.mono HB1.out.size)); obtain ⟨A2, c2, rfl, -⟩ := nums_form HN2.out; clear hn2 hb2) | (go_at_call 28; (with_reducible refine (HG2.out _ HB2.out).mono ?_); rintro e w3 ⟨rfl, hb3⟩; have HB3 := Lib.hid (HB2.out.trans (hb3.mono HB2.out.size)); clear hb3))
      go_ret
      exact ⟨rfl, HB3.out⟩
    | some L =>
      have hg := lrowI_good hf hL
      obtain ⟨Q, hQ⟩ : ∃ Q, Q = lrowI (o : Int) h := ⟨_, rfl⟩
      rw [← hQ] at HR hg
      rw [hL, show (some L).isSome = true from rfl] at HR
      have HG1 := Lib.hid (fun (qv : Value) (W : World) (hb : Below w.heap.size w W) (hq : Nums W W.heap.size qv Q) => good_true hg (HG.out Q qv W hb hq))
      have hQl : Q.length ≤ 8 := by have := hg.1; have := hf.len; omega
      by_cases hgr : goodI o h R
      · obtain ⟨-, h3, h4⟩ := lrowI_least hf hgr
        rw [← hQ] at h3 h4
        have HL := Lib.hid h4
        have H3 := Lib.hid h3
        have HG2 := Lib.hid (fun (W : World) (hb : Below w.heap.size w W) => good_true hgr (HG.out R rv W hb (HRN.out W hb)))
        have HRN2 := Lib.hid (fun (W : World) (hb : Below w.heap.size w W) => HRN.out W hb)
        obtain ⟨A, c, rfl, -⟩ := nums_form hr
        clear HG HRN hgr hg hL hQ h3 h4 hf h0 hh hr
        go_enter Try.func6, Try.ntmps6
        go_wp2_with (first | (go_at_call 26; (with_reducible refine HF.out.mono ?_); rintro e w1 ⟨rfl, hb1⟩; have HB1 := Lib.hid hb1; clear hb1) | (go_at_call 27; (with_reducible refine (HR.out _ HB1.out).mono ?_); rintro e w2 ⟨⟨u2, rfl, hn2⟩, hb2⟩; have HN2 := Lib.hid hn2; have HB2 := Lib.hid (HB1.out.trans (hb2.mono HB1.out.size)); obtain ⟨A2, c2, rfl, -⟩ := nums_form HN2.out; clear hn2 hb2) | (go_at_call 28; (with_reducible refine (HG1.out _ _ HB2.out HN2.out).mono ?_); rintro e w3 ⟨rfl, hb3⟩; have HN3 := Lib.hid ((HN2.out.below hb3 (Nat.le_refl _)).more hb3.size); have HB3 := Lib.hid (HB2.out.trans (hb3.mono HB2.out.size)); clear hb3) | (go_at_call 28; (with_reducible refine (HG2.out _ HB3.out).mono ?_); rintro e w4 ⟨rfl, hb4⟩; have HN4 := Lib.hid ((HN3.out.below hb4 (Nat.le_refl _)).more hb4.size); have HB4 := Lib.hid (HB3.out.trans (hb4.mono HB3.out.size)); clear hb4))
        go_loopw [11] (fun y wr => ∃ k : Nat, k ≤ Q.length ∧ y = .int .i64 k ∧ (∀ j, j < k → Q.getD j 0 = R.getD j 0) ∧ ∃ n, wr = w4.drewN n) (fun y _ => Q.length - (intOf y).toNat)
        case atStart => exact ⟨0, Nat.zero_le _, rfl, (fun j hj => absurd hj (Nat.not_lt_zero _)), 0, rfl⟩
        case round =>
          obtain ⟨k, hk, rfl, hz, n, hwr⟩ := hrel
          have HZ := Lib.hid hz; clear hz
          have HWC := Lib.hid (show ∀ p, wr.cell? p = w4.cell? p from fun p => by rw [hwr]; rfl)
          have HWR := Lib.hid hwr; clear hwr
          have HBW := Lib.hid (show Below w.heap.size w wr from HWR.out ▸ below_drewN HB4.out n)
          by_cases hlt : k < Q.length
          · obtain ⟨b1, o1, rfl, hb1, hc1⟩ := nums_at HN4.out hlt
            obtain ⟨b2, o2, rfl, hb2, hc2⟩ := nums_at (HRN2.out w4 HB4.out) (show k < R.length by have := H3.out; omega)
            have hkr : k < R.length := by have := H3.out; omega
            obtain ⟨x, hx⟩ : ∃ x, x = Q.getD k 0 := ⟨_, rfl⟩
            obtain ⟨y, hy⟩ : ∃ y, y = R.getD k 0 := ⟨_, rfl⟩
            have HLk := Lib.hid (HL.out k hkr HZ.out)
            rw [← hx] at hc1 HLk
            rw [← hy] at hc2 HLk
            have g1 := (HWC.out _).trans hc1
            have g2 := (HWC.out _).trans hc2
            have HXY := Lib.hid (show x = y → ∀ j, j < k + 1 → Q.getD j 0 = R.getD j 0 from fun e j hj => (if e2 : j = k then by rw [e2, ← hx, ← hy, e] else HZ.out j (by omega)))
            clear hx hy hc1 hc2
            by_cases e : x = y
            · have d : (x != y) = false := by simp [e]
              have HE := Lib.hid (HXY.out e)
              clear e HXY HLk
              go_wp2_with fail
              go_quiet (fail)
              go_wp2
              go_roundw
              case rel => exact ⟨k + 1, by omega, by go_num, HE.out, by rw [HWR.out]; first | exact ⟨_, rfl⟩ | exact ⟨_, drewN_drewN _ _ _⟩⟩
              case measure => simp [intOf]; omega
            · have d : (x != y) = true := by simp [e]
              have d2 : decide (x < y) = true := decide_eq_true (HLk.out e)
              clear e HXY HLk
              go_wp2_with fail
              go_quiet (fail)
              go_wp2_with fail
              go_quiet (fail)
              go_wp2
              go_ret
              exact ⟨rfl, below_drewN (below_drewN HBW.out _) _⟩
          · go_wp2
            go_ret
            exact ⟨rfl, HBW.out⟩
      · have HG2 := Lib.hid (fun (W : World) (hb : Below w.heap.size w W) => good_false hgr (HG.out R rv W hb (HRN.out W hb)))
        clear HG hgr hg hL hQ hf h0 hh hr
        go_enter Try.func6, Try.ntmps6
        go_wp2_with (first | (go_at_call 26; (with_reducible refine HF.out.mono ?_); rintro e w1 ⟨rfl, hb1⟩; have HB1 := Lib.hid hb1; clear hb1) | (go_at_call 27; (with_reducible refine (HR.out _ HB1.out).mono ?_); rintro e w2 ⟨⟨u2, rfl, hn2⟩, hb2⟩; have HN2 := Lib.hid hn2; have HB2 := Lib.hid (HB1.out.trans (hb2.mono HB1.out.size)); obtain ⟨A2, c2, rfl, -⟩ := nums_form HN2.out; clear hn2 hb2) | (go_at_call 28; (with_reducible refine (HG1.out _ _ HB2.out HN2.out).mono ?_); rintro e w3 ⟨rfl, hb3⟩; have HB3 := Lib.hid (HB2.out.trans (hb3.mono HB2.out.size)); clear hb3) | (go_at_call 28; (with_reducible refine (HG2.out _ HB3.out).mono ?_); rintro e w4 ⟨rfl, hb4⟩; have HB4 := Lib.hid (HB3.out.trans (hb4.mono HB3.out.size)); clear hb4))
        go_ret
        exact ⟨rfl, HB4.out⟩
  · have HN := Lib.hid (lans_bad h0)
    rw [errV_bad h0, HN.out, lrowI_none HN.out, show (none : Option (List Nat)).isSome = false from rfl] at HR
    clear h0 hh hr
    go_enter Try.func6, Try.ntmps6
    go_wp2_with (first | (go_at_call 26; (with_reducible refine HF.out.mono ?_); rintro e w1 ⟨rfl, hb1⟩; have HB1 := Lib.hid hb1; clear hb1) | (go_at_call 27; (with_reducible refine (HR.out _ HB1.out).mono ?_); rintro e w2 ⟨⟨u2, rfl, hn2⟩, hb2⟩; have HN2 := Lib.hid hn2; have HB2 := Lib.hid (HB1.out.trans (hb2.mono HB1.out.size)); obtain ⟨A2, c2, rfl, -⟩ := nums_form HN2.out; clear hn2 hb2))
    go_ret
    exact ⟨rfl, HB2.out⟩
end Go.Proofs.Ytimdhnjkjflbdaa.Lin
