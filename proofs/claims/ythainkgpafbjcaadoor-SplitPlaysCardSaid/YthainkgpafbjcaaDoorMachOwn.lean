/-
  The reference's machine: what own answers: a number of a hand's own is another one.
-/
import Derived.Test.YthainkgpafbjcaaDoorMachNew
import Derived.Deep.DeepCutAuto
namespace Go.Proofs.YthainkgpafbjcaaDoor
open Go.RowKit

/-- The rows as values. -/
theorem rws_vals {w : World} {P : Nat → Prop} {b o : Nat} : ∀ (os : List (List Int)) (k : Nat), (∀ (i : Nat) l, os[i]? = some l → ∃ u, w.cell? ⟨b, o + (k + i), none⟩ = some u ∧ NumsP w P u l) →
    ∃ us : List Value, us.length = os.length ∧ (∀ (i : Nat) u, us[i]? = some u → w.cell? ⟨b, o + (k + i), none⟩ = some u) ∧ ∀ (i : Nat) u l, us[i]? = some u → os[i]? = some l → NumsP w P u l
  | [], k, _ => ⟨[], rfl, fun i u h => by simp at h, fun i u l h => by simp at h⟩
  | x :: r, k, h => by
    obtain ⟨u, hu, hn⟩ := h 0 x rfl
    obtain ⟨us, h1, h2, h3⟩ := rws_vals r (k + 1) fun i l hl => by
      have := h (i + 1) l (by simpa using hl)
      rwa [show k + (i + 1) = k + 1 + i by omega] at this
    refine ⟨u :: us, by simp [h1], fun i v hv => ?_, fun i v l hv hl => ?_⟩
    · cases i with
      | zero => simp at hv; subst hv; exact hu
      | succ i => rw [show k + (i + 1) = k + 1 + i by omega]; exact h2 i v (by simpa using hv)
    · cases i with
      | zero => simp at hv hl; subst hv hl; exact hn
      | succ i => exact h3 i v l (by simpa using hv) (by simpa using hl)
theorem vals_add {w : World} {b o : Nat} {us : List Value} (h : ∀ (i : Nat) u, us[i]? = some u → w.cell? ⟨b, o + (0 + i), none⟩ = some u) :
    ∀ (j : Nat) u, us[j]? = some u → w.cell? ((⟨b, o, none⟩ : Addr).add j) = some u := fun j u hu => by
  have := h j u hu
  rw [Nat.zero_add] at this
  unfold Addr.add
  by_cases h0 : j = 0
  · subst h0; simpa using this
  · simpa [h0] using this
/-- A row of values of the call's own: where it lies. -/
theorem vals_own {w : World} {base e : Nat} {v : Value} {us : List Value} {n : Nat} (h : w.ownsRow base e 1 v n us) (h0 : 0 < n) :
    ∃ g cap cur, v = .slice (some ⟨g, 0, none⟩) n cap ∧ base ≤ g ∧ g < w.heap.size ∧ Block w g e cur ∧ ∀ (i : Nat) u, us[i]? = some u → cur[i]? = some u := by
  rcases h.2 with ⟨rfl, h1⟩ | ⟨g, cap, cur, rfl, hb, hh, hc, _, hsz, htk⟩
  · omega
  · have hB : Block w g e cur := hh
    refine ⟨g, cap, cur, rfl, hb, hB.lt, hB, fun i u hu => ?_⟩
    have hi : i < us.length := (List.getElem?_eq_some_iff.1 hu).1
    have h1 := h.1
    have h2 : (cur.toList.take (n * 1))[i]? = some u := by rw [htk]; exact hu
    rw [List.getElem?_take, if_pos (by omega)] at h2
    simpa using h2

/-- Rows in a block of the call's own, with one of them laid anew in another one. -/
theorem rws_turned {w : World} {P : Nat → Prop} {g cap p : Nat} {cur : Array Value} {us : List Value} {os : List (List Int)} {l' : List Int} {u' : Value} {e : Nat} (hB : Block w g e (cur.setIfInBounds p u')) (hl : us.length = os.length) (hm : os.length ≤ 9223372036854775807)
    (hc : ∀ (i : Nat) u, us[i]? = some u → cur[i]? = some u) (hu : ∀ (i : Nat) u l, us[i]? = some u → os[i]? = some l → NumsP w P u l) (hp : p < os.length) (hn : NumsP w P u' l') (hg : P g) : RwsP w P (.slice (some ⟨g, 0, none⟩) os.length cap) (os.set p l') := by
  refine ⟨_, _, by rw [List.length_set], by simpa using hm, fun _ => ⟨g, 0, rfl, hg, fun i l hi => ?_⟩⟩
  rw [Nat.zero_add, hB.cell i]
  have hi2 : i < os.length := by have := (List.getElem?_eq_some_iff.1 hi).1; simpa using this
  obtain ⟨u, hu1⟩ : ∃ u, us[i]? = some u := ⟨us[i], List.getElem?_eq_getElem (by omega)⟩
  have hcu := hc i u hu1
  by_cases h1 : p = i
  · subst h1
    rw [List.getElem?_set_self hp] at hi
    obtain rfl := Option.some.inj hi
    have hsz : p < cur.size := (Array.getElem?_eq_some_iff.1 hcu).1
    exact ⟨u', by rw [Array.getElem?_setIfInBounds_self, if_pos hsz], hn⟩
  · rw [List.getElem?_set_ne h1] at hi
    exact ⟨u, by rw [Array.getElem?_setIfInBounds_ne h1]; exact hcu, hu i u l hu1 hi⟩

set_option maxHeartbeats 4000000 in
set_option maxRecDepth 100000 in
theorem own_any (n : Int) (v : Value) (ws ls : List Int) (os : List (List Int)) (p i : Nat) (z : Int) (l : List Int) (w : World) {P : Nat → Prop} (hP : ∀ b, P b → b < w.heap.size) (h : Mc w P n v ws ls os) (hl : os[p]? = some l) (hi : i < l.length) (hll : l.length ≤ 1000) (hol : os.length ≤ 1000) :
    Calls Tryd.prog 17 #[v, .int .i64 p, .int .i64 i, .int .i64 z] w fun e w' => ∃ v', e = .returned v' ∧ Mc w' (New P w w') n v' ws ls (os.set p (l.set i z)) ∧ Below w.heap.size w w' := by
  have hp : p < os.length := (List.getElem?_eq_some_iff.1 hl).1
  obtain ⟨i1, hi1, hy0, hy1, hy2⟩ := info_parts Trow.info
  obtain ⟨wv, av, ov, rfl, h1, h2, h3⟩ := h
  have HF := Lib.hid (MBox.made (x3 := ov) (n := n) w _ (h1.nums hP) (h2.nums hP) rfl)
  have H1 := Lib.hid h1
  have H2 := Lib.hid h2
  have HP := Lib.hid hP
  obtain ⟨A1, c1, rfl, hl1, _⟩ := h1
  obtain ⟨A2, c2, rfl, hl2, _⟩ := h2
  obtain ⟨A3, c3, rfl, hl3, h3⟩ := h3
  obtain ⟨b, o, rfl, hpb, hcell⟩ := h3 (by omega)
  have hbw := hP b hpb
  obtain ⟨us, hul, huc, hun⟩ := rws_vals (w := w) (P := P) (b := b) (o := o) os 0 (fun i l hl => by rw [Nat.zero_add]; exact hcell i l hl)
  obtain ⟨up, hup⟩ : ∃ u, us[p]? = some u := ⟨us[p], List.getElem?_eq_getElem (by omega)⟩
  have hnp := hun p up l hup hl
  have HUC := Lib.hid huc
  have HUN := Lib.hid hun
  have HUP := Lib.hid hup
  have HNP := Lib.hid hnp
  obtain ⟨Ap, cp, rfl, hlp, _⟩ := hnp
  clear h3 hcell huc hun hup hP
  go_enter Tryd.func17, Tryd.ntmps17
  go_upto_region 1 with fail
  obtain ⟨V, hV⟩ : ∃ V, V = (w.alloc (.cells #[.int .i64 n, .slice A1 ws.length c1, .slice A2 ls.length c2, .slice (some ⟨b, o, none⟩) os.length c3] 31)).alloc (.cells #[.int .i64 0, .slice none 0 0, .slice none 0 0, .slice none 0 0] 31) := ⟨_, rfl⟩
  rw [← hV] at HF
  rw [← hV]
  obtain ⟨h, hh⟩ : ∃ h, h = w.heap.size := ⟨_, rfl⟩
  have HF' := Lib.hid (show MBox w V h n _ _ _ ws ls by rw [hh]; exact HF.out)
  rw [← hh]
  clear hV hh HF
  have HUV := Lib.hid (show ∀ (i : Nat) u, us[i]? = some u → V.cell? ⟨b, o + (0 + i), none⟩ = some u from fun i u hu => (HF'.out.below.cell (p := ⟨b, o + (0 + i), none⟩) hbw).trans (HUC.out i u hu))
  obtain ⟨q0, q1, q2, q3⟩ := HF'.out.cells
  have hpl : ∀ u ∈ us, u.oneCell' = true := by
    intro u hu
    obtain ⟨k, hk⟩ := List.getElem?_of_mem hu
    obtain ⟨l2, hl2⟩ : ∃ l2, os[k]? = some l2 := ⟨os[k]'(by have := (List.getElem?_eq_some_iff.1 hk).1; omega), List.getElem?_eq_getElem _⟩
    obtain ⟨Ak, ck, rfl, _⟩ := HUN.out k u l2 hk hl2
    rfl
  have HPL := Lib.hid hpl
  clear hpl
  have hpI : (p : Int) < os.length := by omega
  go_wp2_with (first | (at_builtin; refine wpList_append_own _ rfl (.tmp 10) (.tmp 12) 29 rfl V.heap.size 22 i1 (.slice none 0 0) 1 24 Tryd.underlying29 hi1 hy0 hy1 hy2 rfl (by decide) _ _ _ rfl (World.ownsRow_nil _ _ _ _) ⟨b, o, none⟩ os.length c3 us rfl (by omega) (vals_add HUV.out) HPL.out (by unfold maxLen; omega) (by omega) (Nat.le_refl _) ?_; intro v2 w2 hown2 hg2 _; have hb2 := (Below.refl V.heap.size V).grown hg2 (Nat.le_refl _) (fun q hq => by cases hq); obtain ⟨g, cap, cur, rfl, hbg, hgs, hB2, hcur⟩ := vals_own (n := os.length) (us := us) (by simpa using hown2) (by omega); obtain ⟨z0, z1, z2, z3⟩ := (HF'.out.on hb2).cells; have hcp := (hb2.cell (p := ⟨b, o + (0 + p), none⟩) (Nat.lt_of_lt_of_le hbw HF'.out.below.size)).trans (HUV.out p _ HUP.out); rw [Nat.zero_add] at hcp; have HB2 := Lib.hid hb2; have HBl2 := Lib.hid hB2; have HCU := Lib.hid hcur; clear hown2 hg2 hb2 hB2 hcur) | (go_at_call 22; refine (set_any l _ w2.heap.size i z w2 ((HNP.out.keep (P' := fun q => q < w2.heap.size) (fun q hq => Nat.lt_of_lt_of_le (HP.out q hq) (Nat.le_trans HF'.out.below.size HB2.out.size)) (fun q hq => (HB2.out.cell (Nat.lt_of_lt_of_le (HP.out _ hq) HF'.out.below.size)).trans (HF'.out.below.cell (HP.out _ hq))))) hi hll).mono ?_; rintro e w3 ⟨g3, cap3, rfl, hg30, hg31, hr3, hb3⟩; have HR3 := Lib.hid hr3; have HB3 := Lib.hid hb3; have hB3 := HBl2.out.below hb3 hgs; have k0 := (hB3.cell p).trans (HCU.out p _ HUP.out); have k1 := hB3.free p; have HBl3 := Lib.hid hB3; have HG := Lib.hid (HF'.out.on (HB2.out.trans (hb3.mono HB2.out.size))); obtain ⟨y0, y1, y2, y3⟩ := HG.out.cells; obtain ⟨x0, x1, x2, x3⟩ := HG.out.room; obtain ⟨u0, u1, u2, u3, u4, u5, u6⟩ := HG.out.frees; have hgh : g ≠ h := Nat.ne_of_gt (Nat.lt_of_lt_of_le HF'.out.one.lt hbg); have hgh1 : g ≠ h + 1 := Nat.ne_of_gt (Nat.lt_of_lt_of_le HF'.out.two.lt hbg); have hhg : h ≠ g := hgh.symm; have hhg1 : h + 1 ≠ g := hgh1.symm; clear hr3 hb3 hB3))
  have hb5 : Below V.heap.size V (w3.setCell ⟨g, p, none⟩ (.slice (some ⟨g3, 0, none⟩) l.length cap3)) := (HB2.out.trans (HB3.out.mono HB2.out.size)).setCell hbg _
  obtain ⟨hB, hbel⟩ := (HF'.out.on hb5).told 3 (.slice (some ⟨g, 0, none⟩) os.length cap) (.slice A1 ws.length c1) (.slice A2 ls.length c2) (.slice (some ⟨g, 0, none⟩) os.length cap)
  have hg3g : g ≠ g3 := Nat.ne_of_lt (Nat.lt_of_lt_of_le hgs hg30)
  have hg3h : h ≠ g3 := Nat.ne_of_lt (Nat.lt_trans (Nat.lt_of_lt_of_le HF'.out.one.lt hbg) (Nat.lt_of_lt_of_le hgs hg30))
  have hg3h1 : h + 1 ≠ g3 := Nat.ne_of_lt (Nat.lt_trans (Nat.lt_of_lt_of_le HF'.out.two.lt hbg) (Nat.lt_of_lt_of_le hgs hg30))
  have hBg := (((((HBl3.out.put p (.slice (some ⟨g3, 0, none⟩) l.length cap3)).far (p := ⟨h, 3, none⟩) hgh (.slice (some ⟨g, 0, none⟩) os.length cap)).far (p := ⟨h + 1, 0, none⟩) hgh1 (.int .i64 n)).far (p := ⟨h + 1, 1, none⟩) hgh1 (.slice A1 ws.length c1)).far (p := ⟨h + 1, 2, none⟩) hgh1 (.slice A2 ls.length c2)).far (p := ⟨h + 1, 3, none⟩) hgh1 (.slice (some ⟨g, 0, none⟩) os.length cap)
  have hRg := (((((HR3.out.far (p := ⟨g, p, none⟩) hg3g (.slice (some ⟨g3, 0, none⟩) l.length cap3)).far (p := ⟨h, 3, none⟩) hg3h (.slice (some ⟨g, 0, none⟩) os.length cap)).far (p := ⟨h + 1, 0, none⟩) hg3h1 (.int .i64 n)).far (p := ⟨h + 1, 1, none⟩) hg3h1 (.slice A1 ws.length c1)).far (p := ⟨h + 1, 2, none⟩) hg3h1 (.slice A2 ls.length c2)).far (p := ⟨h + 1, 3, none⟩) hg3h1 (.slice (some ⟨g, 0, none⟩) os.length cap)
  have hg3w : w.heap.size ≤ g3 := Nat.le_trans (Nat.le_trans HF'.out.below.size (Nat.le_trans hbg (Nat.le_of_lt hgs))) hg30
  have hgw : w.heap.size ≤ g := Nat.le_trans HF'.out.below.size hbg
  have hgs3 : g < w3.heap.size := Nat.lt_trans (Nat.lt_of_lt_of_le hgs hg30) hg31
  refine bodyPost_ret (v := .agg #[.int .i64 n, .slice A1 ws.length c1, .slice A2 ls.length c2, .slice (some ⟨g, 0, none⟩) os.length cap]) (results_cell_row rfl _ _ (h + 1) 31 _ (0, 0) _ rfl hB Tryd.underlying31 rfl (by kernel_rfl)) rfl
    ⟨_, rfl, ⟨_, _, _, rfl, H1.out.keep (fun _ => Or.inl) (fun _ hp => hbel.cell (HP.out _ hp)), H2.out.keep (fun _ => Or.inl) (fun _ hp => hbel.cell (HP.out _ hp)), ?_⟩, hbel⟩
  exact rws_turned hBg hul hl3 HCU.out (fun i u l h1 h2 => (HUN.out i u l h1 h2).keep (fun _ => Or.inl) (fun _ hp => hbel.cell (HP.out _ hp))) hp (hRg.numsP (by simp) hlp (Or.inr ⟨hg3w, by simpa [World.setCell] using hg31⟩)) (Or.inr ⟨hgw, by simpa [World.setCell] using hgs3⟩)
end Go.Proofs.YthainkgpafbjcaaDoor
