/-
  The walk of latchgarthlaw1.ScIdle: it answers true, whatever the program.
-/
import Derived.Test.YtkohobbjnafljabScFact
import Derived.Test.YtkohobbjnafljabScLaws
import Derived.BigRegion
import Derived.Deep.DeepCutAuto
namespace Go.Proofs.Ytkohobbjnafljab
open Go.RowKit

theorem Tll.info : (Try.prog.info? 22).map (fun i => (i.zero, i.size, i.bytes)) = some (some (.slice none 0 0), 1, 24) := by kernel_rfl
theorem heads_of {w : World} {B b o : Nat} {hs : List (List Ln)} (hc : ∀ (i : Nat) l, hs[i]? = some l → ∃ u, w.cell? ⟨b, o + i, none⟩ = some u ∧ Lines w B u l) :
    ∃ us : List Value, us.length = hs.length ∧ (∀ j u, us[j]? = some u → w.cell? ((⟨b, o, none⟩ : Addr).add j) = some u ∧ u.oneCell' = true) ∧ ∀ (i : Nat) l, hs[i]? = some l → ∃ u, us[i]? = some u ∧ Lines w B u l := by
  induction hs generalizing o with
  | nil => exact ⟨[], rfl, by simp, by simp⟩
  | cons x r ih =>
    obtain ⟨us, h1, h2, h3⟩ := ih (o := o + 1) (fun i l hi => by
      have := hc (i + 1) l (by simpa using hi)
      rwa [show o + (i + 1) = o + 1 + i by omega] at this)
    obtain ⟨u, hu, hL⟩ := hc 0 x rfl
    refine ⟨u :: us, by simp [h1], fun j v hv => ?_, fun i l hi => ?_⟩
    · cases j with
      | zero =>
        simp at hv
        subst hv
        refine ⟨by rw [Addr.add_lit]; exact hu, ?_⟩
        obtain ⟨A, c, rfl, _⟩ := hL
        rfl
      | succ j =>
        have := h2 j v (by simpa using hv)
        rw [Addr.add_lit] at this ⊢
        rwa [show o + (j + 1) = o + 1 + j by omega]
    · cases i with
      | zero => simp at hi; subst hi; exact ⟨u, rfl, hL⟩
      | succ i =>
        obtain ⟨v, e1, e2⟩ := h3 i l (by simpa using hi)
        exact ⟨v, by simpa using e1, e2⟩
theorem hands_of_own {w : World} {base e : Nat} {v : Value} {us : List Value} {hs : List (List Ln)} (h : w.ownsRow base e 1 v us.length us) (h0 : 0 < us.length) (hl : us.length = hs.length) (hm : us.length ≤ 9223372036854775807)
    (hL : ∀ (i : Nat) l, hs[i]? = some l → ∃ u, us[i]? = some u ∧ Lines w w.heap.size u l) : Hands w w.heap.size v hs := by
  rcases h.2 with ⟨rfl, hn⟩ | ⟨g, cap, cur, rfl, hb, hh, hc, _, _, _⟩
  · omega
  · refine ⟨_, _, by rw [hl], by omega, fun _ => ⟨g, 0, rfl, (h.lt g rfl).2, fun i l hi => ?_⟩⟩
    obtain ⟨u, e1, e2⟩ := hL i l hi
    have := h.cells (g := g) rfl i u e1
    rw [Addr.add_lit] at this
    exact ⟨u, this, e2⟩
theorem lines_nil (w : World) (B : Nat) : Lines w B (.slice none 0 0) [] := ⟨none, 0, rfl, by simp, fun h => by simp at h⟩

section
variable {P : Program}
/-- append whose run is known. -/
theorem wpList_append_run {ops : Array Oper} {rest : List Oper} {o : Oper} {a : Act} {w : World} {Q : Exit → Act → World → Prop} (hgd : o.guard = none) (s x : Operand) (t : TypeId)
    (ho : o.op = .call { callee := .builtin .append, args := #[s, x], argTypes := #[t, t] }) (v u : Value) (hs : a.eval s = v) (hx : a.eval x = u) (v' : Value) (w' : World)
    (hrun : (Builtin.append_ #[t, t] o.type #[v, u]).run P w = .ok v' w') (h : wpList P ops Q rest (a.put o.dst v') w') : wpList P ops Q (o :: rest) a w := by
  refine wpList_plain hgd fun K hK => ?_
  unfold Oper.wp
  simp [execOp, ho, resolve, invoke, builtin, hs, hx, hrun, Result.andThen]
  exact hK _ _ h
theorem run_append_nils (w : World) (t ty e : TypeId) (i : TypeInfo) (ht : P.underlying t = some (.slice e)) (hi : P.info? e = some i) (c : Nat) :
    (Builtin.append_ #[t, t] ty #[.slice none 0 0, .slice none 0 c]).run P w = .ok (.slice none 0 0) w := by
  simp [Builtin.append_, run_underlying ht, sizeOf, typeInfo, hi, Builtin.lenOf, Builtin.firstCells]
end

theorem own_touch {O : Nat → Prop} {w w' : World} {base e size n : Nat} {v : Value} {xs : List Value} (h : w.ownsRow base e size v n xs) (k : Touch O w w') (hn : ∀ g, v.ownBlock = some g → ¬ O g) : w'.ownsRow base e size v n xs := by
  refine ⟨h.1, ?_⟩
  rcases h.2 with h' | ⟨g, cap, cur, rfl, hb, hh, r⟩
  · exact Or.inl h'
  · exact Or.inr ⟨g, cap, cur, rfl, hb, (k.block g (h.lt g rfl).2 (hn g rfl)).trans hh, r⟩
theorem own_form {w : World} {base e size n : Nat} {v : Value} {xs : List Value} (h : w.ownsRow base e size v n xs) : ∃ A c, v = .slice A n c := by
  rcases h.2 with ⟨rfl, rfl⟩ | ⟨g, cap, cur, rfl, _⟩
  · exact ⟨none, 0, rfl⟩
  · exact ⟨_, _, rfl⟩
/-- Behind the first append: block g holds the program that is being made, its hands are those of the first one. -/
def Id7 (g : Nat) (words : Int) (hs : List (List Ln)) (w wx : World) : Prop :=
  ∃ v us, Block wx g 26 #[.int .i64 words, v] ∧ wx.ownsRow (g + 1) 22 1 v us.length us ∧ us.length = hs.length ∧
    (∀ (i : Nat) l, hs[i]? = some l → ∃ u, us[i]? = some u ∧ Lines wx g u l) ∧ Below g w wx ∧ g < wx.heap.size

/-- Behind the second one: the hands are those and one more that has no lines. -/
def Id8 (g : Nat) (words : Int) (hs : List (List Ln)) (w wx : World) : Prop :=
  ∃ A n c, Block wx g 26 #[.int .i64 words, .slice A n c] ∧ Hands wx wx.heap.size (.slice A n c) (hs ++ [[]]) ∧ Below g w wx ∧ g < wx.heap.size

theorem idle_ms (words : Int) (hs : List (List Ln)) : ∃ ms, ms = scR words (hs ++ [[]]) := ⟨scR words (hs ++ [[]]), rfl⟩
/-- A row of numbers of the call's own. -/
def OwnI (w0 wx : World) (t : Value) (zs : List Int) : Prop :=
  ∃ A c, t = .slice A zs.length c ∧ wx.ownsRow w0.heap.size 3 1 (.slice A zs.length c) zs.length (zs.map (Value.int .i64)) ∧ Below w0.heap.size w0 wx
theorem idle_at (x : List Int) (k : Nat) : x.take k ++ [0, 0] ++ x.drop k = idleT k x := by rw [idleT, List.append_assoc]
theorem map_one (zs : List Int) : ∀ u ∈ zs.map (Value.int .i64), u.oneCell' = true := by
  intro u hu
  obtain ⟨q, _, rfl⟩ := List.mem_map.1 hu
  rfl

set_option maxRecDepth 100000 in
set_option maxHeartbeats 4000000 in
theorem idle_law (words : Int) (hv : Value) (hs : List (List Ln)) (w : World) (hh : Hands w w.heap.size hv hs) :
    Calls Try.prog 4 #[.agg #[.int .i64 words, hv]] w fun e w' => e = .returned (.bool true) ∧ Below w.heap.size w w' := by
  have HH := Lib.hid hh
  obtain ⟨A, c, rfl, hlen, hh⟩ := hh
  have b0 := Block.made w 26 #[.int .i64 words, .slice A hs.length c]
  have HB0 := Lib.hid b0
  have hbe : Below w.heap.size w (w.alloc (.cells #[.int .i64 words, .slice A hs.length c] 26)) := (Below.refl _ _).alloc (Nat.le_refl _) _
  have HBE := Lib.hid hbe
  clear b0 hbe
  go_enter Try.func4, Try.ntmps4
  go_wp2_with fail
  refine (scFact_any _).mono ?_
  rintro e w1 ⟨rfl, hb1⟩
  have b1 := HB0.out.below hb1 HB0.out.lt
  have c0 := b1.cell 0
  have c1 := b1.cell 1
  simp at c0 c1
  have HBE1 := Lib.hid (HBE.out.trans (hb1.mono HBE.out.size))
  have HB1 := Lib.hid b1
  have hgl := b1.lt
  have hbh := HBE1.out.size
  clear hb1 b1 HB0 HBE
  by_cases hl2 : hs.length ≤ 2
  · have i2 : ¬ (2 : Int) < (hs.length : Int) := by omega
    have HBW := Lib.hid (HH.out.below HBE1.out (Nat.le_refl _))
    go_upto_region 7 with fail
    obtain ⟨i0, hi, hz0, hz1, hz2⟩ := info_parts Tll.info
    go_cut [] (fun wx => Id7 w1.heap.size words hs w1 wx)
    case first =>
      obtain ⟨W, hW⟩ : ∃ W, W = w1.alloc (.cells #[.int .i64 words, .slice none 0 0] 26) := ⟨_, rfl⟩
      have hown0 := World.ownsRow_nil W (w1.heap.size + 1) 22 1
      have bW : Block W w1.heap.size 26 #[.int .i64 words, .slice none 0 0] := by rw [hW]; exact Block.made _ _ _
      have hWs : W.heap.size = w1.heap.size + 1 := by rw [hW]; simp
      have hWb : Below w1.heap.size w1 W := by rw [hW]; exact (Below.refl _ _).alloc (Nat.le_refl _) _
      have d0 := (hWb.cell (p := ⟨w.heap.size, 1, none⟩) hgl).trans c1
      have d1 := bW.cell 1
      have d2 := bW.free 1
      simp at d1
      have HOWN := Lib.hid hown0
      have BW := Lib.hid bW
      have HWS := Lib.hid hWs
      have HWB := Lib.hid hWb
      rw [← hW]
      clear hW hown0 bW hWs hWb c0 c1
      cases A with
      | none =>
        have h0 : hs = [] := by
          cases hs with
          | nil => rfl
          | cons x r =>
            obtain ⟨b, o, e, _⟩ := hh (by simp)
            cases e
        subst h0
        go_wp2_with (at_builtin; refine wpList_append_run rfl (.tmp 27) (.tmp 29) 24 rfl _ _ rfl rfl (.slice none 0 0) W (run_append_nils W _ _ 22 i0 Try.underlying24 hi c) ?_)
        go_meet
        exact ⟨.slice none 0 0, [], (BW.out.put 1 _), World.ownsRow_nil _ _ _ _, rfl, by simp, HWB.out.setCell (p := ⟨w1.heap.size, 1, none⟩) (Nat.le_refl _) _, by simp [World.setCell, HWS.out]⟩
      | some ad =>
        have hWw : Below w.heap.size w W := HBE1.out.trans (HWB.out.mono hbh)
        have hus : ∃ us : List Value, us.length = hs.length ∧ (∀ j u, us[j]? = some u → W.cell? (ad.add j) = some u ∧ u.oneCell' = true) ∧ ∀ (i : Nat) l, hs[i]? = some l → ∃ u, us[i]? = some u ∧ Lines w w.heap.size u l := by
          rcases Nat.eq_zero_or_pos hs.length with h0 | h0
          · exact ⟨[], by rw [h0]; rfl, by simp, fun i l h => by rw [List.eq_nil_of_length_eq_zero h0] at h; simp at h⟩
          · obtain ⟨b, o, e, hb, hc⟩ := hh h0
            obtain rfl := Option.some.inj e
            obtain ⟨us, e1, e2, e3⟩ := heads_of hc
            refine ⟨us, e1, fun j u hu => ?_, e3⟩
            obtain ⟨f1, f2⟩ := e2 j u hu
            rw [Addr.add_lit] at f1 ⊢
            exact ⟨(hWw.cell (p := ⟨b, o + j, none⟩) hb).trans f1, f2⟩
        obtain ⟨us, hul, huc, huL⟩ := hus
        have HUC := Lib.hid huc
        have HUL := Lib.hid huL
        have HU := Lib.hid hul
        have HWW := Lib.hid hWw
        clear hul huc huL hWw hh
        go_wp2_with (at_builtin; refine wpList_append_own _ rfl (.tmp 27) (.tmp 29) 24 rfl (w1.heap.size + 1) 22 i0 (.slice none 0 0) 1 24 Try.underlying24 hi hz0 hz1 hz2 rfl (by decide) _ _ _ rfl HOWN.out ad hs.length c us rfl (by rw [HU.out]; omega) (fun j u hj => (HUC.out j u hj).1) (fun u hu => by obtain ⟨j, hj, rfl⟩ := List.mem_iff_getElem.1 hu; exact (HUC.out j _ (List.getElem?_eq_getElem hj)).2) (by unfold maxLen; omega) (by omega) (by rw [HWS.out]; exact Nat.le_refl _) ?_; intro v' w2 hown2 hg2 _; have hf := own_form hown2; obtain ⟨A', c', rfl⟩ := hf; have hTT := (Touch.refl (fun _ => False) W).grown hg2 (fun k hk => by cases hk); have k2 := BW.out.touch hTT (fun h => h); have d1' := k2.cell 1; have d2' := k2.free 1; simp at d1'; have K2 := Lib.hid k2; have HTT := Lib.hid hTT; have HO2 := Lib.hid hown2; clear hown2 hg2 hTT k2 d0 d1 d2)
        go_meet
        obtain ⟨v', hv'⟩ : ∃ v', v' = Value.slice A' (0 + hs.length) c' := ⟨_, rfl⟩
        have hown3 : w2.ownsRow (w1.heap.size + 1) 22 1 v' us.length us := by
          rw [hv']
          have := HO2.out
          rw [List.nil_append] at this
          rw [show us.length = 0 + hs.length by rw [HU.out, Nat.zero_add]]
          exact this
        have hts : Touch (fun k => k = w1.heap.size) w2 (w2.setCell ⟨w1.heap.size, 1, none⟩ v') := (Touch.refl (fun k => k = w1.heap.size) w2).setCell (p := ⟨w1.heap.size, 1, none⟩) (Or.inl rfl) _
        rw [show Value.slice A' hs.length c' = v' by rw [hv', Nat.zero_add]]
        refine ⟨v', us, K2.out.put 1 _, own_touch hown3 hts (fun g hg e => by have := (hown3.lt g hg).1; omega), HU.out, fun i l hl => ?_, ?_, ?_⟩
        · obtain ⟨u, e1, e2⟩ := HUL.out i l hl
          refine ⟨u, e1, ?_⟩
          have hb2 : Below w.heap.size w w2 := HWW.out.trans (HTT.out.below HWW.out.size (fun i h => h.elim))
          have hb3 : Below w.heap.size w (w2.setCell ⟨w1.heap.size, 1, none⟩ v') := hb2.setCell (p := ⟨w1.heap.size, 1, none⟩) hbh _
          exact (e2.below hb3 (Nat.le_refl _)).more hbh
        · exact (HWB.out.trans (HTT.out.below HWB.out.size (fun i h => h.elim))).setCell (p := ⟨w1.heap.size, 1, none⟩) (Nat.le_refl _) _
        · have h1 := HTT.out.size
          have h2 := HWS.out
          simp [World.setCell]
          omega
    case rest =>
      obtain ⟨v1, us, k4, hown, hul, hL, hb2, hgw⟩ := hcut
      obtain ⟨W, rfl⟩ : ∃ W : World, W = wc := ⟨_, rfl⟩
      have hf := own_form hown
      obtain ⟨A1, n1, rfl⟩ := hf
      have K4 := Lib.hid k4
      have HOWN := Lib.hid hown
      have HUL := Lib.hid hul
      have HL := Lib.hid hL
      have HB2 := Lib.hid hb2
      have d1 := k4.cell 1
      have d2 := k4.free 1
      simp at d1
      have hus2 : us.length ≤ 2 := by omega
      clear k4 hown hul hL hb2 c0 c1 hh
      go_upto_region 8 with fail
      go_cut [] (fun wx => Id8 w1.heap.size words hs w1 wx)
      case first =>
        go_wp2_with (at_builtin; refine wpList_append_own _ rfl (.tmp 33) (.tmp 34) 24 rfl (w1.heap.size + 1) 22 i0 (.slice none 0 0) 1 24 Try.underlying24 hi hz0 hz1 hz2 rfl (by decide) _ _ _ rfl (HOWN.out.alloc _) ⟨W.heap.size, 0, none⟩ 1 1 [.slice none 0 0] rfl rfl (one_cell (by rw [(Block.made W 22 #[.slice none 0 0]).cell 0]; rfl)) (fun u hu => by rw [List.mem_singleton.1 hu]; rfl) (by unfold maxLen; omega) (by omega) (by simp; omega) ?_; intro v' w2 hown2 hg2 _; have hf := own_form hown2; obtain ⟨A', c', rfl⟩ := hf; have hTT := (Touch.refl (fun k => w1.heap.size + 1 ≤ k) (W.alloc (.cells #[.slice none 0 0] 22))).grown hg2 (fun k hk => Or.inl ((HOWN.out.alloc (.cells #[.slice none 0 0] 22)).lt k hk).1); have k2 := (K4.out.alloc (.cells #[.slice none 0 0] 22)).touch hTT (by omega); have d1' := k2.cell 1; have d2' := k2.free 1; simp at d1'; have K2 := Lib.hid k2; have HTT := Lib.hid hTT; have HO2 := Lib.hid hown2; clear hown2 hg2 hTT k2 d1 d2)
        go_meet
        have hlen3 : (us ++ [Value.slice none 0 0]).length = us.length + 1 := by simp
        have hown3 : w2.ownsRow (w1.heap.size + 1) 22 1 (.slice A' (us.length + 1) c') (us ++ [Value.slice none 0 0]).length (us ++ [Value.slice none 0 0]) := by rw [hlen3]; exact HO2.out
        have hts : Touch (fun k => k = w1.heap.size) w2 (w2.setCell ⟨w1.heap.size, 1, none⟩ (.slice A' (us.length + 1) c')) := (Touch.refl (fun k => k = w1.heap.size) w2).setCell (p := ⟨w1.heap.size, 1, none⟩) (Or.inl rfl) _
        have hb3 : Below w1.heap.size W (w2.setCell ⟨w1.heap.size, 1, none⟩ (.slice A' (us.length + 1) c')) :=
          (((Below.refl _ W).alloc (Nat.le_of_lt hgw) (.cells #[.slice none 0 0] 22)).trans (HTT.out.below (by simp; omega) (fun i h => by omega))).setCell (p := ⟨w1.heap.size, 1, none⟩) (Nat.le_refl _) _
        refine ⟨A', us.length + 1, c', K2.out.put 1 _, ?_, HB2.out.trans (hb3.mono (Nat.le_refl _)), Nat.lt_of_lt_of_le hgw hb3.size⟩
        have hH := hands_of_own (hs := hs ++ [[]]) (own_touch hown3 hts (fun g hg e => by have := (hown3.lt g hg).1; omega)) (by simp) (by simp [HUL.out]) (by rw [hlen3]; omega) (fun i l hl => by
          rcases Nat.lt_or_ge i hs.length with hlt | hge
          · rw [List.getElem?_append_left hlt] at hl
            obtain ⟨u, e1, e2⟩ := HL.out i l hl
            refine ⟨u, by rw [List.getElem?_append_left (by rw [HUL.out]; exact hlt)]; exact e1, ?_⟩
            exact (e2.below hb3 (Nat.le_refl _)).more (Nat.le_of_lt (Nat.lt_of_lt_of_le hgw hb3.size))
          · rw [List.getElem?_append_right hge] at hl
            have h0 : i - hs.length = 0 := by
              have := (List.getElem?_eq_some_iff.1 hl).1
              simp at this
              omega
            rw [h0] at hl
            simp at hl
            subst hl
            exact ⟨_, by rw [List.getElem?_append_right (by rw [HUL.out]; exact hge), HUL.out, h0]; rfl, lines_nil _ _⟩)
        exact hH
      case rest =>
        obtain ⟨A2, n2, c2, k4, hq, hb3, hg4⟩ := hcut
        obtain ⟨V, rfl⟩ : ∃ V : World, V = wc := ⟨_, rfl⟩
        have HQ := Lib.hid hq
        have HB0 := Lib.hid (HBE1.out.trans (hb3.mono hbh))
        have hbp := HB1.out.below hb3 hgl
        have e0 := hbp.cell 0
        have e1 := hbp.cell 1
        simp at e0 e1
        have HK1 := Lib.hid hbp
        have HK2 := Lib.hid k4
        have HP := Lib.hid (((HBW.out.more hbh).below hb3 (Nat.le_refl _)).more (Nat.le_trans (Nat.le_of_lt hg4) (Nat.le_refl _)))
        clear hq hb3 k4 hbp HOWN HUL HL HB2 K4 d1 d2 hus2 HBE1 HB1 HBW
        go_wp2_with fail
        refine (results_any words _ hs V HP.out).mono ?_
        rintro e w2 ⟨v2, he, hl2', hb2⟩
        subst he
        have HL2 := Lib.hid hl2'
        obtain ⟨A3, c3, rfl, _, _⟩ := hl2'
        have k2 := HK2.out.below hb2 HK2.out.lt
        have e0 := k2.cell 0
        have e1 := k2.cell 1
        simp at e0 e1
        have HB2 := Lib.hid hb2
        clear hb2 k2
        go_wp2_with fail
        refine (results_any words _ (hs ++ [[]]) w2 ((HQ.out.below HB2.out (Nat.le_refl _)).more HB2.out.size)).mono ?_
        rintro e w3 ⟨v3, he, hl3, hb3⟩
        subst he
        have HL3 := Lib.hid hl3
        obtain ⟨A4, c4, rfl, _, _⟩ := hl3
        have HB3 := Lib.hid (HB2.out.trans (hb3.mono HB2.out.size))
        have k3 := HK1.out.below HB3.out HK1.out.lt
        have f0 := k3.cell 0
        have f1 := k3.cell 1
        simp at f0 f1
        have H23 := Lib.hid hb3
        clear hb3 k3 e0 e1
        go_wp2_with fail
        refine (races_any words _ hs w3 ((HP.out.below HB3.out (Nat.le_refl _)).more HB3.out.size)).mono ?_
        rintro e w4 ⟨he, hb4⟩
        subst he
        have HB4 := Lib.hid (HB3.out.trans (hb4.mono HB3.out.size))
        have H34 := Lib.hid hb4
        have k4 := HK2.out.below HB4.out HK2.out.lt
        have d0 := k4.cell 0
        have d1 := k4.cell 1
        simp at d0 d1
        clear hb4 k4 f0 f1
        go_wp2_with fail
        refine (races_any words _ (hs ++ [[]]) w4 ((HQ.out.below HB4.out (Nat.le_refl _)).more HB4.out.size)).mono ?_
        rintro e w5 ⟨he, hb5⟩
        subst he
        have HB5 := Lib.hid (HB4.out.trans (hb5.mono HB4.out.size))
        have H35 := Lib.hid (H34.out.trans (hb5.mono H34.out.size))
        have k5 := HK1.out.below HB5.out HK1.out.lt
        have g1 := k5.cell 1
        simp at g1
        clear hb5 d0 d1 k5
        by_cases hc : check words hs = 0
        · have hc2 := idle_check hl2 hc
          have hW := check_well hc
          have hW2 := check_well hc2
          have hlen2 := idle_length hW hW2 hl2
          have hl2' := HL2.out
          have hl3' := HL3.out
          rw [resL, if_pos hc] at hl2'
          rw [resL, if_pos hc2] at hl3'
          rw [show errV 72 (check words hs) = .nilIface by rw [hc]; rfl, show errV 72 (check words (hs ++ [[]])) = .nilIface by rw [hc2]; rfl, show resL words hs = scR words hs from if_pos hc, show resL words (hs ++ [[]]) = scR words (hs ++ [[]]) from if_pos hc2, show decide (check words (hs ++ [[]]) = 0) = true from decide_eq_true hc2, show decide (check words hs = 0) = true from decide_eq_true hc, ← idle_race hW hW2 hl2]
          obtain ⟨kk, hkk⟩ : ∃ kk, kk = hs.length * 2 := ⟨_, rfl⟩
          have hkI : (2 : Int) * (hs.length : Int) = (kk : Int) := by omega
          have hk1 : 2 ≤ kk := by have := hW.some_; omega
          have hk4 : kk ≤ 4 := by omega
          have HIN := Lib.hid (show ∀ t, t ∈ scR words hs → idleT kk t ∈ scR words (hs ++ [[]]) from fun t h => by rw [hkk]; exact idle_mem hW hW2 hl2 h)
          have HLN := Lib.hid (show ∀ t, t ∈ scR words hs → kk + 1 ≤ t.length ∧ t.length ≤ 8 from fun t h => by have h1 := scR_len h; have h2 := hW.hi; have h3 := hW.lo; omega)
          obtain ⟨ls, hls⟩ : ∃ ls, ls = scR words hs := ⟨_, rfl⟩
          obtain ⟨ms, hms⟩ := idle_ms words hs
          obtain ⟨r, hr⟩ : ∃ r, r = scRace hs := ⟨_, rfl⟩
          rw [← hls] at hl2'
          rw [← hms] at hl3'
          have HIN' := Lib.hid (show ∀ t, t ∈ ls → idleT kk t ∈ ms from fun t h => by rw [hms]; exact HIN.out t (by rw [← hls]; exact h))
          have HLN' := Lib.hid (show ∀ t, t ∈ ls → kk + 1 ≤ t.length ∧ t.length ≤ 8 from fun t h => HLN.out t (by rw [← hls]; exact h))
          rw [← hls, ← hms] at hlen2
          rw [← hls, ← hms, ← hr]
          have hll : ((ls.length : Int) != (ms.length : Int)) = false := by rw [hlen2]; simp
          have HLS := Lib.hid hl2'
          have HMS := Lib.hid hl3'
          obtain ⟨j0, hj, hy0, hy1, hy2⟩ := info_parts Tin.info
          clear hls hms hr hlen2 hl2' hl3' hc hc2 hW hW2 HIN HLN hkk
          go_wp2_with fail
          go_loopw [14] (fun i wr => ∃ k : Nat, k ≤ ls.length ∧ i = .int .i64 k ∧ Below w5.heap.size w5 wr) (fun i _ => ls.length - (intOf i).toNat)
          case atStart => exact ⟨0, Nat.zero_le _, rfl, Below.refl _ _⟩
          case round =>
            obtain ⟨k, hk, rfl, hbw⟩ := hrel
            have HBW := Lib.hid hbw
            clear hbw
            by_cases hlt : k < ls.length
            · have i1 : (k : Int) < ls.length := by omega
              have hbr : Below w2.heap.size w2 wr := (H23.out.trans (H35.out.mono H23.out.size)).trans (HBW.out.mono (Nat.le_trans H23.out.size H35.out.size))
              have hbr3 : Below w3.heap.size w3 wr := H35.out.trans (HBW.out.mono H35.out.size)
              have HMR := Lib.hid (HMS.out.below hbr3 (Nat.le_refl _))
              obtain ⟨A9, c9, e9, _, hcc⟩ := HLS.out.below hbr (Nat.le_refl _)
              simp at e9
              obtain ⟨rfl, rfl⟩ := e9
              obtain ⟨b1, o1, rfl, _, hcell⟩ := hcc (by omega)
              obtain ⟨x, hx⟩ : ∃ x, ls[k]? = some x := ⟨_, List.getElem?_eq_getElem hlt⟩
              obtain ⟨u, hu, hnu, hcap⟩ := hcell k x hx
              have hxm := List.mem_of_getElem? hx
              have HIM := Lib.hid (show decide (idleT kk x ∈ ms) = true from decide_eq_true (HIN'.out _ hxm))
              obtain ⟨n1, n8⟩ := HLN'.out x hxm
              obtain ⟨A6, c6, rfl, hmx, hn6⟩ := hnu
              obtain ⟨b6, o6, rfl, hb6, hn6⟩ := hn6 (by omega)
              have hcapk := hcap _ _ _ rfl
              obtain ⟨m, hm⟩ : ∃ m, m = x.length := ⟨_, rfl⟩
              rw [← hm] at hu n1 n8 hcapk
              have HRA := Lib.hid (show ∀ j u, ((x.take kk).map (Value.int .i64))[j]? = some u → wr.cell? ((⟨b6, o6, none⟩ : Addr).add j) = some u from fun j u hj => by
                rw [List.getElem?_map, List.getElem?_take] at hj
                split at hj
                · cases e : x[j]? with
                  | none => rw [e] at hj; cases hj
                  | some z =>
                    rw [e] at hj
                    obtain rfl := Option.some.inj hj
                    rw [Addr.add_lit]
                    exact hn6 j z e
                · cases hj)
              have HRS := Lib.hid (show ∀ j u, ((x.drop kk).map (Value.int .i64))[j]? = some u → wr.cell? ((⟨b6, o6 + kk, none⟩ : Addr).add j) = some u from fun j u hj => by
                rw [List.getElem?_map, List.getElem?_drop] at hj
                cases e : x[kk + j]? with
                | none => rw [e] at hj; cases hj
                | some z =>
                  rw [e] at hj
                  obtain rfl := Option.some.inj hj
                  rw [Addr.add_lit, show o6 + kk + j = o6 + (kk + j) by omega]
                  exact hn6 (kk + j) z e)
              have HTL := Lib.hid (show (x.take kk).length = kk by rw [List.length_take]; omega)
              have HDL := Lib.hid (show (x.drop kk).length = m - kk by rw [List.length_drop, ← hm])
              have HM := Lib.hid hm
              have z0 : ¬ (m : Int) < kk := by omega
              have z1 : (kk : Int) ≤ m := by omega
              have z2 : (kk : Int) ≤ c6 := by omega
              have z3 : (0 : Int) ≤ kk := by omega
              have z4 : ¬ c6 = kk := by omega
              have z5 : (m : Int) ≤ c6 := by omega
              have hbl := lt_of_cell (hn6 0 (x.getD 0 0) (by rw [List.getD_eq_getElem?_getD, List.getElem?_eq_getElem (show 0 < x.length by omega)]; rfl))
              clear hcc hcell hn6 hx hxm hcap hm hbr hbr3 hmx
              go_upto_region 24 with fail
              go_cut [15] (fun t15 wx => OwnI wr wx t15 (x.take kk))
              case first =>
                go_wp2_with (at_builtin; refine wpList_append_own _ rfl (.tmp 104) (.tmp 110) 34 rfl wr.heap.size 3 j0 (.int .i64 0) 1 8 Try.underlying34 hj hy0 hy1 hy2 rfl (by decide) _ _ _ rfl (World.ownsRow_nil wr wr.heap.size 3 1) ⟨b6, o6, none⟩ kk c6 ((x.take kk).map (Value.int .i64)) rfl (by rw [List.length_map, HTL.out]; omega) HRA.out (map_one _) (by unfold maxLen; omega) (by omega) (Nat.le_refl _) ?_; intro v' w6 hown hg _; have HOWN := Lib.hid hown; have HG := Lib.hid hg; clear hown hg)
                go_meet
                have hown : w6.ownsRow wr.heap.size 3 1 v' (x.take kk).length ((x.take kk).map (Value.int .i64)) := by
                  have := HOWN.out
                  rw [List.nil_append, Nat.zero_add] at this
                  rw [HTL.out]; exact this
                obtain ⟨A8, c8, rfl⟩ := own_form hown
                exact ⟨A8, c8, rfl, hown, (Below.refl _ _).grown HG.out (Nat.le_refl _) (fun q hq => by cases hq)⟩
              case rest =>
              obtain ⟨A8, c8, rfl, hown, hbx⟩ := hcut
              obtain ⟨X, rfl⟩ : ∃ X : World, X = wc := ⟨_, rfl⟩
              rw [HTL.out] at hown ⊢
              have HO1 := Lib.hid hown
              have HX1 := Lib.hid hbx
              have hsx := hbx.size
              clear hown hbx
              go_upto_region 25 with fail
              go_cut [15] (fun t15 wx => OwnI wr wx t15 (x.take kk ++ [0, 0]))
              case first =>
                go_wp2_with (at_builtin; refine wpList_append_own _ rfl (.tmp 112) (.tmp 113) 34 rfl wr.heap.size 3 j0 (.int .i64 0) 1 8 Try.underlying34 hj hy0 hy1 hy2 rfl (by decide) _ _ _ rfl (HO1.out.alloc _) ⟨X.heap.size, 0, none⟩ 2 2 [.int .i64 0, .int .i64 0] rfl rfl (two_cells (by rw [(Block.made X 3 #[.int .i64 0, .int .i64 0]).cell 0]; rfl) (by rw [(Block.made X 3 #[.int .i64 0, .int .i64 0]).cell 1]; rfl)) (by intro u hu; simp at hu; rcases hu with rfl | rfl <;> rfl) (by unfold maxLen; omega) (by omega) (by simp; omega) ?_; intro v' w6 hown hg _; have HOWN := Lib.hid hown; have HG := Lib.hid hg; clear hown hg)
                go_meet
                have hlt2 : (x.take kk ++ [0, 0]).length = kk + 2 := by rw [List.length_append, HTL.out]; rfl
                have hown : w6.ownsRow wr.heap.size 3 1 v' (x.take kk ++ [0, 0]).length ((x.take kk ++ [0, 0]).map (Value.int .i64)) := by
                  have := HOWN.out
                  rw [hlt2, List.map_append]
                  exact this
                obtain ⟨A7, c7, rfl⟩ := own_form hown
                exact ⟨A7, c7, rfl, hown, ((HX1.out.alloc hsx (.cells #[.int .i64 0, .int .i64 0] 3)).grown HG.out (by simp; omega) (fun q hq => ((HO1.out.alloc (.cells #[.int .i64 0, .int .i64 0] 3)).lt q hq).1))⟩
              case rest =>
              obtain ⟨A7, c7, rfl, hown, hby⟩ := hcut
              obtain ⟨Y, rfl⟩ : ∃ Y : World, Y = wc := ⟨_, rfl⟩
              have hlt2 : (x.take kk ++ [0, 0]).length = kk + 2 := by rw [List.length_append, HTL.out]; rfl
              rw [hlt2] at hown ⊢
              have HO2 := Lib.hid hown
              have HY1 := Lib.hid hby
              have hsy := hby.size
              have g2 := (hby.cell (p := ⟨b1, o1 + k, none⟩) (lt_of_cell hu)).trans hu
              have HRY := Lib.hid (show ∀ j u, ((x.drop kk).map (Value.int .i64))[j]? = some u → Y.cell? ((⟨b6, o6 + kk, none⟩ : Addr).add j) = some u from fun j u hj => (hby.cell (p := (⟨b6, o6 + kk, none⟩ : Addr).add j) (by rw [Addr.add_lit]; exact hbl)).trans (HRS.out j u hj))
              clear hown hby hlt2 HO1 HX1 hsx hu HRA HRS
              go_wp2_with (at_builtin; refine wpList_append_own _ rfl (.tmp 116) (.tmp 122) 34 rfl wr.heap.size 3 j0 (.int .i64 0) 1 8 Try.underlying34 hj hy0 hy1 hy2 rfl (by decide) _ _ _ rfl HO2.out ⟨b6, o6 + kk, none⟩ (m - kk) (c6 - kk) ((x.drop kk).map (Value.int .i64)) rfl (by rw [List.length_map, HDL.out]; omega) HRY.out (map_one _) (by unfold maxLen; omega) (by omega) hsy ?_; intro v' w6 hown hg _; have hn6 : Nums w6 w6.heap.size v' (idleT kk x) := nums_of_own (base := wr.heap.size) (e := 3) (by rw [← idle_at, List.length_append, List.map_append, List.length_append, HTL.out, HDL.out]; exact hown) (by rw [← idle_at, List.length_append, List.length_append, HTL.out, HDL.out]; simp; omega); have HB6 := Lib.hid (HY1.out.grown hg hsy (fun q hq => (HO2.out.lt q hq).1)); have HN6 := Lib.hid hn6; obtain ⟨A5, c5, rfl, _, _⟩ := hn6; clear hown hg)
              refine (has_any ms (idleT kk x) _ _ _ _ w6 (HMR.out.below HB6.out (Nat.le_trans H35.out.size HBW.out.size)) HN6.out).mono ?_
              rw [HIM.out]
              rintro e w7 ⟨rfl, q, rfl⟩
              go_wp2_with fail
              go_roundw
              case rel => exact ⟨k + 1, by omega, by go_num, below_drewN (HBW.out.trans (HB6.out.mono HBW.out.size)) _⟩
              case measure => simp [intOf]; omega
            · have i1 : ¬ (k : Int) < ls.length := by omega
              go_wp2_with fail
              go_ret
              exact ⟨rfl, HB0.out.trans ((HB5.out.trans (HBW.out.mono HB5.out.size)).mono HB0.out.size)⟩
        · rw [show errV 72 (check words hs) = .iface 72 (.int .i64 (check words hs)) from if_neg hc]
          go_wp2_with fail
          go_ret
          exact ⟨rfl, HB0.out.trans (HB5.out.mono HB0.out.size)⟩
  · have i2 : (2 : Int) < (hs.length : Int) := by omega
    go_wp2_with fail
    go_ret
    exact ⟨rfl, HBE1.out⟩
end Go.Proofs.Ytkohobbjnafljab
