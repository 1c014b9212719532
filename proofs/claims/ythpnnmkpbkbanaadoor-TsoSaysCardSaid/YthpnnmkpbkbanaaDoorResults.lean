/-
  What sc.Results answers.
-/
import Derived.Test.YthpnnmkpbkbanaaDoorRaces
import Derived.Test.YthpnnmkpbkbanaaDoorSortRes
import Derived.Test.YthpnnmkpbkbanaaDoorTold
namespace Go.Proofs.YthpnnmkpbkbanaaDoor
open Go.RowKit Go.Maps
attribute [local go_sem] Oper.semAt_some

/-- The slice value v has the lists ls, in blocks below B. -/
def Lsts (w : World) (B : Nat) (v : Value) (ls : List (List Int)) : Prop :=
  ∃ A c, v = .slice A ls.length c ∧ ls.length ≤ 9223372036854775807 ∧
    (0 < ls.length → ∃ b o, A = some ⟨b, o, none⟩ ∧ b < B ∧ ∀ (i : Nat) l, ls[i]? = some l → ∃ u, w.cell? ⟨b, o + i, none⟩ = some u ∧ Nums w B u l ∧ Capd u)
theorem Lsts.below {w w' : World} {B B' : Nat} {v : Value} {ls : List (List Int)} (h : Lsts w B v ls) (hb : Below B' w w') (hB : B ≤ B') : Lsts w' B v ls := by
  obtain ⟨A, c, e, hl, h⟩ := h
  refine ⟨A, c, e, hl, fun h0 => ?_⟩
  obtain ⟨b, o, e1, hb1, hc⟩ := h h0
  refine ⟨b, o, e1, hb1, fun i l hi => ?_⟩
  obtain ⟨u, hu, hn⟩ := hc i l hi
  exact ⟨u, (hb.cell (p := ⟨b, o + i, none⟩) (Nat.lt_of_lt_of_le hb1 hB)).trans hu, ⟨hn.1.below hb hB, hn.2⟩⟩
theorem Lsts.more {w : World} {B B' : Nat} {v : Value} {ls : List (List Int)} (h : Lsts w B v ls) (hB : B ≤ B') : Lsts w B' v ls := by
  obtain ⟨A, c, e, hl, h⟩ := h
  refine ⟨A, c, e, hl, fun h0 => ?_⟩
  obtain ⟨b, o, e1, hb1, hc⟩ := h h0
  refine ⟨b, o, e1, Nat.lt_of_lt_of_le hb1 hB, fun i l hi => ?_⟩
  obtain ⟨u, hu, hn⟩ := hc i l hi
  exact ⟨u, hu, hn.1.more hB, hn.2⟩
theorem Lsts.nil (w : World) (B : Nat) : Lsts w B (.slice none 0 0) [] := ⟨none, 0, rfl, by simp, fun h => by simp at h⟩

theorem ResV.lsts {w : World} {words : Int} {hv : Value} {hs : List (List Ln)} {pb ob : Nat} {ts : List (List Int)} {v : Value} {xs : List Value} {W : World} (h : ResV w words hv hs pb ob ts v xs W) (hl : ts.length ≤ 9223372036854775807) : Lsts W W.heap.size v ts := by
  obtain ⟨h1, h2, h3, h4, h5, h6, h7⟩ := h
  rcases h6.2 with ⟨rfl, hn⟩ | ⟨g, cap, cur, rfl, hg, hgh, hnc, hcm, hsz, htk⟩
  · have ht : ts = [] := List.eq_nil_of_length_eq_zero (by rw [← h7.1, hn])
    subst ht
    exact Lsts.nil _ _
  · rw [h7.1]
    refine ⟨_, cap, rfl, hl, fun _ => ⟨g, 0, rfl, (Array.getElem?_eq_some_iff.1 hgh).1, fun i l hi => ?_⟩⟩
    have hi' : i < xs.length := by rw [h7.1]; exact (List.getElem?_eq_some_iff.1 hi).1
    have hB : Block W g 47 cur := hgh
    refine ⟨xs[i], ?_, (h7.2 i _ l (List.getElem?_eq_getElem hi') hi).1.1, (h7.2 i _ l (List.getElem?_eq_getElem hi') hi).1.cap⟩
    rw [hB.cell, Nat.zero_add, ← Array.getElem?_toList, ← List.getElem?_eq_getElem hi', ← htk, List.getElem?_take, if_pos (by omega)]

theorem results_eq {words : Int} {hs : List (List Ln)} (hW : Well words hs) {xs : List (List Int)} (hnd : xs.Nodup) (hx : ∀ z, z ∈ xs ↔ Reach hs z) {ts : List (List Int)} (hp : ts.Perm (toldsOf words hs xs)) (hso : ts.Pairwise fun a b => 0 ≤ cmpL b a) : ts = scR words hs := by
  have hmem : ∀ t, t ∈ ts ↔ t ∈ scR words hs := fun t => by
    rw [hp.mem_iff, mem_scR hW, toldsOf, List.mem_map]
    constructor
    · rintro ⟨z, hz, rfl⟩
      rw [List.mem_filter] at hz
      exact ⟨z, (hx z).1 hz.1, hz.2, rfl⟩
    · rintro ⟨z, h1, h2, h3⟩
      exact ⟨z, List.mem_filter.2 ⟨(hx z).2 h1, h2⟩, h3⟩
  have hnd2 : (toldsOf words hs xs).Nodup := by
    unfold toldsOf List.Nodup
    rw [List.pairwise_map]
    refine List.Pairwise.imp_of_mem ?_ (hnd.filter (endB hs))
    intro a b ha hb hne he
    rw [List.mem_filter] at ha hb
    exact hne (told_inj hW (((hx a).1 ha.1).good hW) (((hx b).1 hb.1).good hW) ha.2 hb.2 he)
  have hnd3 : ts.Nodup := hp.nodup_iff.2 hnd2
  have hlen : ∀ t ∈ ts, t.length = hs.length * 2 + words.toNat := fun t ht => (scR_facts words hs).2.1 t ((hmem t).1 ht)
  refine rises_ext ?_ (scR_facts words hs).1 hmem
  refine List.Pairwise.imp_of_mem ?_ (List.Pairwise.and hso hnd3)
  intro a b ha hb ⟨h1, h2⟩
  have hl : a.length = b.length := by rw [hlen a ha, hlen b hb]
  rcases lessL_total hl with h | h | h
  · exact absurd h h2
  · exact h
  · exact absurd ((cmpL_less hl.symm).2 h) (by omega)

/-- What sc.Results tells. -/
def resL (words : Int) (hs : List (List Ln)) : List (List Int) := if check words hs = 0 then scR words hs else []

theorem Tsl.agg (w : World) : (isAgg 26).run Tryd.prog w = .ok false w := by simp [isAgg, run_underlying Tryd.underlying26, go_sem]

set_option maxRecDepth 100000 in
set_option maxHeartbeats 4000000 in
theorem results_any (words : Int) (hv : Value) (hs : List (List Ln)) (w : World) (hh : Hands w w.heap.size hv hs) :
    Calls Tryd.prog 8 #[.agg #[.int .i64 words, hv]] w fun e w' => ∃ v, e = .returned (.tuple #[v, errV 67 (check words hs)]) ∧ Lsts w' w'.heap.size v (resL words hs) ∧ Below w.heap.size w w' := by
  have HH := Lib.hid hh
  obtain ⟨A, c, rfl, hlen, _⟩ := hh
  refine callsIn_wide.1 (callsIn_of_wp_marks (n := 0) Tryd.func8 rfl trivial ?_ rfl)
  simp only [Tryd.ntmps8, List.size_toArray, List.length_cons, List.length_nil, Nat.reduceAdd, Nat.reduceSub, Array.replicate_succ, Array.replicate_zero, List.push_toArray, List.append_toArray, List.nil_append, List.cons_append]
  refine wpIn_wide.2 ?_
  have HK0 := Lib.hid (Block.made w 24 #[.int .i64 words, .slice A hs.length c])
  have hT0 : Touch (fun _ => False) w (w.alloc (.cells #[.int .i64 words, .slice A hs.length c] 24)) := (Touch.refl _ w).alloc _
  have HT0 := Lib.hid hT0
  clear hT0
  by_cases hc : check words hs = 0
  · have HC := Lib.hid hc
    have HW := Lib.hid (check_well hc)
    clear hc
    go_wp2_with (first | (go_at_call 23; refine (check_any words _ hs _ ((HH.out.keep fun p hp => HT0.out.cell hp (fun h => h)).more HT0.out.size)).mono ?_; rw [HC.out, show errV 67 0 = Value.nilIface from rfl]; rintro e w1 ⟨rfl, hb1⟩; have HB1 := Lib.hid hb1; clear hb1; have d0 := (HK0.out.below HB1.out HK0.out.lt).cell 0; have d1 := (HK0.out.below HB1.out HK0.out.lt).cell 1; have d2 := ((HK0.out.below HB1.out HK0.out.lt).alloc (.cells #[.slice none 0 0] 26)).cell 0; have d3 := ((HK0.out.below HB1.out HK0.out.lt).alloc (.cells #[.slice none 0 0] 26)).cell 1; simp at d0 d1 d2 d3) | (go_at_call 24; refine (reached_any words A hs.length c _).mono ?_; rintro e w2 ⟨rfl, rfl⟩))
    have hb1 := HB1.out
    have hs1 : w.heap.size + 1 ≤ w1.heap.size := by have := hb1.size; simp only [World.size_alloc] at this; omega
    have eob : (w1.alloc (.cells #[.slice none 0 0] 26)).heap.size = w1.heap.size + 1 := by simp
    try rw [eob]
    obtain ⟨V, hV⟩ : ∃ V, V = (w1.alloc (.cells #[.slice none 0 0] 26)).alloc (.cells #[.int .i64 words, .slice A hs.length c] 24) := ⟨_, rfl⟩
    rw [← hV]
    have hTV : Touch (fun _ => False) w V := by
      rw [hV]
      exact ((HT0.out.trans (Touch.of_below (O := fun _ => False) hb1 fun i h1 h2 => by omega) fun _ h => h.elim).alloc _).alloc _
    have hVs : V.heap.size = w1.heap.size + 2 := by rw [hV]; simp
    have hM : ResV w words (.slice A hs.length c) hs (w1.heap.size + 1) w1.heap.size [] (.slice none 0 0) [] V := by
      refine ⟨?_, ⟨?_, HH.out.keep fun p hp => hTV.cell hp fun h => h⟩, hTV.below (Nat.le_refl _) fun _ h => h.elim, by omega, ?_, World.ownsRow_nil _ _ _ 1, rfl, fun i x t hx => by cases hx⟩
      · rw [hV]; exact ((HK0.out.below hb1 HK0.out.lt).alloc _).alloc _
      · rw [hV, ← eob]; exact Block.made _ _ _
      · rw [hV]; exact (Block.made _ _ _).alloc _
    have HM := Lib.hid hM
    clear hV hM hTV hb1 d0 d1 d2 d3 HB1 HT0 HK0 eob
    refine range_owned (gf := 43) (lb := #[.pointer (some ⟨w1.heap.size + 1, 0, none⟩)]) rfl (enters_of Tryd.func43 (by kernel_rfl) rfl) (fun x => #[.agg (row x)]) (fun _ => rfl)
      (fun pre x => Reach hs x ∧ pre.length < 1073741824) (fun xs => xs.Nodup ∧ ∀ z, z ∈ xs ↔ Reach hs z) (fun pre => ∀ z ∈ pre, Reach hs z)
      (ResI w words (.slice A hs.length c) hs (w1.heap.size + 1) w1.heap.size) (fun _ _ _ _ => False)
      (fun k => w.heap.size + 1 ≤ k ∧ k ≠ w1.heap.size + 1) (fun xs => ResI.owns xs) (fun _ _ => ⟨fun _ _ _ _ h => h.elim, fun _ _ h => h.elim⟩) (ResO w1.heap.size (.slice none 0 0) []) ⟨_, _, rfl, HM.out⟩ (fun xs O A1 ⟨v, ys, hO, h⟩ k hk => (h.mem k (by rw [← hO]; exact hk)).1) (fun k hk => by omega) ?hseq
      (fun x Bx a1 W => Block W Bx 63 (row x) ∧ a1 = { tmps := #[.agg #[.int .i64 words, .slice A hs.length c], .pointer (some ⟨w.heap.size, 0, none⟩), .slice none 0 0, .nilIface, .nilIface, .pointer (some ⟨w1.heap.size, 0, none⟩), .pointer (some ⟨Bx, 0, none⟩), .agg #[.int .i64 words, .slice A hs.length c], .nilIface, .nilIface, .bool false, undef, .agg #[.int .i64 words, .slice A hs.length c], .func (.func 43) #[] #[.pointer (some ⟨w1.heap.size + 1, 0, none⟩)], .agg (row x), undef, undef, undef, undef, undef, undef, undef, undef, undef, undef, undef, undef], defers := [] })
      (fun x Bx a1 W1 W2 l h ht hl => ⟨h.1.touch ht fun h => hl h.symm, h.2⟩) ?assign ?body ?done ?stop
    case hseq => exact fun l J Jx O1 W hJ hJO hT hl hO1 hY h0 => (reached1_any words _ hs HW.out (w1.heap.size + 1) w.heap.size l J Jx O1 W (fun k => w.heap.size + 1 ≤ k ∧ k ≠ w1.heap.size + 1) (fun k hk => by omega) (fun k hk => by have := hT.size; omega) hJ hJO (HM.out.2.1.touch hT (by omega) fun i h => h.elim) (by have := hT.size; omega) (by omega) hY h0).mono fun _ _ h => h
    case assign =>
      intro l O pre x W K hi hx hK
      have hx16 := (hx.1.good HW.out).fit.1
      have HX := Lib.hid hx16
      have HKK := Lib.hid hK
      have HA := Lib.hid (Block.made W 63 #[.int .i64 0, .int .i64 0, .int .i64 0, .int .i64 0, .int .i64 0, .int .i64 0, .int .i64 0, .int .i64 0, .int .i64 0, .int .i64 0, .int .i64 0, .int .i64 0, .int .i64 0, .int .i64 0, .int .i64 0, .int .i64 0])
      clear hK hx hi hx16
      gi_wp2_with (refine wpListIn_store_row rfl 63 (.tmp 6) (.tmp 14) rfl W.heap.size (row x) rfl rfl _ _ HA.out (by rw [row_size, HX.out]; exact Tst.info) (by rw [row_size, HX.out]; rfl) (row_one _) ?_)
      exact HKK.out _ _ _ (((Touch.refl _ W).alloc _).setRow (Or.inr (Nat.le_refl _)) _) (Nat.le_refl _) ⟨setRow_heap _ _ _ _ _ _ HA.out, rfl⟩
    case body =>
      rintro l O pre x Bx a1 W ⟨v, xs, hO, hm⟩ hx ⟨hbx, rfl⟩ hn
      have HX := Lib.hid ((hx.1.good HW.out).fit.1)
      have HF := Lib.hid ((hx.1.good HW.out).fit)
      have HBX := Lib.hid hbx
      have HMW := Lib.hid hm
      have HO := Lib.hid hO
      have HRX := Lib.hid hx
      have d0 := hm.1.cell 0
      have d1 := hm.1.cell 1
      simp at d0 d1
      have hsW : w1.heap.size + 1 < W.heap.size := hm.2.2.2.1.2.2
      have HHW := Lib.hid (show Hands W W.heap.size (.slice A hs.length c) hs from hm.2.1.hands.more (by omega))
      clear hbx hm hO hx hn
      by_cases hr : endB hs x = true
      · have HR := Lib.hid hr
        clear hr
        gi_wp2_with (refine wpListIn_load_row rfl 63 (.tmp 6) rfl Bx rfl _ (row x) _ _ HBX.out Tryd.underlying63 rfl (by rw [row_size, HX.out]; exact Tst.info) ?_)
        refine ⟨trivial, rfl, (CallsIn.inRound l (callsIn_wide.2 (ended_any x words _ hs W HHW.out HW.out.few HF.out))).mono ?_⟩
        rw [HR.out]; rintro e w2 ⟨rfl, hb2⟩; have HB2 := Lib.hid hb2; clear hb2
        gi_wp2_with fail
        have hT2 : Touch (fun _ => False) W w2.drew := (Touch.of_below HB2.out fun i h1 h2 => by omega).drew
        have hm2 := HMW.out.touch hT2 (fun _ _ h => h) fun i h => h.elim
        have hbx2 := HBX.out.touch hT2 fun h => h
        have hp2 := hm2.1
        have hst : (Tryd.prog.info? 63).map (·.size) = some (row x).size := by rw [row_size, HX.out]; exact Tst.info
        have hpr : (Tryd.prog.info? 24).map (·.size) = some (#[Value.int .i64 words, .slice A hs.length c] : Array Value).size := by kernel_rfl
        have hc0 := hm2.2.2.2.2.1.cell 0
        simp at hc0
        have hlx : xs.length < 1073741824 := by
          rw [HMW.out.2.2.2.2.2.2.1]
          have := toldsOf_length (words := words) (hs := hs) (pre := pre)
          have := HRX.out.2
          omega
        have HH2 : Hands w2.drew w2.drew.heap.size (.slice A hs.length c) hs := hm2.2.1.hands.more (by have := hT2.size; omega)
        obtain ⟨i0, hi0, hz0, hz1, hz2⟩ := info_parts Tls.info
        have hmore : ∀ (y : Value) (wT : World), Nums wT wT.heap.size y (toldOf hs words x) → Below w2.drew.heap.size w2.drew wT → (∀ k, y.ownBlock = some k → w2.drew.heap.size ≤ k) → Capd y →
            ∃ v' w' Ay ny cy, y = .slice Ay ny cy ∧ (Builtin.append_ #[26, 26] 26 #[v, .slice (some ⟨wT.heap.size, 0, none⟩) 1 1]).run Tryd.prog (wT.alloc (.cells #[y] 47)) = .ok v' w' ∧ Block w' w1.heap.size 26 #[v] ∧ v'.oneCell' = true ∧
              (∀ a', leftBy (ResI w words (.slice A hs.length c) hs (w1.heap.size + 1) w1.heap.size) (fun _ _ _ _ => False) O (pre ++ [x]) W .normal a' (w'.setRow w1.heap.size #[v'])) ∧
              wT.cell? ⟨w1.heap.size, 0, none⟩ = some v ∧ (wT.alloc (.cells #[y] 47)).cell? ⟨w1.heap.size, 0, none⟩ = some v := by
          intro y wT hny hbT hfy hcy
          have ht0 : 0 < (toldOf hs words x).length := by rw [toldOf_length]; have := HW.out.lo; omega
          obtain ⟨v', w', hrun, hBo, hv1, hRV, hTA, hOO⟩ := hm2.more hlx hbT hny ht0 hfy hcy
          have hB3 := (hm2.2.2.2.2.1.below hbT hm2.2.2.2.2.1.lt)
          have hc1 := hB3.cell 0
          have hc2 := (hB3.alloc (.cells #[y] 47)).cell 0
          simp at hc1 hc2
          obtain ⟨Ay, cy, hy, _⟩ := id hny
          refine ⟨v', w', Ay, _, cy, hy, hrun, hBo, hv1, fun a' => ⟨ResO w1.heap.size v' (xs ++ [y]), ⟨v', xs ++ [y], rfl, by rw [toldsOf_yes HR.out]; exact hRV⟩, ?_, fun k hk => ?_⟩, hc1, hc2⟩
          · rw [HO.out]
            exact (hT2.mono fun _ h => h.elim).trans hTA fun i h => Or.inl h
          · rw [HO.out]
            rcases hOO k hk with h | h
            · exact Or.inl h
            · exact Or.inr (Nat.le_trans hT2.size h)
        refine wpIn_region_any (by kernel_rfl) ?_
        change wpAnyIn _ _ _ _ _ _ _ _ _ (World.drew _)
        -- GENRES8
        refine wpAnyIn_ready (rs := [0, 1, 2]) (by kernel_rfl) (by simp) ?_
        refine AllReadyIn.cons rfl (fun K hK => ?_) ?_
        · refine opIn_load_one rfl 26 (.tmp 5) rfl ⟨w1.heap.size, 0, none⟩ rfl v (Tsl.agg _) hc0 ?_
          refine hK _ _ ?_
          clear hK K
          refine wpAnyIn_ready (rs := [1, 2]) (by kernel_rfl) (by simp) ?_
          refine AllReadyIn.cons rfl (fun K hK => ?_) ?_
          · refine opIn_load_row rfl 63 (.tmp 6) rfl Bx rfl _ (row x) _ _ hbx2 Tryd.underlying63 rfl hst ?_
            refine hK _ _ ?_
            clear hK K
            refine wpAnyIn_ready (rs := [2]) (by kernel_rfl) (by simp) ?_
            refine AllReadyIn.cons rfl (fun K hK => ?_) ?_
            · refine opIn_load_row rfl 24 (.tmp 1) rfl w.heap.size rfl _ _ _ _ hp2 Tryd.underlying24 rfl hpr ?_
              refine hK _ _ ?_
              clear hK K
              refine wpAnyIn_ready (rs := [3]) (by kernel_rfl) (by simp) ?_
              refine AllReadyIn.cons rfl (fun K hK => ?_) ?_
              · go_simp
                refine ⟨trivial, rfl, (CallsIn.inRound l (callsIn_wide.2 (told_fresh x words _ hs _ HH2 HW.out.few HW.out.lo HW.out.hi HX.out))).mono ?_⟩
                rintro e wT ⟨y, rfl, hny, hbT, hfy, hcy⟩
                obtain ⟨v', w', Ay, ny, cy, rfl, hrun, hBo, hv1, hfin, hcT, hcA⟩ := hmore y wT hny hbT hfy hcy
                refine hK _ _ ?_
                clear hK K
                refine wpAnyIn_ready (rs := [4]) (by kernel_rfl) (by simp) ?_
                refine AllReadyIn.cons rfl (fun K hK => ?_) ?_
                · refine opIn_buildOne rfl 26 47 (.tmp 21) rfl Ay ny cy rfl i0 Tryd.underlying26 hi0 hz0 hz1 ?_
                  refine hK _ _ ?_
                  clear hK K
                  refine wpAnyIn_ready (rs := [5]) (by kernel_rfl) (by simp) ?_
                  refine AllReadyIn.cons rfl (fun K hK => ?_) ?_
                  · refine opIn_append rfl (.tmp 18) (.tmp 22) 26 rfl _ _ rfl rfl v' w' hrun ?_
                    refine hK _ _ ?_
                    clear hK K
                    refine wpAnyIn_ready (rs := [6]) (by kernel_rfl) (by simp) ?_
                    refine AllReadyIn.cons rfl (fun K hK => ?_) ?_
                    · refine opIn_store_one rfl 26 (.tmp 5) (.tmp 23) rfl w1.heap.size rfl v' rfl hv1 _ _ hBo (by kernel_rfl) ?_
                      refine hK _ _ ?_
                      clear hK K
                      refine wpAnyIn_done (by kernel_rfl) ?_ _
                      exact hfin { tmps := #[], defers := [] }
                    exact AllReadyIn.nil
                  exact AllReadyIn.nil
                exact AllReadyIn.nil
              exact AllReadyIn.nil
            exact AllReadyIn.nil
          refine AllReadyIn.cons rfl (fun K hK => ?_) ?_
          · refine opIn_load_row rfl 24 (.tmp 1) rfl w.heap.size rfl _ _ _ _ hp2 Tryd.underlying24 rfl hpr ?_
            refine hK _ _ ?_
            clear hK K
            refine wpAnyIn_ready (rs := [1]) (by kernel_rfl) (by simp) ?_
            refine AllReadyIn.cons rfl (fun K hK => ?_) ?_
            · refine opIn_load_row rfl 63 (.tmp 6) rfl Bx rfl _ (row x) _ _ hbx2 Tryd.underlying63 rfl hst ?_
              refine hK _ _ ?_
              clear hK K
              refine wpAnyIn_ready (rs := [3]) (by kernel_rfl) (by simp) ?_
              refine AllReadyIn.cons rfl (fun K hK => ?_) ?_
              · go_simp
                refine ⟨trivial, rfl, (CallsIn.inRound l (callsIn_wide.2 (told_fresh x words _ hs _ HH2 HW.out.few HW.out.lo HW.out.hi HX.out))).mono ?_⟩
                rintro e wT ⟨y, rfl, hny, hbT, hfy, hcy⟩
                obtain ⟨v', w', Ay, ny, cy, rfl, hrun, hBo, hv1, hfin, hcT, hcA⟩ := hmore y wT hny hbT hfy hcy
                refine hK _ _ ?_
                clear hK K
                refine wpAnyIn_ready (rs := [4]) (by kernel_rfl) (by simp) ?_
                refine AllReadyIn.cons rfl (fun K hK => ?_) ?_
                · refine opIn_buildOne rfl 26 47 (.tmp 21) rfl Ay ny cy rfl i0 Tryd.underlying26 hi0 hz0 hz1 ?_
                  refine hK _ _ ?_
                  clear hK K
                  refine wpAnyIn_ready (rs := [5]) (by kernel_rfl) (by simp) ?_
                  refine AllReadyIn.cons rfl (fun K hK => ?_) ?_
                  · refine opIn_append rfl (.tmp 18) (.tmp 22) 26 rfl _ _ rfl rfl v' w' hrun ?_
                    refine hK _ _ ?_
                    clear hK K
                    refine wpAnyIn_ready (rs := [6]) (by kernel_rfl) (by simp) ?_
                    refine AllReadyIn.cons rfl (fun K hK => ?_) ?_
                    · refine opIn_store_one rfl 26 (.tmp 5) (.tmp 23) rfl w1.heap.size rfl v' rfl hv1 _ _ hBo (by kernel_rfl) ?_
                      refine hK _ _ ?_
                      clear hK K
                      refine wpAnyIn_done (by kernel_rfl) ?_ _
                      exact hfin { tmps := #[], defers := [] }
                    exact AllReadyIn.nil
                  exact AllReadyIn.nil
                exact AllReadyIn.nil
              exact AllReadyIn.nil
            exact AllReadyIn.nil
          exact AllReadyIn.nil
        refine AllReadyIn.cons rfl (fun K hK => ?_) ?_
        · refine opIn_load_row rfl 63 (.tmp 6) rfl Bx rfl _ (row x) _ _ hbx2 Tryd.underlying63 rfl hst ?_
          refine hK _ _ ?_
          clear hK K
          refine wpAnyIn_ready (rs := [0, 2]) (by kernel_rfl) (by simp) ?_
          refine AllReadyIn.cons rfl (fun K hK => ?_) ?_
          · refine opIn_load_one rfl 26 (.tmp 5) rfl ⟨w1.heap.size, 0, none⟩ rfl v (Tsl.agg _) hc0 ?_
            refine hK _ _ ?_
            clear hK K
            refine wpAnyIn_ready (rs := [2]) (by kernel_rfl) (by simp) ?_
            refine AllReadyIn.cons rfl (fun K hK => ?_) ?_
            · refine opIn_load_row rfl 24 (.tmp 1) rfl w.heap.size rfl _ _ _ _ hp2 Tryd.underlying24 rfl hpr ?_
              refine hK _ _ ?_
              clear hK K
              refine wpAnyIn_ready (rs := [3]) (by kernel_rfl) (by simp) ?_
              refine AllReadyIn.cons rfl (fun K hK => ?_) ?_
              · go_simp
                refine ⟨trivial, rfl, (CallsIn.inRound l (callsIn_wide.2 (told_fresh x words _ hs _ HH2 HW.out.few HW.out.lo HW.out.hi HX.out))).mono ?_⟩
                rintro e wT ⟨y, rfl, hny, hbT, hfy, hcy⟩
                obtain ⟨v', w', Ay, ny, cy, rfl, hrun, hBo, hv1, hfin, hcT, hcA⟩ := hmore y wT hny hbT hfy hcy
                refine hK _ _ ?_
                clear hK K
                refine wpAnyIn_ready (rs := [4]) (by kernel_rfl) (by simp) ?_
                refine AllReadyIn.cons rfl (fun K hK => ?_) ?_
                · refine opIn_buildOne rfl 26 47 (.tmp 21) rfl Ay ny cy rfl i0 Tryd.underlying26 hi0 hz0 hz1 ?_
                  refine hK _ _ ?_
                  clear hK K
                  refine wpAnyIn_ready (rs := [5]) (by kernel_rfl) (by simp) ?_
                  refine AllReadyIn.cons rfl (fun K hK => ?_) ?_
                  · refine opIn_append rfl (.tmp 18) (.tmp 22) 26 rfl _ _ rfl rfl v' w' hrun ?_
                    refine hK _ _ ?_
                    clear hK K
                    refine wpAnyIn_ready (rs := [6]) (by kernel_rfl) (by simp) ?_
                    refine AllReadyIn.cons rfl (fun K hK => ?_) ?_
                    · refine opIn_store_one rfl 26 (.tmp 5) (.tmp 23) rfl w1.heap.size rfl v' rfl hv1 _ _ hBo (by kernel_rfl) ?_
                      refine hK _ _ ?_
                      clear hK K
                      refine wpAnyIn_done (by kernel_rfl) ?_ _
                      exact hfin { tmps := #[], defers := [] }
                    exact AllReadyIn.nil
                  exact AllReadyIn.nil
                exact AllReadyIn.nil
              exact AllReadyIn.nil
            exact AllReadyIn.nil
          refine AllReadyIn.cons rfl (fun K hK => ?_) ?_
          · refine opIn_load_row rfl 24 (.tmp 1) rfl w.heap.size rfl _ _ _ _ hp2 Tryd.underlying24 rfl hpr ?_
            refine hK _ _ ?_
            clear hK K
            refine wpAnyIn_ready (rs := [0, 3]) (by kernel_rfl) (by simp) ?_
            refine AllReadyIn.cons rfl (fun K hK => ?_) ?_
            · refine opIn_load_one rfl 26 (.tmp 5) rfl ⟨w1.heap.size, 0, none⟩ rfl v (Tsl.agg _) hc0 ?_
              refine hK _ _ ?_
              clear hK K
              refine wpAnyIn_ready (rs := [3]) (by kernel_rfl) (by simp) ?_
              refine AllReadyIn.cons rfl (fun K hK => ?_) ?_
              · go_simp
                refine ⟨trivial, rfl, (CallsIn.inRound l (callsIn_wide.2 (told_fresh x words _ hs _ HH2 HW.out.few HW.out.lo HW.out.hi HX.out))).mono ?_⟩
                rintro e wT ⟨y, rfl, hny, hbT, hfy, hcy⟩
                obtain ⟨v', w', Ay, ny, cy, rfl, hrun, hBo, hv1, hfin, hcT, hcA⟩ := hmore y wT hny hbT hfy hcy
                refine hK _ _ ?_
                clear hK K
                refine wpAnyIn_ready (rs := [4]) (by kernel_rfl) (by simp) ?_
                refine AllReadyIn.cons rfl (fun K hK => ?_) ?_
                · refine opIn_buildOne rfl 26 47 (.tmp 21) rfl Ay ny cy rfl i0 Tryd.underlying26 hi0 hz0 hz1 ?_
                  refine hK _ _ ?_
                  clear hK K
                  refine wpAnyIn_ready (rs := [5]) (by kernel_rfl) (by simp) ?_
                  refine AllReadyIn.cons rfl (fun K hK => ?_) ?_
                  · refine opIn_append rfl (.tmp 18) (.tmp 22) 26 rfl _ _ rfl rfl v' w' hrun ?_
                    refine hK _ _ ?_
                    clear hK K
                    refine wpAnyIn_ready (rs := [6]) (by kernel_rfl) (by simp) ?_
                    refine AllReadyIn.cons rfl (fun K hK => ?_) ?_
                    · refine opIn_store_one rfl 26 (.tmp 5) (.tmp 23) rfl w1.heap.size rfl v' rfl hv1 _ _ hBo (by kernel_rfl) ?_
                      refine hK _ _ ?_
                      clear hK K
                      refine wpAnyIn_done (by kernel_rfl) ?_ _
                      exact hfin { tmps := #[], defers := [] }
                    exact AllReadyIn.nil
                  exact AllReadyIn.nil
                exact AllReadyIn.nil
              exact AllReadyIn.nil
            refine AllReadyIn.cons rfl (fun K hK => ?_) ?_
            · go_simp
              refine ⟨trivial, rfl, (CallsIn.inRound l (callsIn_wide.2 (told_fresh x words _ hs _ HH2 HW.out.few HW.out.lo HW.out.hi HX.out))).mono ?_⟩
              rintro e wT ⟨y, rfl, hny, hbT, hfy, hcy⟩
              obtain ⟨v', w', Ay, ny, cy, rfl, hrun, hBo, hv1, hfin, hcT, hcA⟩ := hmore y wT hny hbT hfy hcy
              refine hK _ _ ?_
              clear hK K
              refine wpAnyIn_ready (rs := [0, 4]) (by kernel_rfl) (by simp) ?_
              refine AllReadyIn.cons rfl (fun K hK => ?_) ?_
              · refine opIn_load_one rfl 26 (.tmp 5) rfl ⟨w1.heap.size, 0, none⟩ rfl v (Tsl.agg _) hcT ?_
                refine hK _ _ ?_
                clear hK K
                refine wpAnyIn_ready (rs := [4]) (by kernel_rfl) (by simp) ?_
                refine AllReadyIn.cons rfl (fun K hK => ?_) ?_
                · refine opIn_buildOne rfl 26 47 (.tmp 21) rfl Ay ny cy rfl i0 Tryd.underlying26 hi0 hz0 hz1 ?_
                  refine hK _ _ ?_
                  clear hK K
                  refine wpAnyIn_ready (rs := [5]) (by kernel_rfl) (by simp) ?_
                  refine AllReadyIn.cons rfl (fun K hK => ?_) ?_
                  · refine opIn_append rfl (.tmp 18) (.tmp 22) 26 rfl _ _ rfl rfl v' w' hrun ?_
                    refine hK _ _ ?_
                    clear hK K
                    refine wpAnyIn_ready (rs := [6]) (by kernel_rfl) (by simp) ?_
                    refine AllReadyIn.cons rfl (fun K hK => ?_) ?_
                    · refine opIn_store_one rfl 26 (.tmp 5) (.tmp 23) rfl w1.heap.size rfl v' rfl hv1 _ _ hBo (by kernel_rfl) ?_
                      refine hK _ _ ?_
                      clear hK K
                      refine wpAnyIn_done (by kernel_rfl) ?_ _
                      exact hfin { tmps := #[], defers := [] }
                    exact AllReadyIn.nil
                  exact AllReadyIn.nil
                exact AllReadyIn.nil
              refine AllReadyIn.cons rfl (fun K hK => ?_) ?_
              · refine opIn_buildOne rfl 26 47 (.tmp 21) rfl Ay ny cy rfl i0 Tryd.underlying26 hi0 hz0 hz1 ?_
                refine hK _ _ ?_
                clear hK K
                refine wpAnyIn_ready (rs := [0]) (by kernel_rfl) (by simp) ?_
                refine AllReadyIn.cons rfl (fun K hK => ?_) ?_
                · refine opIn_load_one rfl 26 (.tmp 5) rfl ⟨w1.heap.size, 0, none⟩ rfl v (Tsl.agg _) hcA ?_
                  refine hK _ _ ?_
                  clear hK K
                  refine wpAnyIn_ready (rs := [5]) (by kernel_rfl) (by simp) ?_
                  refine AllReadyIn.cons rfl (fun K hK => ?_) ?_
                  · refine opIn_append rfl (.tmp 18) (.tmp 22) 26 rfl _ _ rfl rfl v' w' hrun ?_
                    refine hK _ _ ?_
                    clear hK K
                    refine wpAnyIn_ready (rs := [6]) (by kernel_rfl) (by simp) ?_
                    refine AllReadyIn.cons rfl (fun K hK => ?_) ?_
                    · refine opIn_store_one rfl 26 (.tmp 5) (.tmp 23) rfl w1.heap.size rfl v' rfl hv1 _ _ hBo (by kernel_rfl) ?_
                      refine hK _ _ ?_
                      clear hK K
                      refine wpAnyIn_done (by kernel_rfl) ?_ _
                      exact hfin { tmps := #[], defers := [] }
                    exact AllReadyIn.nil
                  exact AllReadyIn.nil
                exact AllReadyIn.nil
              exact AllReadyIn.nil
            exact AllReadyIn.nil
          exact AllReadyIn.nil
        refine AllReadyIn.cons rfl (fun K hK => ?_) ?_
        · refine opIn_load_row rfl 24 (.tmp 1) rfl w.heap.size rfl _ _ _ _ hp2 Tryd.underlying24 rfl hpr ?_
          refine hK _ _ ?_
          clear hK K
          refine wpAnyIn_ready (rs := [0, 1]) (by kernel_rfl) (by simp) ?_
          refine AllReadyIn.cons rfl (fun K hK => ?_) ?_
          · refine opIn_load_one rfl 26 (.tmp 5) rfl ⟨w1.heap.size, 0, none⟩ rfl v (Tsl.agg _) hc0 ?_
            refine hK _ _ ?_
            clear hK K
            refine wpAnyIn_ready (rs := [1]) (by kernel_rfl) (by simp) ?_
            refine AllReadyIn.cons rfl (fun K hK => ?_) ?_
            · refine opIn_load_row rfl 63 (.tmp 6) rfl Bx rfl _ (row x) _ _ hbx2 Tryd.underlying63 rfl hst ?_
              refine hK _ _ ?_
              clear hK K
              refine wpAnyIn_ready (rs := [3]) (by kernel_rfl) (by simp) ?_
              refine AllReadyIn.cons rfl (fun K hK => ?_) ?_
              · go_simp
                refine ⟨trivial, rfl, (CallsIn.inRound l (callsIn_wide.2 (told_fresh x words _ hs _ HH2 HW.out.few HW.out.lo HW.out.hi HX.out))).mono ?_⟩
                rintro e wT ⟨y, rfl, hny, hbT, hfy, hcy⟩
                obtain ⟨v', w', Ay, ny, cy, rfl, hrun, hBo, hv1, hfin, hcT, hcA⟩ := hmore y wT hny hbT hfy hcy
                refine hK _ _ ?_
                clear hK K
                refine wpAnyIn_ready (rs := [4]) (by kernel_rfl) (by simp) ?_
                refine AllReadyIn.cons rfl (fun K hK => ?_) ?_
                · refine opIn_buildOne rfl 26 47 (.tmp 21) rfl Ay ny cy rfl i0 Tryd.underlying26 hi0 hz0 hz1 ?_
                  refine hK _ _ ?_
                  clear hK K
                  refine wpAnyIn_ready (rs := [5]) (by kernel_rfl) (by simp) ?_
                  refine AllReadyIn.cons rfl (fun K hK => ?_) ?_
                  · refine opIn_append rfl (.tmp 18) (.tmp 22) 26 rfl _ _ rfl rfl v' w' hrun ?_
                    refine hK _ _ ?_
                    clear hK K
                    refine wpAnyIn_ready (rs := [6]) (by kernel_rfl) (by simp) ?_
                    refine AllReadyIn.cons rfl (fun K hK => ?_) ?_
                    · refine opIn_store_one rfl 26 (.tmp 5) (.tmp 23) rfl w1.heap.size rfl v' rfl hv1 _ _ hBo (by kernel_rfl) ?_
                      refine hK _ _ ?_
                      clear hK K
                      refine wpAnyIn_done (by kernel_rfl) ?_ _
                      exact hfin { tmps := #[], defers := [] }
                    exact AllReadyIn.nil
                  exact AllReadyIn.nil
                exact AllReadyIn.nil
              exact AllReadyIn.nil
            exact AllReadyIn.nil
          refine AllReadyIn.cons rfl (fun K hK => ?_) ?_
          · refine opIn_load_row rfl 63 (.tmp 6) rfl Bx rfl _ (row x) _ _ hbx2 Tryd.underlying63 rfl hst ?_
            refine hK _ _ ?_
            clear hK K
            refine wpAnyIn_ready (rs := [0, 3]) (by kernel_rfl) (by simp) ?_
            refine AllReadyIn.cons rfl (fun K hK => ?_) ?_
            · refine opIn_load_one rfl 26 (.tmp 5) rfl ⟨w1.heap.size, 0, none⟩ rfl v (Tsl.agg _) hc0 ?_
              refine hK _ _ ?_
              clear hK K
              refine wpAnyIn_ready (rs := [3]) (by kernel_rfl) (by simp) ?_
              refine AllReadyIn.cons rfl (fun K hK => ?_) ?_
              · go_simp
                refine ⟨trivial, rfl, (CallsIn.inRound l (callsIn_wide.2 (told_fresh x words _ hs _ HH2 HW.out.few HW.out.lo HW.out.hi HX.out))).mono ?_⟩
                rintro e wT ⟨y, rfl, hny, hbT, hfy, hcy⟩
                obtain ⟨v', w', Ay, ny, cy, rfl, hrun, hBo, hv1, hfin, hcT, hcA⟩ := hmore y wT hny hbT hfy hcy
                refine hK _ _ ?_
                clear hK K
                refine wpAnyIn_ready (rs := [4]) (by kernel_rfl) (by simp) ?_
                refine AllReadyIn.cons rfl (fun K hK => ?_) ?_
                · refine opIn_buildOne rfl 26 47 (.tmp 21) rfl Ay ny cy rfl i0 Tryd.underlying26 hi0 hz0 hz1 ?_
                  refine hK _ _ ?_
                  clear hK K
                  refine wpAnyIn_ready (rs := [5]) (by kernel_rfl) (by simp) ?_
                  refine AllReadyIn.cons rfl (fun K hK => ?_) ?_
                  · refine opIn_append rfl (.tmp 18) (.tmp 22) 26 rfl _ _ rfl rfl v' w' hrun ?_
                    refine hK _ _ ?_
                    clear hK K
                    refine wpAnyIn_ready (rs := [6]) (by kernel_rfl) (by simp) ?_
                    refine AllReadyIn.cons rfl (fun K hK => ?_) ?_
                    · refine opIn_store_one rfl 26 (.tmp 5) (.tmp 23) rfl w1.heap.size rfl v' rfl hv1 _ _ hBo (by kernel_rfl) ?_
                      refine hK _ _ ?_
                      clear hK K
                      refine wpAnyIn_done (by kernel_rfl) ?_ _
                      exact hfin { tmps := #[], defers := [] }
                    exact AllReadyIn.nil
                  exact AllReadyIn.nil
                exact AllReadyIn.nil
              exact AllReadyIn.nil
            refine AllReadyIn.cons rfl (fun K hK => ?_) ?_
            · go_simp
              refine ⟨trivial, rfl, (CallsIn.inRound l (callsIn_wide.2 (told_fresh x words _ hs _ HH2 HW.out.few HW.out.lo HW.out.hi HX.out))).mono ?_⟩
              rintro e wT ⟨y, rfl, hny, hbT, hfy, hcy⟩
              obtain ⟨v', w', Ay, ny, cy, rfl, hrun, hBo, hv1, hfin, hcT, hcA⟩ := hmore y wT hny hbT hfy hcy
              refine hK _ _ ?_
              clear hK K
              refine wpAnyIn_ready (rs := [0, 4]) (by kernel_rfl) (by simp) ?_
              refine AllReadyIn.cons rfl (fun K hK => ?_) ?_
              · refine opIn_load_one rfl 26 (.tmp 5) rfl ⟨w1.heap.size, 0, none⟩ rfl v (Tsl.agg _) hcT ?_
                refine hK _ _ ?_
                clear hK K
                refine wpAnyIn_ready (rs := [4]) (by kernel_rfl) (by simp) ?_
                refine AllReadyIn.cons rfl (fun K hK => ?_) ?_
                · refine opIn_buildOne rfl 26 47 (.tmp 21) rfl Ay ny cy rfl i0 Tryd.underlying26 hi0 hz0 hz1 ?_
                  refine hK _ _ ?_
                  clear hK K
                  refine wpAnyIn_ready (rs := [5]) (by kernel_rfl) (by simp) ?_
                  refine AllReadyIn.cons rfl (fun K hK => ?_) ?_
                  · refine opIn_append rfl (.tmp 18) (.tmp 22) 26 rfl _ _ rfl rfl v' w' hrun ?_
                    refine hK _ _ ?_
                    clear hK K
                    refine wpAnyIn_ready (rs := [6]) (by kernel_rfl) (by simp) ?_
                    refine AllReadyIn.cons rfl (fun K hK => ?_) ?_
                    · refine opIn_store_one rfl 26 (.tmp 5) (.tmp 23) rfl w1.heap.size rfl v' rfl hv1 _ _ hBo (by kernel_rfl) ?_
                      refine hK _ _ ?_
                      clear hK K
                      refine wpAnyIn_done (by kernel_rfl) ?_ _
                      exact hfin { tmps := #[], defers := [] }
                    exact AllReadyIn.nil
                  exact AllReadyIn.nil
                exact AllReadyIn.nil
              refine AllReadyIn.cons rfl (fun K hK => ?_) ?_
              · refine opIn_buildOne rfl 26 47 (.tmp 21) rfl Ay ny cy rfl i0 Tryd.underlying26 hi0 hz0 hz1 ?_
                refine hK _ _ ?_
                clear hK K
                refine wpAnyIn_ready (rs := [0]) (by kernel_rfl) (by simp) ?_
                refine AllReadyIn.cons rfl (fun K hK => ?_) ?_
                · refine opIn_load_one rfl 26 (.tmp 5) rfl ⟨w1.heap.size, 0, none⟩ rfl v (Tsl.agg _) hcA ?_
                  refine hK _ _ ?_
                  clear hK K
                  refine wpAnyIn_ready (rs := [5]) (by kernel_rfl) (by simp) ?_
                  refine AllReadyIn.cons rfl (fun K hK => ?_) ?_
                  · refine opIn_append rfl (.tmp 18) (.tmp 22) 26 rfl _ _ rfl rfl v' w' hrun ?_
                    refine hK _ _ ?_
                    clear hK K
                    refine wpAnyIn_ready (rs := [6]) (by kernel_rfl) (by simp) ?_
                    refine AllReadyIn.cons rfl (fun K hK => ?_) ?_
                    · refine opIn_store_one rfl 26 (.tmp 5) (.tmp 23) rfl w1.heap.size rfl v' rfl hv1 _ _ hBo (by kernel_rfl) ?_
                      refine hK _ _ ?_
                      clear hK K
                      refine wpAnyIn_done (by kernel_rfl) ?_ _
                      exact hfin { tmps := #[], defers := [] }
                    exact AllReadyIn.nil
                  exact AllReadyIn.nil
                exact AllReadyIn.nil
              exact AllReadyIn.nil
            exact AllReadyIn.nil
          exact AllReadyIn.nil
        exact AllReadyIn.nil
        -- ENDRES8
      · have HR := Lib.hid (Bool.eq_false_iff.2 hr)
        clear hr
        gi_wp2_with (refine wpListIn_load_row rfl 63 (.tmp 6) rfl Bx rfl _ (row x) _ _ HBX.out Tryd.underlying63 rfl (by rw [row_size, HX.out]; exact Tst.info) ?_)
        refine ⟨trivial, rfl, (CallsIn.inRound l (callsIn_wide.2 (ended_any x words _ hs W HHW.out HW.out.few HF.out))).mono ?_⟩
        rw [HR.out]; rintro e w2 ⟨rfl, hb2⟩; have HB2 := Lib.hid hb2; clear hb2
        gi_wp2_with fail
        have hT2 : Touch (fun _ => False) W w2 := Touch.of_below HB2.out fun i h1 h2 => by omega
        exact ⟨O, ⟨v, xs, HO.out, by rw [toldsOf_no HR.out]; exact HMW.out.touch hT2 (fun _ _ h => h) fun i h => h.elim⟩, hT2.mono fun _ h => h.elim, fun k h => Or.inl h⟩
    case done =>
      rintro D ys O W hD hd ⟨v, xs, hO, hm⟩ hn hDW
      have HMW := Lib.hid hm
      have HDW := Lib.hid hDW
      have HD2 := Lib.hid hd
      have HN := Lib.hid (show ¬ ResO w1.heap.size v xs D by rw [← hO]; exact hn)
      have hl : xs.length ≤ 1073741824 := by
        rw [hm.2.2.2.2.2.2.1]
        have h1 := toldsOf_length (words := words) (hs := hs) (pre := ys)
        have h2 := nodup_le hd.1 fun z hz => ((hd.2 z).1 hz).mem HW.out
        have h3 := allS_length (hs := hs) HW.out.few
        omega
      have HL := Lib.hid hl
      have e1 := hm.2.2.2.2.1.cell 0
      have g1 := hm.2.2.2.2.1.free 0
      simp at e1
      clear hm hd hDW hO hn hl
      go_wp2_with (go_at_call 27; refine (sort_any HMW.out HL.out).mono ?_; rintro e w3 ⟨rfl, ht3, xs', ts', hsub, hp, hpw, hm3⟩; have HSUB := Lib.hid hsub; have HT3 := Lib.hid ht3; have HP := Lib.hid hp; have HPW := Lib.hid hpw; have HM3 := Lib.hid hm3; have e3 := hm3.2.2.2.2.1.cell 0; simp at e3; clear ht3 hp hpw hm3 hsub e1)
      have hd := HD2.out
      have hr := results_eq HW.out hd.1 hd.2 HP.out HPW.out
      have hm3 := HM3.out
      have hsr : ts'.length ≤ 9223372036854775807 := by
        rw [HP.out.length_eq]
        have h1 := toldsOf_length (words := words) (hs := hs) (pre := ys)
        have h2 := nodup_le hd.1 fun z hz => ((hd.2 z).1 hz).mem HW.out
        have h3 := allS_length (hs := hs) HW.out.few
        omega
      rw [hr] at hm3 hsr
      have hDl : D < W.heap.size := (Array.getElem?_eq_some_iff.1 HDW.out).1
      have hnv : v.ownBlock ≠ some D := fun e => HN.out (Or.inr (Or.inl e))
      have hD3 := (HT3.out.block D hDl fun h => hnv h).trans HDW.out
      have hTD : Touch (fun k => k = D) w3 (w3.putObj D (.deferred none)) := touch_one _ D _
      refine leave_mark hD3 (v := .tuple #[v, .nilIface]) (by simp [results, Tryd.results8, go_sem]) ⟨v, by rw [HC.out]; rfl, ?_, ?_⟩
      · rw [resL, if_pos HC.out]
        exact (hm3.touch hTD (fun k hk e => HN.out (by
          rw [← e]
          rcases hk with h | h | ⟨y, hy, h⟩
          · exact Or.inl h
          · exact Or.inr (Or.inl h)
          · exact Or.inr (Or.inr ⟨y, HSUB.out y hy, h⟩))) fun k hk => by omega).lsts hsr
      · exact hm3.2.2.1.trans (hTD.below hm3.2.2.1.size fun i hi => by omega)
    case stop => exact fun D c' pre O W _ _ h => h.elim
  · have HC := Lib.hid hc
    clear hc
    go_wp2_with (first | (go_at_call 23; refine (check_any words _ hs _ ((HH.out.keep fun p hp => HT0.out.cell hp (fun h => h)).more HT0.out.size)).mono ?_; rw [show errV 67 (check words hs) = Value.iface 67 (.int .i64 (check words hs)) from if_neg HC.out]; rintro e w1 ⟨rfl, hb1⟩; have HB1 := Lib.hid hb1; clear hb1))
    have hb1 := HB1.out
    have hT1 := (HT0.out.trans (Touch.of_below (O := fun _ => False) hb1 fun i h1 h2 => by omega) fun _ h => h.elim).below (Nat.le_refl _) fun _ h => h.elim
    refine ⟨.tuple #[.slice none 0 0, .iface 67 (.int .i64 (check words hs))], by simp [results, Tryd.results8, go_sem], .slice none 0 0, by simp [HC.out, errV], by rw [resL, if_neg HC.out]; exact Lsts.nil _ _, hT1⟩
end Go.Proofs.YthpnnmkpbkbanaaDoor
