/-
  What sc.reached and sc.Races answer.
-/
import Derived.Test.YthpnnmkpbkbanaaDoorReach
import Derived.Test.YthpnnmkpbkbanaaDoorRacing
import Derived.Test.YthpnnmkpbkbanaaDoorRowAp
import Derived.Test.YthpnnmkpbkbanaaDoorCheck
import Derived.RangeFuncLeaves
import Derived.RangeFuncCalls
import Derived.Shelf.RegionOpen
namespace Go.Proofs.YthpnnmkpbkbanaaDoor
open Go.RowKit Go.Maps
attribute [local go_sem] Oper.semAt_some

theorem reached_any (words : Int) (A : Option Addr) (n c : Nat) (w : World) :
    Calls Tryd.prog 24 #[.agg #[.int .i64 words, .slice A n c]] w fun e w' => e = .returned (.func (.func 43) #[] #[.pointer (some ⟨w.heap.size, 0, none⟩)]) ∧ w' = w.alloc (.cells #[.int .i64 words, .slice A n c] 24) := by
  go_enter Tryd.func24, Tryd.ntmps24
  go_wp2_with fail
  go_ret
  exact ⟨rfl, rfl⟩

theorem leave_mark {P : Program} {F : Fence} {n : Nat} {fn : Func} {tmps : Array Value} {R : Ending → World → Prop} {D : Nat} {w : World} {v : Value} (hD : w.heap[D]? = some (.deferred (some [])))
    (hr : (results fn tmps).run P (w.putObj D (.deferred none)) = .ok v (w.putObj D (.deferred none))) (hR : R (.returned v) (w.putObj D (.deferred none))) :
    LeavesInM F n P fn tmps R [{ target := .collected D, args := #[] }] .returning w :=
  ⟨by simp, .inl ⟨_, _, rfl, run_takeDeferred hD, v, hr, hR⟩⟩

/-- Where a walk over all states stands, in sc.Races. -/
def RacM (w : World) (words : Int) (hv : Value) (hs : List (List Ln)) (pb : Nat) (u1 u2 : Value) (A : World) : Prop :=
  Block A w.heap.size 24 #[.int .i64 words, hv] ∧ Block A (w.heap.size + 1) 4 #[u1] ∧ Block A (w.heap.size + 2) 30 #[u2] ∧ PMem A pb w.heap.size words hv hs ∧ Below w.heap.size w A ∧ w.heap.size + 2 < pb
theorem RacM.touch {w A A' : World} {words : Int} {hv : Value} {hs : List (List Ln)} {pb : Nat} {u1 u2 : Value} {O : Nat → Prop} (h : RacM w words hv hs pb u1 u2 A) (k : Touch O A A') (ho : ∀ i, O i → w.heap.size + 2 < i ∧ i ≠ pb) : RacM w words hv hs pb u1 u2 A' := by
  obtain ⟨h1, h2, h3, h4, h5, h6⟩ := h
  exact ⟨h1.touch k fun h => by have := ho _ h; omega, h2.touch k fun h => by have := ho _ h; omega, h3.touch k fun h => by have := ho _ h; omega, h4.touch k h5.size fun i h => by have := ho _ h; omega, h5.trans (k.below h5.size fun i h => by have := ho _ h; omega), h6⟩

theorem RacM.put {w A : World} {words : Int} {hv : Value} {hs : List (List Ln)} {pb : Nat} {u1 u2 : Value} (h : RacM w words hv hs pb u1 u2 A) (v1 v2 : Value) : RacM w words hv hs pb v1 v2 ((A.setCell ⟨w.heap.size + 1, 0, none⟩ v1).setCell ⟨w.heap.size + 1 + 1, 0, none⟩ v2) := by
  obtain ⟨h1, h2, h3, h4, h5, h6⟩ := h
  have ht : Touch (fun k => k = w.heap.size + 1 ∨ k = w.heap.size + 2) A ((A.setCell ⟨w.heap.size + 1, 0, none⟩ v1).setCell ⟨w.heap.size + 1 + 1, 0, none⟩ v2) := ((Touch.refl _ A).setCell (Or.inl (Or.inl rfl)) _).setCell (Or.inl (Or.inr rfl)) _
  refine ⟨h1.touch ht (by omega), ?_, ?_, h4.touch ht h5.size fun i h => by omega, h5.trans (ht.below h5.size fun i h => by omega), h6⟩
  · exact (h2.put 0 v1).far (p := ⟨w.heap.size + 1 + 1, 0, none⟩) (by simp) v2
  · exact (h3.far (p := ⟨w.heap.size + 1, 0, none⟩) (by simp) v1).put 0 v2
theorem put_touch (A : World) (h : Nat) (v1 v2 : Value) : Touch (fun k => k = h + 1 ∨ k = h + 2) A ((A.setCell ⟨h + 1, 0, none⟩ v1).setCell ⟨h + 1 + 1, 0, none⟩ v2) :=
  ((Touch.refl _ A).setCell (Or.inl (Or.inl rfl)) _).setCell (Or.inl (Or.inr rfl)) _
theorem scRace_false {words : Int} {hs : List (List Ln)} (hW : Well words hs) {xs : List (List Int)} (hx : ∀ z, z ∈ xs ↔ Reach hs z) (h : ∀ z ∈ xs, raceB hs z = false) : scRace hs = false := by
  cases e : scRace hs with
  | false => rfl
  | true =>
    obtain ⟨z, hz, hr⟩ := (scRace_iff hW).1 e
    rw [h z ((hx z).2 hz)] at hr
    cases hr

set_option maxRecDepth 100000 in
set_option maxHeartbeats 4000000 in
theorem races_any (words : Int) (hv : Value) (hs : List (List Ln)) (w : World) (hh : Hands w w.heap.size hv hs) :
    Calls Tryd.prog 11 #[.agg #[.int .i64 words, hv]] w fun e w' => e = .returned (.tuple #[.bool (decide (check words hs = 0) && scRace hs), errV 67 (check words hs)]) ∧ Below w.heap.size w w' := by
  have HH := Lib.hid hh
  obtain ⟨A, c, rfl, hlen, _⟩ := hh
  refine callsIn_wide.1 (callsIn_of_wp_marks (n := 0) Tryd.func11 rfl trivial ?_ rfl)
  simp only [Tryd.ntmps11, List.size_toArray, List.length_cons, List.length_nil, Nat.reduceAdd, Nat.reduceSub, Array.replicate_succ, Array.replicate_zero, List.push_toArray, List.append_toArray, List.nil_append, List.cons_append]
  refine wpIn_wide.2 ?_
  have k0 := Block.made w 24 #[.int .i64 words, .slice A hs.length c]
  have k1 := Block.made (w.alloc (.cells #[.int .i64 words, .slice A hs.length c] 24)) 4 #[.bool false]
  have k2 := Block.made ((w.alloc (.cells #[.int .i64 words, .slice A hs.length c] 24)).alloc (.cells #[.bool false] 4)) 30 #[.nilIface]
  simp only [World.size_alloc] at k1 k2
  have hT0 : Touch (fun _ => False) w (((w.alloc (.cells #[.int .i64 words, .slice A hs.length c] 24)).alloc (.cells #[.bool false] 4)).alloc (.cells #[.nilIface] 30)) := (((Touch.refl _ w).alloc _).alloc _).alloc _
  have HK0 := Lib.hid ((k0.alloc (.cells #[.bool false] 4)).alloc (.cells #[.nilIface] 30))
  have HK1 := Lib.hid (k1.alloc (.cells #[.nilIface] 30))
  have HK2 := Lib.hid k2
  have HT0 := Lib.hid hT0
  clear k0 k1 k2 hT0
  by_cases hc : check words hs = 0
  · have HC := Lib.hid hc
    have HW := Lib.hid (check_well hc)
    clear hc
    go_wp2_with (first | (go_at_call 23; refine (check_any words _ hs _ ((HH.out.keep fun p hp => HT0.out.cell hp (fun h => h)).more HT0.out.size)).mono ?_; rw [HC.out, show errV 67 0 = Value.nilIface from rfl]; rintro e w1 ⟨rfl, hb1⟩; have HB1 := Lib.hid hb1; clear hb1; have d0 := (HK0.out.below HB1.out HK0.out.lt).cell 0; have d1 := (HK0.out.below HB1.out HK0.out.lt).cell 1; simp at d0 d1) | (go_at_call 24; refine (reached_any words A hs.length c w1).mono ?_; rintro e w2 ⟨rfl, rfl⟩))
    have hb1 := HB1.out
    have hs1 : w.heap.size + 3 ≤ w1.heap.size := by have := hb1.size; simp only [World.size_alloc] at this; omega
    obtain ⟨V, hV⟩ : ∃ V, V = w1.alloc (.cells #[.int .i64 words, .slice A hs.length c] 24) := ⟨_, rfl⟩
    rw [← hV]
    have hTV : Touch (fun _ => False) w V := by
      rw [hV]
      exact (HT0.out.trans (Touch.of_below (O := fun _ => False) hb1 fun i h1 h2 => by omega) fun _ h => h.elim).alloc _
    have hM : RacM w words (.slice A hs.length c) hs w1.heap.size (.bool false) .nilIface V := by
      refine ⟨?_, ?_, ?_, ⟨?_, HH.out.keep fun p hp => hTV.cell hp fun h => h⟩, hTV.below (Nat.le_refl _) fun _ h => h.elim, by omega⟩
      · rw [hV]; exact (HK0.out.below hb1 HK0.out.lt).alloc _
      · rw [hV]; exact (HK1.out.below hb1 HK1.out.lt).alloc _
      · rw [hV]; exact (HK2.out.below hb1 HK2.out.lt).alloc _
      · rw [hV]; exact Block.made _ _ _
    have hVs : w1.heap.size < V.heap.size := by rw [hV]; simp
    have HM := Lib.hid hM
    clear hV hM hTV hb1 d0 d1 HB1 HT0 HK0 HK1 HK2
    have hstay : ∀ (u1 u2 : Value) (O O' : Nat → Prop) (A1 A2 : World), O = (fun k => k = w.heap.size + 1 ∨ k = w.heap.size + 2) → RacM w words (.slice A hs.length c) hs w1.heap.size u1 u2 A1 → Touch O' A1 A2 → (∀ k, O k → ¬ O' k) → (∀ k, O' k → w.heap.size + 1 ≤ k ∧ k ≠ w1.heap.size) → RacM w words (.slice A hs.length c) hs w1.heap.size u1 u2 A2 := fun u1 u2 O O' A1 A2 hO h ht hn hk => h.touch ht fun i hi => by
      have h1 := hk i hi
      have h2 : ¬ (i = w.heap.size + 1 ∨ i = w.heap.size + 2) := fun h => hn i (by rw [hO]; exact h) hi
      omega
    refine range_owned (gf := 43) (lb := #[.pointer (some ⟨w1.heap.size, 0, none⟩)]) rfl (enters_of Tryd.func43 (by kernel_rfl) rfl) (fun x => #[.agg (row x)]) (fun _ => rfl)
      (fun pre x => Reach hs x ∧ pre.length < 1073741824) (fun xs => xs.Nodup ∧ ∀ z, z ∈ xs ↔ Reach hs z) (fun pre => ∀ z ∈ pre, Reach hs z)
      (fun pre O W => O = (fun k => k = w.heap.size + 1 ∨ k = w.heap.size + 2) ∧ RacM w words (.slice A hs.length c) hs w1.heap.size (.bool false) .nilIface W ∧ ∀ z ∈ pre, raceB hs z = false)
      (fun c' pre O W => c' = .ret ∧ O = (fun k => k = w.heap.size + 1 ∨ k = w.heap.size + 2) ∧ RacM w words (.slice A hs.length c) hs w1.heap.size (.bool true) .nilIface W ∧ ∃ z, Reach hs z ∧ raceB hs z = true)
      (fun k => w.heap.size + 1 ≤ k ∧ k ≠ w1.heap.size) ?hI ?hIx (fun k => k = w.heap.size + 1 ∨ k = w.heap.size + 2) ⟨rfl, HM.out, fun z hz => by cases hz⟩ ?hok (fun k hk => by omega) ?hseq
      (fun x Bx a1 W => Block W Bx 63 (row x) ∧ a1 = { tmps := #[.agg #[.int .i64 words, .slice A hs.length c], .pointer (some ⟨w.heap.size, 0, none⟩), .pointer (some ⟨w.heap.size + 1, 0, none⟩), .pointer (some ⟨w.heap.size + 1 + 1, 0, none⟩), .nilIface, .pointer (some ⟨Bx, 0, none⟩), .agg #[.int .i64 words, .slice A hs.length c], .nilIface, .nilIface, .bool false, undef, .agg #[.int .i64 words, .slice A hs.length c], .func (.func 43) #[] #[.pointer (some ⟨w1.heap.size, 0, none⟩)], .agg (row x), undef, undef, undef], defers := [] })
      (fun x Bx a1 W1 W2 l h ht hl => ⟨h.1.touch ht fun h => hl h.symm, h.2⟩) ?assign ?body ?done ?stop
    case hI => exact fun xs => ⟨fun O O' A1 A2 h ht hn hk => ⟨h.1, hstay _ _ O O' A1 A2 h.1 h.2.1 ht hn hk, h.2.2⟩, fun O A1 h k hk => by
      rw [h.1] at hk
      have := h.2.1.2.2.1.lt
      have := h.2.1.2.1.lt
      omega⟩
    case hIx => exact fun c' xs => ⟨fun O O' A1 A2 h ht hn hk => ⟨h.1, h.2.1, hstay _ _ O O' A1 A2 h.2.1 h.2.2.1 ht hn hk, h.2.2.2⟩, fun O A1 h k hk => by
      rw [h.2.1] at hk
      have := h.2.2.1.2.2.1.lt
      have := h.2.2.1.2.1.lt
      omega⟩
    case hok => exact fun xs O A1 h k hk => by rw [h.1] at hk; omega
    case hseq => exact fun l J Jx O1 W hJ hJO hT hl hO1 hY h0 => (reached1_any words _ hs HW.out w1.heap.size w.heap.size l J Jx O1 W (fun k => w.heap.size + 1 ≤ k ∧ k ≠ w1.heap.size) (fun k hk => by omega) (fun k hk => by have := hT.size; omega) hJ hJO (HM.out.2.2.2.1.touch hT (by omega) fun i h => h.elim) (by have := hT.size; omega) (by omega) hY h0).mono fun _ _ h => h
    case assign =>
      intro l O pre x W K hi hx hK
      have hx16 := (hx.1.good HW.out).fit.1
      have HX := Lib.hid hx16
      have HKK := Lib.hid hK
      have HA := Lib.hid (Block.made W 63 #[.int .i64 0, .int .i64 0, .int .i64 0, .int .i64 0, .int .i64 0, .int .i64 0, .int .i64 0, .int .i64 0, .int .i64 0, .int .i64 0, .int .i64 0, .int .i64 0, .int .i64 0, .int .i64 0, .int .i64 0, .int .i64 0])
      clear hK hx hi hx16
      gi_wp2_with (refine wpListIn_store_row rfl 63 (.tmp 5) (.tmp 13) rfl W.heap.size (row x) rfl rfl _ _ HA.out (by rw [row_size, HX.out]; exact Tst.info) (by rw [row_size, HX.out]; rfl) (row_one _) ?_)
      exact HKK.out _ _ _ (((Touch.refl _ W).alloc _).setRow (Or.inr (Nat.le_refl _)) _) (Nat.le_refl _) ⟨setRow_heap _ _ _ _ _ _ HA.out, rfl⟩
    case body =>
      rintro l O pre x Bx a1 W ⟨hO, hm, hp⟩ hx ⟨hbx, rfl⟩ hn
      have HX := Lib.hid ((hx.1.good HW.out).fit.1)
      have HF := Lib.hid ((hx.1.good HW.out).fit)
      have HBX := Lib.hid hbx
      have HMW := Lib.hid hm
      have HPR := Lib.hid hp
      have HO := Lib.hid hO
      have HRX := Lib.hid hx.1
      have d0 := hm.1.cell 0
      have d1 := hm.1.cell 1
      simp at d0 d1
      have hsW : w.heap.size + 2 < W.heap.size := hm.2.2.1.lt
      have HHW := Lib.hid (show Hands W W.heap.size (.slice A hs.length c) hs from hm.2.2.2.1.hands.more (by omega))
      clear hbx hm hp hO hx hn
      by_cases hr : raceB hs x = true
      · have HR := Lib.hid hr
        clear hr
        gi_wp2_with (refine wpListIn_load_row rfl 63 (.tmp 5) rfl Bx rfl _ (row x) _ _ HBX.out Tryd.underlying63 rfl (by rw [row_size, HX.out]; exact Tst.info) ?_)
        refine ⟨trivial, rfl, (CallsIn.inRound l (callsIn_wide.2 (racing_any x words _ hs W HHW.out HW.out.few HF.out))).mono ?_⟩
        rw [HR.out]; rintro e w2 ⟨rfl, hb2⟩; have HB2 := Lib.hid hb2; clear hb2; have e1 := (HMW.out.2.1.below HB2.out (by omega)).cell 0; have e2 := (HMW.out.2.2.1.below HB2.out (by omega)).cell 0; have g1 := (HMW.out.2.1.below HB2.out (by omega)).free 0; have g2 := (HMW.out.2.2.1.below HB2.out (by omega)).free 0; simp at e1 e2
        gi_wp2_with fail
        have hT2 : Touch (fun _ => False) W w2 := Touch.of_below HB2.out fun i h1 h2 => by omega
        have hm2 := (HMW.out.touch hT2 fun i h => h.elim).put (.bool true) .nilIface
        exact ⟨O, ⟨rfl, HO.out, hm2, x, HRX.out, HR.out⟩, (hT2.mono fun _ h => h.elim).trans (put_touch w2 w.heap.size (.bool true) .nilIface) fun i h => Or.inl (by rw [HO.out]; exact h), fun k h => Or.inl h⟩
      · have HR := Lib.hid (Bool.eq_false_iff.2 hr)
        clear hr
        gi_wp2_with (refine wpListIn_load_row rfl 63 (.tmp 5) rfl Bx rfl _ (row x) _ _ HBX.out Tryd.underlying63 rfl (by rw [row_size, HX.out]; exact Tst.info) ?_)
        refine ⟨trivial, rfl, (CallsIn.inRound l (callsIn_wide.2 (racing_any x words _ hs W HHW.out HW.out.few HF.out))).mono ?_⟩
        rw [HR.out]; rintro e w2 ⟨rfl, hb2⟩; have HB2 := Lib.hid hb2; clear hb2
        gi_wp2_with fail
        have hT2 : Touch (fun _ => False) W w2 := Touch.of_below HB2.out fun i h1 h2 => by omega
        refine ⟨O, ⟨HO.out, HMW.out.touch hT2 fun i h => h.elim, fun z hz => ?_⟩, hT2.mono fun _ h => h.elim, fun k h => Or.inl h⟩
        rcases List.mem_append.1 hz with h | h
        · exact HPR.out z h
        · rw [List.mem_singleton.1 h]; exact HR.out
    case done =>
      rintro D xs O W hD hd ⟨hO, hm, hp⟩ hn hDW
      have HMW := Lib.hid hm
      have HDW := Lib.hid hDW
      have HPR := Lib.hid hp
      have HD2 := Lib.hid hd
      have e1 := hm.2.1.cell 0
      have e2 := hm.2.2.1.cell 0
      have g1 := hm.2.1.free 0
      have g2 := hm.2.2.1.free 0
      simp at e1 e2
      clear hm hp hd hDW
      go_wp2_with fail
      have hm2 := (HMW.out.put (.bool false) .nilIface).touch (touch_one _ D (.deferred none)) fun i h => by omega
      have f1 := hm2.2.1.cell 0
      have f2 := hm2.2.2.1.cell 0
      simp at f1 f2
      have hDW2 := ((put_touch W w.heap.size (.bool false) .nilIface).block D (Array.getElem?_eq_some_iff.1 HDW.out).1 (by omega)).trans HDW.out
      refine leave_mark hDW2 (v := .tuple #[.bool false, .nilIface]) (by simp [results, Tryd.results11, go_sem, f1, f2]) ⟨by rw [HC.out, scRace_false HW.out HD2.out.2 HPR.out]; rfl, hm2.2.2.2.2.1⟩
    case stop =>
      rintro D c' pre O W hD hd ⟨rfl, hO, hm, hp⟩ hn hDW
      have HMW := Lib.hid hm
      have HDW := Lib.hid hDW
      have HPR := Lib.hid hp
      refine wpIn_wide.2 ?_
      clear hm hp hd hDW
      go_wp2_with fail
      have hm2 := HMW.out.touch (touch_one _ D (.deferred none)) fun i h => by omega
      have f1 := hm2.2.1.cell 0
      have f2 := hm2.2.2.1.cell 0
      simp at f1 f2
      refine leave_mark HDW.out (v := .tuple #[.bool true, .nilIface]) (by simp [results, Tryd.results11, go_sem, f1, f2]) ⟨by rw [HC.out, (scRace_iff HW.out).2 HPR.out]; rfl, hm2.2.2.2.2.1⟩
  · have HC := Lib.hid hc
    clear hc
    go_wp2_with (first | (go_at_call 23; refine (check_any words _ hs _ ((HH.out.keep fun p hp => HT0.out.cell hp (fun h => h)).more HT0.out.size)).mono ?_; rw [show errV 67 (check words hs) = Value.iface 67 (.int .i64 (check words hs)) from if_neg HC.out]; rintro e w1 ⟨rfl, hb1⟩; have HB1 := Lib.hid hb1; clear hb1; have e1 := (HK1.out.below HB1.out HK1.out.lt).cell 0; have e2 := (HK2.out.below HB1.out HK2.out.lt).cell 0; have g1 := (HK1.out.below HB1.out HK1.out.lt).free 0; have g2 := (HK2.out.below HB1.out HK2.out.lt).free 0; simp at e1 e2))
    have hb1 := HB1.out
    have hT1 := (HT0.out.trans (Touch.of_below (O := fun _ => False) hb1 fun i h1 h2 => by omega) fun _ h => h.elim).below (Nat.le_refl _) fun _ h => h.elim
    have hs1 : w.heap.size + 3 ≤ w1.heap.size := by have := hb1.size; simp only [World.size_alloc] at this; omega
    have hv : (check words hs) ≠ 0 := HC.out
    have q1 := ((HK1.out.below hb1 HK1.out.lt).put 0 (.bool false)).far (p := ⟨w.heap.size + 1 + 1, 0, none⟩) (by simp) (Value.iface 67 (.int .i64 (check words hs)))
    have q2 := ((HK2.out.below hb1 HK2.out.lt).far (p := ⟨w.heap.size + 1, 0, none⟩) (by simp) (.bool false)).put 0 (Value.iface 67 (.int .i64 (check words hs)))
    have f1 := q1.cell 0
    have f2 := q2.cell 0
    simp at f1 f2
    refine ⟨.tuple #[.bool false, .iface 67 (.int .i64 (check words hs))], by simp [results, Tryd.results11, go_sem, f1, f2], by simp [HC.out, errV], hT1.trans (((put_touch w1 w.heap.size (.bool false) _).mono fun i h => h).below (by omega) fun i h => by omega)⟩
end Go.Proofs.YthpnnmkpbkbanaaDoor
