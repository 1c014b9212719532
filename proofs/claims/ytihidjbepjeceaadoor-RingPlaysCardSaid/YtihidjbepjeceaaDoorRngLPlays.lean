/-
  The walk of latchgarthlaw3.RingPlays: it answers true, whatever the size and the steps.
-/
import Derived.Test.YtihidjbepjeceaaDoorRngUP
import Derived.Test.YtihidjbepjeceaaDoorRingEnds
import Derived.Deep.RegionHeld3
import Derived.Deep.CutBlock
namespace Go.Proofs.YtihidjbepjeceaaDoor.Ring
open Go.RowKit Rf

theorem inP_any (z lo hi : Int) (b : Bool) (hb : decide (lo ≤ z ∧ z ≤ hi) = b) (w : World) : Calls Tryd.prog 11 #[.int .i64 z, .int .i64 lo, .int .i64 hi] w fun e w' => e = .returned (.bool b) ∧ w = w' := by
  rw [← hb]
  by_cases h0 : lo ≤ z
  · by_cases h1 : z ≤ hi
    · rw [decide_eq_true (show lo ≤ z ∧ z ≤ hi from ⟨h0, h1⟩)]
      go_enter Tryd.func11, Tryd.ntmps11
      go_wp2
      go_ret
      exact ⟨rfl, rfl⟩
    · rw [decide_eq_false (show ¬ (lo ≤ z ∧ z ≤ hi) from fun h => h1 h.2)]
      go_enter Tryd.func11, Tryd.ntmps11
      go_wp2
      go_ret
      exact ⟨rfl, rfl⟩
  · rw [decide_eq_false (show ¬ (lo ≤ z ∧ z ≤ hi) from fun h => h0 h.1)]
    go_enter Tryd.func11, Tryd.ntmps11
    go_wp2
    go_ret
    exact ⟨rfl, rfl⟩
theorem zeros_pn {F : Nat → Prop} {W : World} {h n : Nat} (k : IRow W h n (fun _ => 0)) (hF : ¬ F h) (h1 : 1 ≤ n) : pn n rgnew F W (.slice (some ⟨h, 0, none⟩) n n) := by
  refine ⟨_, n, rfl, fun e => ?_, fun _ => ⟨h, 0, rfl, k.lt, hF, fun i P hP => ?_⟩⟩
  · have := sl_len n (fun i => isInt ((rgnew.pl i : Nat) : Int)); rw [e] at this; simp at this; omega
  · have hi : i < n := by have := (List.getElem?_eq_some_iff.1 hP).1; simpa using this
    rw [sl_get _ hi] at hP
    rw [← Option.some.inj hP]
    exact ⟨_, by rw [Nat.zero_add]; exact k.cell hi, rfl⟩
theorem nums_pn {F : Nat → Prop} {W : World} {n c : Nat} {A : Option Addr} {s : RGS} (h : pn n s F W (.slice A n c)) (h1 : 1 ≤ n) (h8 : n ≤ 1000) : Nums W W.heap.size (.slice A n c) (lkPlaces n s) := by
  obtain ⟨b, o, rfl, hb, _, _⟩ := nm_at h (i := 0) (by omega)
  refine ⟨some ⟨b, o, none⟩, c, by rw [lkPlaces_len], by rw [lkPlaces_len]; omega, fun _ => ⟨b, o, rfl, hb, fun i z hz => ?_⟩⟩
  have hi : i < n := by have := (List.getElem?_eq_some_iff.1 hz).1; rwa [lkPlaces_len] at this
  obtain ⟨b2, o2, e2, _, _, hc⟩ := nm_at h hi
  injection e2 with e2
  injection e2 with e2 e3 _
  subst e2 e3
  rw [hc]
  have : (lkPlaces n s)[i]? = some ((s.pl i : Nat) : Int) := by simp [lkPlaces, hi]
  rw [this] at hz
  rw [← Option.some.inj hz]
set_option maxRecDepth 100000 in
set_option maxHeartbeats 8000000 in
theorem plays_any (z : Int) (sv : Value) (steps : List Int) (w : World) (hn : Nums w w.heap.size sv steps) (hg : ErrVar w) :
    Calls Tryd.prog 3 #[.int .i64 z, sv] w fun e w' => e = .returned (.bool true) ∧ Below w.heap.size w w' := by
  obtain ⟨A, c, rfl, hlen, -⟩ := id hn
  have HN := Lib.hid hn
  have HG := Lib.hid hg
  clear hn hg
  by_cases hz : 1 ≤ z ∧ z ≤ 8
  · obtain ⟨n, rfl⟩ := Int.eq_ofNat_of_zero_le (show 0 ≤ z by omega)
    have h1 : 1 ≤ n := by omega
    have h8 : n ≤ 8 := by omega
    have h1I : ¬ (n : Int) < 1 := by omega
    have h8I : ¬ 8 < (n : Int) := by omega
    have hmk := fun W => make_ints n (by omega) W
    clear hz
    go_enter Tryd.func3, Tryd.ntmps3
    go_upto_region 7 with (go_at_call 4; refine (newL (Below.refl _ _) h1 h8).mono ?_; rintro e w1 ⟨g, rfl, hl, -⟩; have HL := Lib.hid hl; clear hl)
    obtain ⟨b, hb⟩ : ∃ b, b = w1.heap.size + 1 := ⟨_, rfl⟩
    obtain ⟨V, hV⟩ : ∃ V, V = (w1.alloc (.cells (madeCells #[.int .i64 0] n) 3)).alloc (.cells #[.slice (some ⟨w1.heap.size, 0, none⟩) n n, .int .i64 0, .int .i64 0, .int .i64 0, .int .i64 0, .int .i64 0, .int .i64 0] 30) := ⟨_, rfl⟩
    have hup : UP w V g b n rgnew 0 rgnew (some ⟨w1.heap.size, 0, none⟩) n := by
      have hg1 := HL.out.lt
      have hbv : Below w1.heap.size w1 V := by rw [hV]; exact ((Below.refl _ w1).alloc (Nat.le_refl _) _).alloc (by simp) _
      refine ⟨HL.out.on hbv (Nat.le_refl _), ?_, by omega, ?_⟩
      · rw [hV, hb]
        have := Block.made (w1.alloc (.cells (madeCells #[.int .i64 0] n) 3)) 30 #[.slice (some ⟨w1.heap.size, 0, none⟩) n n, .int .i64 0, .int .i64 0, .int .i64 0, .int .i64 0, .int .i64 0, .int .i64 0]
        simp at this
        exact this
      · rw [hV]
        exact zeros_pn ((IRow.made w1 n).alloc _) (fun e => by omega) h1
    have HU0 := Lib.hid hup
    rw [← hV, ← hb]
    clear hV hb hup HL hmk
    go_wp2_with fail
    go_loopw [8] (fun i wr => ∃ (k : Nat) (s : RGS) (A0 : Option Addr) (c0 : Nat), k ≤ steps.length ∧ i = .int .i64 k ∧ k ≤ 300 ∧ UP w wr g b n s k s A0 c0) (fun i _ => steps.length - (intOf i).toNat)
    case atStart => exact ⟨0, rgnew, _, _, by omega, rfl, by omega, HU0.out⟩
    case round =>
      clear HU0
      obtain ⟨k, s, A0, c0, hk, rfl, hk2, hup⟩ := hrel
      by_cases hgo : k < steps.length ∧ k < 300
      · have hI : (k : Int) < steps.length := by omega
        have h2I : (k : Int) < 300 := by omega
        obtain ⟨hlt, hk300⟩ := hgo
        obtain ⟨x, hx⟩ : ∃ l, steps[k]? = some l := ⟨steps[k], List.getElem?_eq_getElem hlt⟩
        obtain ⟨bs, os, rfl, hbw, hxc⟩ := (HN.out.below hup.lk.below (Nat.le_refl _)).at_ hx
        have HU := Lib.hid hup
        clear hx hup hbw
        go_upto_if 60 with fail
        clear hxc
        go_cut [] (fun wx => ∃ (s' : RGS) (B : Option Addr) (d : Nat), UP w wx g b n s' (k + 1) s' B d)
        case first =>
          by_cases h2x : x = -2
          · subst h2x
            have HRF := Lib.hid (refput_any wr HU.out.pl (fun x hx => HU.out.F x hx) HU.out.lk.ok h1 h8 (by have := HU.out.lk.age; omega))
            obtain ⟨q0, q1, q2, q3, q4, q5, q6⟩ := HU.out.q
            have ff0 := HU.out.box.free 0
            have ff1 := HU.out.box.free 1
            have ff2 := HU.out.box.free 2
            have ff3 := HU.out.box.free 3
            have ff4 := HU.out.box.free 4
            have ff5 := HU.out.box.free 5
            have ff6 := HU.out.box.free 6
            go_upto_region 14 with (go_at_call 6; (with_reducible refine HRF.out.mono ?_); rintro e w5 ⟨E, f, rfl, hr, hb⟩; have HR5 := Lib.hid hr; have HB5 := Lib.hid hb; clear hr hb)
            clear q0 ff0 q1 ff1 q2 ff2 q3 ff3 q4 ff4 q5 ff5 q6 ff6
            clear HRF
            obtain ⟨ST, hST⟩ : ∃ t, t = sSp n s := ⟨_, rfl⟩
            rw [← hST] at HR5 ⊢
            have HST := Lib.hid hST
            obtain ⟨bv, hbv⟩ : ∃ x, x = w5.heap.size := ⟨_, rfl⟩
            obtain ⟨wy, hwy⟩ : ∃ x, x = w5.alloc (.cells #[.slice E n f, .int .i64 ((ST.hd : Nat) : Int), .int .i64 ((ST.tl : Nat) : Int), .int .i64 ((ST.pa : Nat) : Int), .int .i64 ((ST.ga : Nat) : Int), .int .i64 ((ST.pv : Nat) : Int), .int .i64 ((ST.gv : Nat) : Int)] 30) := ⟨_, rfl⟩
            have hk5 : Block wy bv 30 #[.slice E n f, .int .i64 ((ST.hd : Nat) : Int), .int .i64 ((ST.tl : Nat) : Int), .int .i64 ((ST.pa : Nat) : Int), .int .i64 ((ST.ga : Nat) : Int), .int .i64 ((ST.pv : Nat) : Int), .int .i64 ((ST.gv : Nat) : Int)] := by rw [hwy, hbv]; exact Block.made _ _ _
            have hal : Below w5.heap.size w5 wy := by rw [hwy]; exact (Below.refl _ w5).alloc (Nat.le_refl _) _
            have hu2 := (HU.out.call HB5.out).call hal
            have hr2 := (pn_stb n ST).below hal HR5.out
            rw [← hbv, ← hwy]
            clear hbv hwy hST HR5 hal
            have s0 := hk5.cell 0
            have s1 := hk5.cell 1
            have s2 := hk5.cell 2
            have s3 := hk5.cell 3
            have s4 := hk5.cell 4
            have s5 := hk5.cell 5
            have s6 := hk5.cell 6
            simp at s0 s1 s2 s3 s4 s5 s6
            have HUY := Lib.hid hu2
            obtain ⟨q0, q1, q2, q3, q4, q5, q6⟩ := HUY.out.q
            have ff0 := HUY.out.box.free 0
            have ff1 := HUY.out.box.free 1
            have ff2 := HUY.out.box.free 2
            have ff3 := HUY.out.box.free 3
            have ff4 := HUY.out.box.free 4
            have ff5 := HUY.out.box.free 5
            have ff6 := HUY.out.box.free 6
            have HUS := Lib.hid (hu2.store hr2)
            clear hk5 hu2 hr2
            go_upto_region 15 with fail
            clear s0 s1 s2 s3 s4 s5 s6
            clear q0 ff0 q1 ff1 q2 ff2 q3 ff3 q4 ff4 q5 ff5 q6 ff6
            clear HUY
            have hus := HUS.out
            obtain ⟨V, hV⟩ : ∃ V, V = (((((((wy.setCell ⟨b, 0, none⟩ (.slice E n f)).setCell ⟨b, 1, none⟩ (.int .i64 ((ST.hd : Nat) : Int))).setCell ⟨b, 2, none⟩ (.int .i64 ((ST.tl : Nat) : Int))).setCell ⟨b, 3, none⟩ (.int .i64 ((ST.pa : Nat) : Int))).setCell ⟨b, 4, none⟩ (.int .i64 ((ST.ga : Nat) : Int))).setCell ⟨b, 5, none⟩ (.int .i64 ((ST.pv : Nat) : Int))).setCell ⟨b, 6, none⟩ (.int .i64 ((ST.gv : Nat) : Int))) := ⟨_, rfl⟩
            rw [← hV] at hus ⊢
            have HUV := Lib.hid hus
            clear hus hV HUS
            have HSP := Lib.hid (spL HUV.out.lk (by omega))
            obtain ⟨D, hD⟩ : ∃ D, D = pD n s := ⟨_, rfl⟩
            obtain ⟨G, hG⟩ : ∃ G, G = pP s := ⟨_, rfl⟩
            obtain ⟨EE, hEE⟩ : ∃ EE, EE = pE s := ⟨_, rfl⟩
            rw [← hD, ← hG, ← hEE, ← HST.out] at HSP
            rw [← hD, ← hG, ← hEE]
            have hDD : (D != D) = false := by simp
            have hGG : (G != G) = false := by simp
            clear hD hG hEE
            go_wp2_with (first | (go_at_call 7; (with_reducible refine HSP.out.mono ?_); rintro e w4 ⟨rfl, hl4, ht4⟩; have HU4 := Lib.hid (HUV.out.turn hl4 ht4); clear hl4 ht4) | (go_at_call 5; (with_reducible refine (errIs HG.out HU4.out.lk.below).mono ?_); rintro e w5 ⟨rfl, hb5⟩; have HU5 := Lib.hid (HU4.out.call hb5); clear hb5))
            go_meet
            exact ⟨ST, _, _, HU5.out⟩
          by_cases h3x : x = -3
          · subst h3x
            clear h2x
            have HRF := Lib.hid (refget_any wr HU.out.pl (fun x hx => HU.out.F x hx) HU.out.lk.ok h1 h8 (by have := HU.out.lk.age; omega))
            obtain ⟨q0, q1, q2, q3, q4, q5, q6⟩ := HU.out.q
            have ff0 := HU.out.box.free 0
            have ff1 := HU.out.box.free 1
            have ff2 := HU.out.box.free 2
            have ff3 := HU.out.box.free 3
            have ff4 := HU.out.box.free 4
            have ff5 := HU.out.box.free 5
            have ff6 := HU.out.box.free 6
            go_upto_region 20 with (go_at_call 8; (with_reducible refine HRF.out.mono ?_); rintro e w5 ⟨E, f, rfl, hr, hb⟩; have HR5 := Lib.hid hr; have HB5 := Lib.hid hb; clear hr hb)
            clear q0 ff0 q1 ff1 q2 ff2 q3 ff3 q4 ff4 q5 ff5 q6 ff6
            clear HRF
            obtain ⟨ST, hST⟩ : ∃ t, t = sSg n s := ⟨_, rfl⟩
            rw [← hST] at HR5 ⊢
            have HST := Lib.hid hST
            obtain ⟨bv, hbv⟩ : ∃ x, x = w5.heap.size := ⟨_, rfl⟩
            obtain ⟨wy, hwy⟩ : ∃ x, x = w5.alloc (.cells #[.slice E n f, .int .i64 ((ST.hd : Nat) : Int), .int .i64 ((ST.tl : Nat) : Int), .int .i64 ((ST.pa : Nat) : Int), .int .i64 ((ST.ga : Nat) : Int), .int .i64 ((ST.pv : Nat) : Int), .int .i64 ((ST.gv : Nat) : Int)] 30) := ⟨_, rfl⟩
            have hk5 : Block wy bv 30 #[.slice E n f, .int .i64 ((ST.hd : Nat) : Int), .int .i64 ((ST.tl : Nat) : Int), .int .i64 ((ST.pa : Nat) : Int), .int .i64 ((ST.ga : Nat) : Int), .int .i64 ((ST.pv : Nat) : Int), .int .i64 ((ST.gv : Nat) : Int)] := by rw [hwy, hbv]; exact Block.made _ _ _
            have hal : Below w5.heap.size w5 wy := by rw [hwy]; exact (Below.refl _ w5).alloc (Nat.le_refl _) _
            have hu2 := (HU.out.call HB5.out).call hal
            have hr2 := (pn_stb n ST).below hal HR5.out
            rw [← hbv, ← hwy]
            clear hbv hwy hST HR5 hal
            have s0 := hk5.cell 0
            have s1 := hk5.cell 1
            have s2 := hk5.cell 2
            have s3 := hk5.cell 3
            have s4 := hk5.cell 4
            have s5 := hk5.cell 5
            have s6 := hk5.cell 6
            simp at s0 s1 s2 s3 s4 s5 s6
            have HUY := Lib.hid hu2
            obtain ⟨q0, q1, q2, q3, q4, q5, q6⟩ := HUY.out.q
            have ff0 := HUY.out.box.free 0
            have ff1 := HUY.out.box.free 1
            have ff2 := HUY.out.box.free 2
            have ff3 := HUY.out.box.free 3
            have ff4 := HUY.out.box.free 4
            have ff5 := HUY.out.box.free 5
            have ff6 := HUY.out.box.free 6
            have HUS := Lib.hid (hu2.store hr2)
            clear hk5 hu2 hr2
            go_upto_region 21 with fail
            clear s0 s1 s2 s3 s4 s5 s6
            clear q0 ff0 q1 ff1 q2 ff2 q3 ff3 q4 ff4 q5 ff5 q6 ff6
            clear HUY
            have hus := HUS.out
            obtain ⟨V, hV⟩ : ∃ V, V = (((((((wy.setCell ⟨b, 0, none⟩ (.slice E n f)).setCell ⟨b, 1, none⟩ (.int .i64 ((ST.hd : Nat) : Int))).setCell ⟨b, 2, none⟩ (.int .i64 ((ST.tl : Nat) : Int))).setCell ⟨b, 3, none⟩ (.int .i64 ((ST.pa : Nat) : Int))).setCell ⟨b, 4, none⟩ (.int .i64 ((ST.ga : Nat) : Int))).setCell ⟨b, 5, none⟩ (.int .i64 ((ST.pv : Nat) : Int))).setCell ⟨b, 6, none⟩ (.int .i64 ((ST.gv : Nat) : Int))) := ⟨_, rfl⟩
            rw [← hV] at hus ⊢
            have HUV := Lib.hid hus
            clear hus hV HUS
            have HSP := Lib.hid (sgL HUV.out.lk (by omega))
            obtain ⟨D, hD⟩ : ∃ D, D = gD s := ⟨_, rfl⟩
            obtain ⟨G, hG⟩ : ∃ G, G = gG s := ⟨_, rfl⟩
            obtain ⟨EE, hEE⟩ : ∃ EE, EE = gE s := ⟨_, rfl⟩
            rw [← hD, ← hG, ← hEE, ← HST.out] at HSP
            rw [← hD, ← hG, ← hEE]
            have hDD : (D != D) = false := by simp
            have hGG : (G != G) = false := by simp
            clear hD hG hEE
            go_wp2_with (first | (go_at_call 9; (with_reducible refine HSP.out.mono ?_); rintro e w4 ⟨rfl, hl4, ht4⟩; have HU4 := Lib.hid (HUV.out.turn hl4 ht4); clear hl4 ht4) | (go_at_call 5; (with_reducible refine (errIs HG.out HU4.out.lk.below).mono ?_); rintro e w5 ⟨rfl, hb5⟩; have HU5 := Lib.hid (HU4.out.call hb5); clear hb5))
            go_meet
            exact ⟨ST, _, _, HU5.out.older (by omega)⟩
          by_cases h1x : x = -1
          · subst h1x
            clear h2x h3x
            by_cases ha : s.ga = 0
            · have hs : sGet s = rgget s := by unfold sGet; rw [if_pos ha]
              have hc := HU.out.q.2.2.2.2.1
              have fc := HU.out.box.free 4
              rw [ha] at hc
              go_upto_region 28 with fail
              clear hc fc
              have hus := HU.out.get4
              obtain ⟨V, hV⟩ : ∃ V, V = wr.setCell ⟨b, 4, none⟩ (.int .i64 4) := ⟨_, rfl⟩
              rw [← hV] at hus ⊢
              have HUV := Lib.hid hus
              have HGT := Lib.hid (getL HUV.out.lk)
              rw [hs, ha, show sE 0 = 0 from rfl] at HGT
              clear hus hV hs ha
              go_wp2_with (first | (go_at_call 10; (with_reducible refine HGT.out.mono ?_); rintro e w4 ⟨rfl, hl4, ht4⟩; have HU4 := Lib.hid (HUV.out.turn hl4 ht4); clear hl4 ht4) | (go_at_call 5; (with_reducible refine (errIs HG.out HU4.out.lk.below).mono ?_); rintro e w5 ⟨rfl, hb5⟩; have HU5 := Lib.hid (HU4.out.call hb5); clear hb5))
              go_meet
              exact ⟨rgget s, _, _, HU5.out.older (by omega)⟩
            · have hs : sGet s = s := by unfold sGet; rw [if_neg ha]
              have hc := HU.out.q.2.2.2.2.1
              have hI : (((s.ga : Nat) : Int) != 0) = true := by simp; omega
              have HGT := Lib.hid (getL HU.out.lk)
              rw [hs, show sE s.ga = 7 by unfold sE; rw [if_neg ha]] at HGT
              clear hs ha
              go_wp2_with (first | (go_at_call 10; (with_reducible refine HGT.out.mono ?_); rintro e w4 ⟨rfl, hl4, ht4⟩; have HU4 := Lib.hid (HU.out.turn hl4 ht4); clear hl4 ht4) | (go_at_call 5; (with_reducible refine (errIs HG.out HU4.out.lk.below).mono ?_); rintro e w5 ⟨rfl, hb5⟩; have HU5 := Lib.hid (HU4.out.call hb5); clear hb5))
              go_meet
              exact ⟨s, _, _, HU5.out.older (by omega)⟩
          have e1 : (x == -1) = false := by simp; omega
          have e2 : (x == -2) = false := by simp; omega
          have e3 : (x == -3) = false := by simp; omega
          by_cases hin : 0 ≤ x ∧ x ≤ 1000
          · have HIN := Lib.hid (inP_any x 0 1000 true (decide_eq_true hin))
            obtain ⟨y, rfl⟩ := Int.eq_ofNat_of_zero_le hin.1
            have hy : y ≤ 1000 := by omega
            clear hin h1x h2x h3x
            by_cases ha : s.pa = 0
            · have hs : sPut s y = rgput s y := by unfold sPut; rw [if_pos ha]
              have hc := HU.out.q.2.2.2.1
              have fc := HU.out.box.free 3
              have hc5 := HU.out.q.2.2.2.2.2.1
              have fc5 := HU.out.box.free 5
              rw [ha] at hc
              go_upto_region 36 with (go_at_call 11; (with_reducible refine (HIN.out _).mono ?_); rintro e w' ⟨rfl, rfl⟩)
              clear hc fc hc5 fc5
              have hus := HU.out.put35 y
              obtain ⟨V, hV⟩ : ∃ V, V = (wr.setCell ⟨b, 3, none⟩ (.int .i64 1)).setCell ⟨b, 5, none⟩ (.int .i64 (y : Int)) := ⟨_, rfl⟩
              rw [← hV] at hus ⊢
              have HUV := Lib.hid hus
              have HPT := Lib.hid (putL HUV.out.lk y hy)
              rw [hs, ha, show sE 0 = 0 from rfl] at HPT
              clear hus hV hs ha
              go_wp2_with (first | (go_at_call 12; (with_reducible refine HPT.out.mono ?_); rintro e w4 ⟨rfl, hl4, ht4⟩; have HU4 := Lib.hid (HUV.out.turn hl4 ht4); clear hl4 ht4) | (go_at_call 5; (with_reducible refine (errIs HG.out HU4.out.lk.below).mono ?_); rintro e w5 ⟨rfl, hb5⟩; have HU5 := Lib.hid (HU4.out.call hb5); clear hb5))
              go_meet
              exact ⟨rgput s y, _, _, HU5.out.older (by omega)⟩
            · have hs : sPut s y = s := by unfold sPut; rw [if_neg ha]
              have hc := HU.out.q.2.2.2.1
              have hI : (((s.pa : Nat) : Int) != 0) = true := by simp; omega
              have HPT := Lib.hid (putL HU.out.lk y hy)
              rw [hs, show sE s.pa = 7 by unfold sE; rw [if_neg ha]] at HPT
              clear hs ha
              go_wp2_with (first | (go_at_call 11; (with_reducible refine (HIN.out _).mono ?_); rintro e w' ⟨rfl, rfl⟩) | (go_at_call 12; (with_reducible refine HPT.out.mono ?_); rintro e w4 ⟨rfl, hl4, ht4⟩; have HU4 := Lib.hid (HU.out.turn hl4 ht4); clear hl4 ht4) | (go_at_call 5; (with_reducible refine (errIs HG.out HU4.out.lk.below).mono ?_); rintro e w5 ⟨rfl, hb5⟩; have HU5 := Lib.hid (HU4.out.call hb5); clear hb5))
              go_meet
              exact ⟨s, _, _, HU5.out.older (by omega)⟩
          · have HIN := Lib.hid (inP_any x 0 1000 false (decide_eq_false hin))
            have HPT := Lib.hid (putFar HU.out.lk x hin)
            clear hin h1x h2x h3x
            go_wp2_with (first | (go_at_call 11; (with_reducible refine (HIN.out _).mono ?_); rintro e w' ⟨rfl, rfl⟩) | (go_at_call 12; (with_reducible refine HPT.out.mono ?_); rintro e w4 ⟨rfl, hl4, ht4⟩; have HU4 := Lib.hid (HU.out.turn hl4 ht4); clear hl4 ht4) | (go_at_call 5; (with_reducible refine (errIs HG.out HU4.out.lk.below).mono ?_); rintro e w5 ⟨rfl, hb5⟩; have HU5 := Lib.hid (HU4.out.call hb5); clear hb5))
            go_meet
            exact ⟨s, _, _, HU5.out.older (by omega)⟩
        case rest =>
          obtain ⟨s', B, d, hup⟩ := hcut
          obtain ⟨wx, rfl⟩ : ∃ wx : World, wx = wc := ⟨_, rfl⟩
          have HU3 := Lib.hid hup
          have HEN := Lib.hid (endsL hup.lk)
          clear hup HU
          go_upto_region 39 with (go_at_call 13; refine HEN.out.mono ?_; rintro e w9 ⟨rfl, i9, rfl⟩)
          have hud := HU3.out.drewN i9
          obtain ⟨WT, hWT⟩ : ∃ W, W = wx.drewN i9 := ⟨_, rfl⟩
          rw [← hWT] at hud ⊢
          have HU := Lib.hid hud
          clear hud hWT HU3 HEN
          obtain ⟨TH, hTH⟩ : ∃ t : Int, t = ((s'.hd : Nat) : Int) := ⟨_, rfl⟩
          obtain ⟨TL, hTL⟩ : ∃ t : Int, t = ((s'.tl : Nat) : Int) := ⟨_, rfl⟩
          have HTT := Lib.hid (show TH = ((s'.hd : Nat) : Int) ∧ TL = ((s'.tl : Nat) : Int) from ⟨hTH, hTL⟩)
          have HQ : Hid (∀ W, UP w W g b n s' (k + 1) s' B d → (fun W : World => W.cell? ⟨b, 0, none⟩ = some (.slice B n d) ∧ W.cell? ⟨b, 1, none⟩ = some (.int .i64 TH) ∧ W.cell? ⟨b, 2, none⟩ = some (.int .i64 TL)) W) := Lib.hid (fun W h => ⟨h.q.1, by rw [hTH]; exact h.q.2.1, by rw [hTL]; exact h.q.2.2.1⟩)
          rw [← hTH, ← hTL]
          have hA : (TH != TH) = false := by simp
          have hB : (TL != TL) = false := by simp
          have HS := Lib.hid (HQ.out _ HU.out.drew)
          have HPL := Lib.hid (placesL HU.out.drew.lk)
          have HFI := Lib.hid (show ∀ w3 u, Nums w3 w3.heap.size u (lkPlaces n s') → Below WT.heap.size WT w3 → Calls Tryd.prog 14 #[u, .slice B n d] w3 fun e w' => e = .returned (.bool true) ∧ ∃ i, w' = w3.drewN i from fun w3 u hu hb3 =>
            (ints_any (lkPlaces n s') (lkPlaces n s') u _ _ _ w3 hu (nums_pn (HU.out.call hb3).pl h1 (by omega))).mono fun _ _ ⟨he, hx⟩ => ⟨he.trans (by rw [decide_eq_true rfl]), hx⟩)
          clear hTH hTL
          go_region_held3 (fun W : World => W.cell? ⟨b, 0, none⟩ = some (.slice B n d) ∧ W.cell? ⟨b, 1, none⟩ = some (.int .i64 TH) ∧ W.cell? ⟨b, 2, none⟩ = some (.int .i64 TL)) (first | exact HS.out | exact HS3.out | exact HS4.out) ((first | (go_at_call 15; (with_reducible refine HPL.out.mono ?_); rintro e w3 ⟨u, rfl, hu, hb, -⟩; have HB3 := Lib.hid (show Below WT.heap.size WT w3 from below_undrew hb); have HN3 := Lib.hid hu; have HU3 := Lib.hid (HU.out.call (show Below WT.heap.size WT w3 from below_undrew hb)); have HS3 := Lib.hid (HQ.out _ HU3.out); clear hu hb) | (go_at_call 14; (with_reducible refine (HFI.out _ _ HN3.out HB3.out).mono ?_); rintro e w4 ⟨rfl, i4, rfl⟩; have HU4 := Lib.hid (HU3.out.drewN i4); have HS4 := Lib.hid (HQ.out _ HU4.out))))
          all_goals
            go_wp2
            go_roundw
            case rel => exact ⟨k + 1, s', B, d, by omega, by go_num, by omega, HU4.out⟩
            case measure => simp [intOf]; omega
      · have hh : (k : Int) < steps.length ∧ ¬ (k : Int) < 300 ∨ ¬ (k : Int) < steps.length := by omega
        clear hgo
        have HU := Lib.hid hup
        clear hup
        rcases hh with ⟨hI, hJ⟩ | hI
        all_goals
          go_wp2
          go_ret
          exact ⟨rfl, HU.out.lk.below⟩
  · have HZ := Lib.hid hz
    by_cases hz1 : z < 1
    all_goals
      have hz4 : z < 1 ∨ 8 < z := by omega
      clear hz
      have hz5 : ¬ z < 1 → 8 < z := fun h => by omega
      try have hz6 := hz5 hz1
      clear hz5 hz4
      go_enter Tryd.func3, Tryd.ntmps3
      go_wp2_with (first | (go_at_call 4; refine (newBad (Below.refl _ _) z HZ.out).mono ?_; rintro e w2 ⟨rfl, hb⟩; have HB2 := Lib.hid hb; clear hb) | (go_at_call 5; refine (errorIs_any 1 1 w2 (HG.out.below HB2.out HG.out.lt)).mono ?_; rw [decide_eq_true rfl]; rintro e w3 ⟨rfl, hb⟩; have HB3 := Lib.hid hb; clear hb))
      go_ret
      exact ⟨rfl, HB2.out.trans (HB3.out.mono HB2.out.size)⟩
end Go.Proofs.YtihidjbepjeceaaDoor.Ring
