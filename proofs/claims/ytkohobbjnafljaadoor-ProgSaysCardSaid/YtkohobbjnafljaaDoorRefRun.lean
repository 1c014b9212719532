/-
  What latchgarthref1.Run answers.
-/
import Derived.Test.YtkohobbjnafljaaDoorRefDone
import Derived.Test.YtkohobbjnafljaaDoorRefTold
import Derived.Test.YtkohobbjnafljaaDoorRun2
import Derived.Test.YtkohobbjnafljaaDoorInts
import Derived.Deep.DeepCutAuto
import Derived.Deep.RegionWith
import Derived.Deep.LoopGhost
namespace Go.Proofs.YtkohobbjnafljaaDoor
open Go.RowKit

theorem in_same (n lo hi : Int) (w : World) : Calls Tryd.prog 19 #[.int .i64 n, .int .i64 lo, .int .i64 hi] w fun e w' => e = .returned (.bool (inR n lo hi)) ∧ w' = w := (in_any n lo hi w).mono fun _ _ h => ⟨h.1, h.2.symm⟩

theorem put4 {w : World} {g : Nat} {a b c d x0 x1 x2 x3 : Value} (h0 : w.cell? ⟨g, 0, none⟩ = some x0) (h1 : w.cell? ⟨g, 1, none⟩ = some x1) (h2 : w.cell? ⟨g, 2, none⟩ = some x2) (h3 : w.cell? ⟨g, 3, none⟩ = some x3) :
    ((((w.setCell ⟨g, 0, none⟩ a).setCell ⟨g, 1, none⟩ b).setCell ⟨g, 2, none⟩ c).setCell ⟨g, 3, none⟩ d).cell? ⟨g, 0, none⟩ = some a ∧ ((((w.setCell ⟨g, 0, none⟩ a).setCell ⟨g, 1, none⟩ b).setCell ⟨g, 2, none⟩ c).setCell ⟨g, 3, none⟩ d).cell? ⟨g, 1, none⟩ = some b ∧ ((((w.setCell ⟨g, 0, none⟩ a).setCell ⟨g, 1, none⟩ b).setCell ⟨g, 2, none⟩ c).setCell ⟨g, 3, none⟩ d).cell? ⟨g, 2, none⟩ = some c ∧ ((((w.setCell ⟨g, 0, none⟩ a).setCell ⟨g, 1, none⟩ b).setCell ⟨g, 2, none⟩ c).setCell ⟨g, 3, none⟩ d).cell? ⟨g, 3, none⟩ = some d := by
  have ne : ∀ (i j : Nat), i ≠ j → (⟨g, i, none⟩ : Addr) ≠ ⟨g, j, none⟩ := fun i j h e => h (by injection e)
  refine ⟨?_, ?_, ?_, ?_⟩
  · rw [World.cell?_setCell_other _ _ _ _ (ne 3 0 (by omega)), World.cell?_setCell_other _ _ _ _ (ne 2 0 (by omega)), World.cell?_setCell_other _ _ _ _ (ne 1 0 (by omega)), World.cell?_setCell_same _ _ _ h0]
  · rw [World.cell?_setCell_other _ _ _ _ (ne 3 1 (by omega)), World.cell?_setCell_other _ _ _ _ (ne 2 1 (by omega)), World.cell?_setCell_same _ _ _ ((World.cell?_setCell_other _ _ _ _ (ne 0 1 (by omega))).trans h1)]
  · rw [World.cell?_setCell_other _ _ _ _ (ne 3 2 (by omega)), World.cell?_setCell_same _ _ _ ((World.cell?_setCell_other _ _ _ _ (ne 1 2 (by omega))).trans ((World.cell?_setCell_other _ _ _ _ (ne 0 2 (by omega))).trans h2))]
  · rw [World.cell?_setCell_same _ _ _ ((World.cell?_setCell_other _ _ _ _ (ne 2 3 (by omega))).trans ((World.cell?_setCell_other _ _ _ _ (ne 1 3 (by omega))).trans ((World.cell?_setCell_other _ _ _ _ (ne 0 3 (by omega))).trans h3)))]
theorem below4 {B : Nat} {z w : World} {g : Nat} {a b c d : Value} (h : Below B z w) (hg : B ≤ g) : Below B z ((((w.setCell ⟨g, 0, none⟩ a).setCell ⟨g, 1, none⟩ b).setCell ⟨g, 2, none⟩ c).setCell ⟨g, 3, none⟩ d) :=
  (((h.setCell (p := ⟨g, 0, none⟩) hg a).setCell (p := ⟨g, 1, none⟩) hg b).setCell (p := ⟨g, 2, none⟩) hg c).setCell (p := ⟨g, 3, none⟩) hg d

def RefRunPost (w : World) (words : Int) (hs : List (List Ln)) (script : List Int) (e : Ending) (w' : World) : Prop :=
  ∃ v, e = .returned (.tuple #[v, .int .i64 (runErr words hs script)]) ∧ Nums w' w'.heap.size v (runTold words hs script) ∧ Below w.heap.size w w'

set_option maxHeartbeats 2000000 in
theorem refRun_early (words : Int) (hv sv : Value) (hs : List (List Ln)) (script : List Int) (w : World) (hh : Hands w w.heap.size hv hs) (hn : Nums w w.heap.size sv script) (he : check words hs ≠ 0 ∨ 40 < script.length) :
    Calls Tryd.prog 8 #[.agg #[.int .i64 words, hv], sv] w (RefRunPost w words hs script) := by
  have HH := Lib.hid hh
  obtain ⟨A, c, rfl, hlen, hh⟩ := hh
  obtain ⟨A2, c2, rfl, hlen2, hn⟩ := hn
  clear hh hn
  have HB := Lib.hid ((Below.refl w.heap.size w).alloc (Nat.le_refl _) (.cells #[.int .i64 words, .slice A hs.length c] 24))
  by_cases hc : check words hs = 0
  · have h40 : 40 < script.length := by omega
    have HE := Lib.hid (runErr_long hc h40)
    have HC := Lib.hid hc
    have h40' : (40 : Int) < script.length := by omega
    have i1 : (0 : Int) < script.length := by omega
    clear hc he
    go_enter Tryd.func8, Tryd.ntmps8
    go_wp2_with (go_at_call 7; refine (refCheck_any words _ hs _ ((HH.out.below HB.out (Nat.le_refl _)).more (by simp))).mono ?_; rw [HC.out]; rintro e w1 ⟨rfl, hb1⟩)
    refine wp_loop_rounds 1 ?_
    rw [rounds_succ]
    go_wp2
    go_ret2
    exact ⟨_, by rw [HE.out]; rfl, by rw [runTold_bad (by rw [HE.out]; decide)]; exact nums_nil _ _, HB.out.trans (hb1.mono (by simp))⟩
  · have HE := Lib.hid (runErr_check (script := script) hc)
    have HC := Lib.hid hc
    obtain ⟨x, hx⟩ : ∃ x, x = check words hs := ⟨_, rfl⟩
    rw [← hx] at HE hc
    have HX := Lib.hid hx
    have hb0 : (x == 0) = false := beq_eq_false_iff_ne.2 hc
    have hb1 : (x != 0) = true := bne_iff_ne.2 hc
    clear hc he hx
    go_enter Tryd.func8, Tryd.ntmps8
    go_wp2_with (go_at_call 7; refine (refCheck_any words _ hs _ ((HH.out.below HB.out (Nat.le_refl _)).more (by simp))).mono ?_; rw [← HX.out]; rintro e w1 ⟨rfl, hbw1⟩)
    refine wp_loop_rounds 1 ?_
    rw [rounds_succ]
    go_wp2
    all_goals go_ret2
    all_goals exact ⟨_, by rw [HE.out]; rfl, by rw [runTold_bad (by rw [HE.out, HX.out]; exact HC.out)]; exact nums_nil _ _, HB.out.trans (hbw1.mono (by simp))⟩

set_option maxRecDepth 100000 in
set_option maxHeartbeats 4000000 in
theorem refRun_rest (words : Int) (hv sv : Value) (hs : List (List Ln)) (script : List Int) (w : World) (hh : Hands w w.heap.size hv hs) (hn : Nums w w.heap.size sv script) (hc : check words hs = 0) (h40 : script.length ≤ 40) :
    Calls Tryd.prog 8 #[.agg #[.int .i64 words, hv], sv] w (RefRunPost w words hs script) := by
  have hW := check_well hc
  have HH := Lib.hid hh
  obtain ⟨A, c, rfl, hlen, hh⟩ := hh
  obtain ⟨A2, c2, rfl, hlen2, hn⟩ := hn
  have HN := Lib.hid hn
  have HC := Lib.hid hc
  have h40' : decide ((40 : Int) < script.length) = false := decide_eq_false (by omega)
  have h3 := hW.few
  have hw1' := hW.lo
  have hw4' := hW.hi
  clear hh hc hn
  have HB := Lib.hid ((Below.refl w.heap.size w).alloc (Nat.le_refl _) (.cells #[.int .i64 words, .slice A hs.length c] 24))
  have HK := Lib.hid (Block.made w 24 #[.int .i64 words, .slice A hs.length c])
  go_enter Tryd.func8, Tryd.ntmps8
  go_wp2_with (go_at_call 7; refine (refCheck_any words _ hs _ ((HH.out.below HB.out (Nat.le_refl _)).more (by simp))).mono ?_; rw [HC.out]; rintro e w1 ⟨rfl, hb1⟩; have K1 := Lib.hid (HK.out.below hb1 (by simp)); have B1 := Lib.hid (HB.out.trans (hb1.mono (by simp))); clear hb1)
  go_loopw [6, 7] (fun e i wr => ∃ k : Nat, k ≤ script.length ∧ i = .int .i64 k ∧ ((e = .int .i64 0 ∧ (script.take k).all (fun h => inR h 0 ((hs.length : Int) - 1)) = true) ∨ (e = .int .i64 1 ∧ runErr words hs script = 1)) ∧ Block wr w.heap.size 24 #[.int .i64 words, .slice A hs.length c] ∧ Below w.heap.size w wr) (fun _ i _ => script.length - (intOf i).toNat)
  case atStart => exact ⟨0, Nat.zero_le _, rfl, Or.inl ⟨rfl, rfl⟩, K1.out, B1.out⟩
  case round =>
    obtain ⟨k, hk, rfl, he, kb, hb⟩ := hrel
    have c1 := kb.cell 1
    have c0 := kb.cell 0
    simp at c0 c1
    have KB := Lib.hid kb
    have HBR := Lib.hid hb
    clear kb hb K1 B1
    rcases he with ⟨rfl, hall⟩ | ⟨rfl, herr⟩
    · have HA := Lib.hid hall
      clear hall
      by_cases hlt : k < script.length
      · have hkI : (k : Int) < script.length := by omega
        obtain ⟨b, o, rfl, hbb, hcc⟩ := HN.out (by omega)
        obtain ⟨x, hx⟩ : ∃ x, script[k]? = some x := ⟨script[k], List.getElem?_eq_getElem hlt⟩
        have hxc := (HBR.out.cell (p := ⟨b, o + k, none⟩) hbb).trans (hcc k x hx)
        have HX := Lib.hid hx
        have hsub : IntKind.i64.wrap ((hs.length : Int) - 1) = (hs.length : Int) - 1 := IntWalk.i64_in _ (by omega)
        clear hcc hx
        by_cases hgood : inR x 0 ((hs.length : Int) - 1) = true
        · have hI : ∀ w', Calls Tryd.prog 19 #[.int .i64 x, .int .i64 0, .int .i64 ((hs.length : Int) - 1)] w' fun e w'' => e = .returned (.bool true) ∧ w'' = w' := fun w' => by rw [← hgood]; exact in_same _ _ _ _
          have HI := Lib.hid hI
          have HG := Lib.hid hgood
          clear hI hgood
          go_wp2
          go_quiet ((go_at_call 19; exact Calls.quiet_of_same (HI.out _)))
          go_wp2
          go_roundw
          case rel => exact ⟨k + 1, by omega, by go_num, Or.inl ⟨rfl, all_take_succ _ _ _ _ HX.out HA.out HG.out⟩, KB.out.drewN _, below_drewN HBR.out _⟩
          case measure => simp [intOf]; omega
        · have hbad : inR x 0 ((hs.length : Int) - 1) = false := by simpa using hgood
          have hI : ∀ w', Calls Tryd.prog 19 #[.int .i64 x, .int .i64 0, .int .i64 ((hs.length : Int) - 1)] w' fun e w'' => e = .returned (.bool false) ∧ w'' = w' := fun w' => by rw [← hbad]; exact in_same _ _ _ _
          have HI := Lib.hid hI
          have HE := Lib.hid (runErr_bad HC.out h40 k x HX.out hbad)
          clear hI hbad hgood
          go_wp2
          go_quiet ((go_at_call 19; exact Calls.quiet_of_same (HI.out _)))
          go_wp2
          go_roundw
          case rel => exact ⟨k + 1, by omega, by go_num, Or.inr ⟨rfl, HE.out⟩, KB.out.drewN _, below_drewN HBR.out _⟩
          case measure => simp [intOf]; omega
      · have hall := HA.out
        rw [List.take_of_length_le (by omega)] at hall
        have HE := Lib.hid (runErr_good HC.out h40 hall)
        have HSC := Lib.hid (fun (h : Int) (hm : h ∈ script) => inR_true.1 (List.all_eq_true.1 hall h hm))
        clear hall
        have hkI : ¬ (k : Int) < script.length := by omega
        obtain ⟨ws, rfl⟩ : ∃ ws : World, ws = wr := ⟨_, rfl⟩
        go_wp2_with (go_at_call 21; refine (first_any _).mono ?_; rintro e w2 ⟨g, cg, rfl, hcg, hg1, hg2, hr, hb2⟩; have K2 := Lib.hid (KB.out.below hb2 KB.out.lt); have B2 := Lib.hid (HBR.out.trans (hb2.mono HBR.out.size)); have hsB := HBR.out.size; have R2 := Lib.hid hr; simp only [List.length_replicate] at hcg ⊢; clear hr hb2 c0 c1)
        go_loopg [8, 9] script.length (fun q s i wr => ∃ (j g cg : Nat), q + j = script.length ∧ j ≤ script.length ∧ i = .int .i64 j ∧ s = .slice (some ⟨g, 0, none⟩) 46 cg ∧ 46 ≤ cg ∧ g < wr.heap.size ∧ RowAt wr g (refScripted hs (List.replicate 46 0) (script.take j)) ∧ Block wr w.heap.size 24 #[.int .i64 words, .slice A hs.length c] ∧ Below w.heap.size w wr)
        case atStart => exact ⟨0, g, cg, by omega, Nat.zero_le _, rfl, rfl, hcg, hg2, R2.out, K2.out, B2.out⟩
        case round =>
          clear K2 B2 R2 hg1 hg2 hcg
          obtain ⟨j, g1, cg1, hq, hj, rfl, rfl, hcg, hg, hr, kb, hb⟩ := hrel
          have c1 := kb.cell 1
          have c0 := kb.cell 0
          simp at c0 c1
          have KB2 := Lib.hid kb
          have HB2 := Lib.hid hb
          have hlk := kb.lt
          obtain ⟨ys, hys⟩ : ∃ ys, ys = refScripted hs (List.replicate 46 0) (script.take j) := ⟨_, rfl⟩
          rw [← hys] at hr
          have hsim : Sim hs (scripted hs zero16 (script.take j)) ys := by rw [hys]; exact sim_scripted hW _ _ _ (sim_zero hs h3) fun h hm => by have := HSC.out h (List.mem_of_mem_take hm); omega
          have hnu : Nums wr wr.heap.size (.slice (some ⟨g1, 0, none⟩) 46 cg1) ys := hr.nums hsim.ly (by omega) hg
          have HR := Lib.hid hr
          have HY := Lib.hid hys
          have HS := Lib.hid hsim
          have HNU := Lib.hid hnu
          have HHr := Lib.hid ((HH.out.below hb (Nat.le_refl _)).more hb.size)
          clear kb hb hr hys hsim hnu
          by_cases hlt : j < script.length
          · have hjI : (j : Int) < script.length := by omega
            obtain ⟨b, o, rfl, hbb, hcc⟩ := HN.out (by omega)
            obtain ⟨x, hx⟩ : ∃ x, script[j]? = some x := ⟨script[j], List.getElem?_eq_getElem hlt⟩
            have hxr := HSC.out x (List.mem_of_getElem? hx)
            obtain ⟨p, rfl⟩ := Int.eq_ofNat_of_zero_le hxr.1
            have hp : p < hs.length := by omega
            have hxc := (HB2.out.cell (p := ⟨b, o + j, none⟩) hbb).trans (hcc j p hx)
            have HX := Lib.hid hx
            have HL := Lib.hid (show hs[p]? = some hs[p] from List.getElem?_eq_getElem hp)
            obtain ⟨n, m, hn1, hm1, hm20, _⟩ := HS.out.line p hp
            have HM := Lib.hid hm1
            clear hcc hx hn1 hm1
            have hbl : b < wr.heap.size := by omega
            have KS : ∀ x : World, Below wr.heap.size wr x → (x.cell? ⟨w.heap.size, 0, none⟩ = some (.int .i64 words) ∧ x.cell? ⟨w.heap.size, 1, none⟩ = some (.slice A hs.length c) ∧ x.cell? ⟨b, o + j, none⟩ = some (.int .i64 p) ∧ Below wr.heap.size wr x) := fun x h => ⟨(h.cell (p := ⟨w.heap.size, 0, none⟩) hlk).trans c0, (h.cell (p := ⟨w.heap.size, 1, none⟩) hlk).trans c1, (h.cell (p := ⟨b, o + j, none⟩) hbl).trans hxc, h⟩
            have HKS := Lib.hid KS
            have S0 := HKS.out wr.drew (Below.refl _ _).drew
            have HS0 := Lib.hid S0
            have j0 : (0 : Int) ≤ (j : Int) := by omega
            clear KS S0
            by_cases hm : m < hs[p].length
            · obtain ⟨l, hl⟩ : ∃ l, hs[p][m]? = some l := ⟨_, List.getElem?_eq_getElem hm⟩
              have HNX := Lib.hid (nextOf_some HL.out HM.out hl)
              obtain ⟨lk, lr, ld, lv⟩ := l
              have HLN := Lib.hid hl
              clear hl
              have hA : Hands ((wr.alloc (.cells #[.int .i64 0, .int .i64 0, .int .i64 0, .int .i64 0] 50)).drew) ((wr.alloc (.cells #[.int .i64 0, .int .i64 0, .int .i64 0, .int .i64 0] 50)).drew).heap.size (.slice A hs.length c) hs := (HHr.out.keep (fun p hp => World.cell?_alloc_lt _ _ p hp)).more (by simp [World.drew])
              have nA : Nums ((wr.alloc (.cells #[.int .i64 0, .int .i64 0, .int .i64 0, .int .i64 0] 50)).drew) wr.heap.size (.slice (some ⟨g1, 0, none⟩) 46 cg1) ys := HNU.out.keep (fun p hp => World.cell?_alloc_lt _ _ p hp)
              have HA2 := Lib.hid hA
              have NA2 := Lib.hid nA
              clear hA nA
              go_upto_region 15 with fail
              go_cut [10, 11] (fun t10 t11 wx => ∃ gl : Nat, t10 = .pointer (some ⟨gl, 0, none⟩) ∧ t11 = .bool true ∧ wx.cell? ⟨gl, 0, none⟩ = some (.int .i64 lk) ∧ wx.cell? ⟨gl, 1, none⟩ = some (.int .i64 lr) ∧ wx.cell? ⟨gl, 2, none⟩ = some (.int .i64 ld) ∧ wx.cell? ⟨gl, 3, none⟩ = some (.int .i64 lv) ∧ Below wr.heap.size wr wx)
              case first =>
                go_region_with (first | (go_at_call 22; refine (next_any words _ _ hs ys _ p m _ wr.drew (show Hands wr.drew wr.drew.heap.size _ hs from HHr.out.keep (fun _ _ => rfl)) (HNU.out.keep (fun _ _ => rfl)) HL.out HM.out).mono ?_; rw [HNX.out]; simp only [lnV]; rintro e w3 ⟨rfl, hb3⟩; have HB4 := Lib.hid (((Below.refl wr.heap.size wr).drew).trans (show Below wr.heap.size wr.drew w3 from hb3)); clear hb3) | (go_at_call 22; refine (next_any words _ _ hs ys _ p m _ ((wr.alloc (.cells #[.int .i64 0, .int .i64 0, .int .i64 0, .int .i64 0] 50)).drew) HA2.out NA2.out HL.out HM.out).mono ?_; rw [HNX.out]; simp only [lnV]; rintro e w3 ⟨rfl, hb3⟩; have q0 := hb3.cell (p := ⟨wr.heap.size, 0, none⟩) (by simp); have q1 := hb3.cell (p := ⟨wr.heap.size, 1, none⟩) (by simp); have q2 := hb3.cell (p := ⟨wr.heap.size, 2, none⟩) (by simp); have q3 := hb3.cell (p := ⟨wr.heap.size, 3, none⟩) (by simp); have f0 := hb3.frozen (p := ⟨wr.heap.size, 0, none⟩) (by simp); have f1 := hb3.frozen (p := ⟨wr.heap.size, 1, none⟩) (by simp); have f2 := hb3.frozen (p := ⟨wr.heap.size, 2, none⟩) (by simp); have f3 := hb3.frozen (p := ⟨wr.heap.size, 3, none⟩) (by simp); simp at q0 q1 q2 q3 f0 f1 f2 f3; have HB4 := Lib.hid ((((Below.refl wr.heap.size wr).alloc (Nat.le_refl _) (.cells #[.int .i64 0, .int .i64 0, .int .i64 0, .int .i64 0] 50)).drew).trans (hb3.mono (by simp))); clear hb3))
                all_goals (go_wp2_with fail; go_meet; first | exact ⟨_, rfl, rfl, (put4 q0 q1 q2 q3).1, (put4 q0 q1 q2 q3).2.1, (put4 q0 q1 q2 q3).2.2.1, (put4 q0 q1 q2 q3).2.2.2, below4 HB4.out (Nat.le_refl _)⟩ | exact ⟨_, rfl, rfl, by simp, by simp, by simp, by simp, HB4.out.alloc HB4.out.size _⟩)
              case rest =>
                obtain ⟨gl, rfl, rfl, y0, y1, y2, y3, hbx⟩ := hcut
                obtain ⟨wx, rfl⟩ : ∃ wx : World, wx = wc := ⟨_, rfl⟩
                have hxx := (hbx.cell (p := ⟨b, o + j, none⟩) hbl).trans hxc
                have hgl := lt_of_cell y0
                have hsx := hbx.size
                have HBX := Lib.hid hbx
                have KX : ∀ x : World, Below wx.heap.size wx x → (x.cell? ⟨b, o + j, none⟩ = some (.int .i64 p) ∧ x.cell? ⟨gl, 0, none⟩ = some (.int .i64 lk) ∧ x.cell? ⟨gl, 1, none⟩ = some (.int .i64 lr) ∧ x.cell? ⟨gl, 2, none⟩ = some (.int .i64 ld) ∧ x.cell? ⟨gl, 3, none⟩ = some (.int .i64 lv) ∧ Below wx.heap.size wx x) := fun x h => ⟨(h.cell (p := ⟨b, o + j, none⟩) (Nat.lt_of_lt_of_le hbl hsx)).trans hxx, (h.cell (p := ⟨gl, 0, none⟩) hgl).trans y0, (h.cell (p := ⟨gl, 1, none⟩) hgl).trans y1, (h.cell (p := ⟨gl, 2, none⟩) hgl).trans y2, (h.cell (p := ⟨gl, 3, none⟩) hgl).trans y3, h⟩
                have HKX := Lib.hid KX
                have HS1 := Lib.hid (KX wx.drew (Below.refl _ _).drew)
                have HNX2 := Lib.hid (show Nums wx.drew wr.heap.size (.slice (some ⟨g1, 0, none⟩) 46 cg1) ys from (HNU.out.below hbx (Nat.le_refl _)).keep (fun _ _ => rfl))
                have HOKL := Lib.hid (show okLn words ⟨lk, lr, ld, lv⟩ = true from List.all_eq_true.1 (hW.okay p _ HL.out) _ (List.mem_of_getElem? HLN.out))
                have hp2 : p ≤ 2 := by omega
                clear KX hbx
                go_wp2_with fail
                go_region_held3 (fun w' => w'.cell? ⟨b, o + j, none⟩ = some (.int .i64 p) ∧ w'.cell? ⟨gl, 0, none⟩ = some (.int .i64 lk) ∧ w'.cell? ⟨gl, 1, none⟩ = some (.int .i64 lr) ∧ w'.cell? ⟨gl, 2, none⟩ = some (.int .i64 ld) ∧ w'.cell? ⟨gl, 3, none⟩ = some (.int .i64 lv) ∧ Below wx.heap.size wx w') (first | exact HS1.out | exact HKX.out _ HB5.out) (first | (go_at_call 23; refine (refdone_any ys _ wr.heap.size p m words ⟨lk, lr, ld, lv⟩ wx.drew HNX2.out hsx HS.out.ly hp2 HM.out hm20 hw4' HOKL.out).mono ?_; rintro e w5 ⟨g2, c5, rfl, hc5, hg5, hg6, hr5, hb5⟩; have HB5 := Lib.hid (show Below wx.heap.size wx w5 from (Below.refl _ _).drew.trans hb5); have HR5 := Lib.hid hr5; clear hr5 hb5))
                go_wp2
                go_roundg (script.length - (j + 1))
                case measure => omega
                case rel =>
                  refine ⟨j + 1, g2, c5, by omega, by omega, by go_num, rfl, hc5, hg6, ?_, (KB2.out.below HBX.out hlk).below HB5.out (Nat.lt_of_lt_of_le hlk hsx), HB2.out.trans ((HBX.out.trans (HB5.out.mono hsx)).mono (by omega))⟩
                  rw [take_succ_at HX.out, refScripted_snoc, ← HY.out, Int.toNat_natCast, refStep, HNX.out, if_pos rfl]
                  exact HR5.out
            · have HNX := Lib.hid (nextOf_none HL.out HM.out (Nat.le_of_not_lt hm))
              have hA : Hands ((wr.alloc (.cells #[.int .i64 0, .int .i64 0, .int .i64 0, .int .i64 0] 50)).drew) ((wr.alloc (.cells #[.int .i64 0, .int .i64 0, .int .i64 0, .int .i64 0] 50)).drew).heap.size (.slice A hs.length c) hs := (HHr.out.keep (fun p hp => World.cell?_alloc_lt _ _ p hp)).more (by simp [World.drew])
              have nA : Nums ((wr.alloc (.cells #[.int .i64 0, .int .i64 0, .int .i64 0, .int .i64 0] 50)).drew) wr.heap.size (.slice (some ⟨g1, 0, none⟩) 46 cg1) ys := HNU.out.keep (fun p hp => World.cell?_alloc_lt _ _ p hp)
              have HA2 := Lib.hid hA
              have NA2 := Lib.hid nA
              clear hA nA
              go_upto_region 15 with fail
              go_cut [10, 11] (fun t10 t11 wx => ∃ gl : Nat, t10 = .pointer (some ⟨gl, 0, none⟩) ∧ t11 = .bool false ∧ wx.cell? ⟨gl, 0, none⟩ = some (.int .i64 0) ∧ wx.cell? ⟨gl, 1, none⟩ = some (.int .i64 0) ∧ wx.cell? ⟨gl, 2, none⟩ = some (.int .i64 0) ∧ wx.cell? ⟨gl, 3, none⟩ = some (.int .i64 0) ∧ Below wr.heap.size wr wx)
              case first =>
                go_region_with (first | (go_at_call 22; refine (next_any words _ _ hs ys _ p m _ wr.drew (show Hands wr.drew wr.drew.heap.size _ hs from HHr.out.keep (fun _ _ => rfl)) (HNU.out.keep (fun _ _ => rfl)) HL.out HM.out).mono ?_; rw [HNX.out]; simp only [lnV]; rintro e w3 ⟨rfl, hb3⟩; have HB4 := Lib.hid (((Below.refl wr.heap.size wr).drew).trans (show Below wr.heap.size wr.drew w3 from hb3)); clear hb3) | (go_at_call 22; refine (next_any words _ _ hs ys _ p m _ ((wr.alloc (.cells #[.int .i64 0, .int .i64 0, .int .i64 0, .int .i64 0] 50)).drew) HA2.out NA2.out HL.out HM.out).mono ?_; rw [HNX.out]; simp only [lnV]; rintro e w3 ⟨rfl, hb3⟩; have q0 := hb3.cell (p := ⟨wr.heap.size, 0, none⟩) (by simp); have q1 := hb3.cell (p := ⟨wr.heap.size, 1, none⟩) (by simp); have q2 := hb3.cell (p := ⟨wr.heap.size, 2, none⟩) (by simp); have q3 := hb3.cell (p := ⟨wr.heap.size, 3, none⟩) (by simp); have f0 := hb3.frozen (p := ⟨wr.heap.size, 0, none⟩) (by simp); have f1 := hb3.frozen (p := ⟨wr.heap.size, 1, none⟩) (by simp); have f2 := hb3.frozen (p := ⟨wr.heap.size, 2, none⟩) (by simp); have f3 := hb3.frozen (p := ⟨wr.heap.size, 3, none⟩) (by simp); simp at q0 q1 q2 q3 f0 f1 f2 f3; have HB4 := Lib.hid ((((Below.refl wr.heap.size wr).alloc (Nat.le_refl _) (.cells #[.int .i64 0, .int .i64 0, .int .i64 0, .int .i64 0] 50)).drew).trans (hb3.mono (by simp))); clear hb3))
                all_goals (go_wp2_with fail; go_meet; first | exact ⟨_, rfl, rfl, (put4 q0 q1 q2 q3).1, (put4 q0 q1 q2 q3).2.1, (put4 q0 q1 q2 q3).2.2.1, (put4 q0 q1 q2 q3).2.2.2, below4 HB4.out (Nat.le_refl _)⟩ | exact ⟨_, rfl, rfl, by simp, by simp, by simp, by simp, HB4.out.alloc HB4.out.size _⟩)
              case rest =>
                obtain ⟨gl, rfl, rfl, y0, y1, y2, y3, hbx⟩ := hcut
                have hsx := hbx.size
                go_wp2
                go_roundg (script.length - (j + 1))
                case measure => omega
                case rel =>
                  refine ⟨j + 1, g1, cg1, by omega, by omega, by go_num, rfl, hcg, Nat.lt_of_lt_of_le hg hsx, ?_, KB2.out.below hbx hlk, HB2.out.trans (hbx.mono HB2.out.size)⟩
                  rw [take_succ_at HX.out, refScripted_snoc, ← HY.out, Int.toNat_natCast, refStep, HNX.out, if_neg (by simp)]
                  exact HR.out.below hbx hg
          · have hjI : ¬ (j : Int) < script.length := by omega
            have HYE := Lib.hid (show ys = refScripted hs (List.replicate 46 0) script by rw [HY.out, List.take_of_length_le (by omega)])
            have HSE := Lib.hid (show Sim hs (scripted hs zero16 script) ys by have h := HS.out; rwa [List.take_of_length_le (by omega)] at h)
            obtain ⟨w6, rfl⟩ : ∃ w6 : World, w6 = wr := ⟨_, rfl⟩
            go_wp2_with fail
            go_loopg [8, 12] hs.length (fun q s i wr => ∃ (h g cg : Nat), q + h = hs.length ∧ i = .int .i64 h ∧ s = .slice (some ⟨g, 0, none⟩) 46 cg ∧ 46 ≤ cg ∧ g < wr.heap.size ∧ RowAt wr g (refFin hs h ys) ∧ Block wr w.heap.size 24 #[.int .i64 words, .slice A hs.length c] ∧ Below w.heap.size w wr)
            case atStart => exact ⟨0, g1, cg1, by omega, rfl, rfl, hcg, hg, HR.out, KB2.out, HB2.out⟩
            case round =>
              clear c0 c1 KB2 HB2 HR HNU HHr hcg hg hlk
              obtain ⟨h, g2, cg2, hq2, rfl, rfl, hcg2, hg2, hr, kb, hb⟩ := hrel
              have c1 := kb.cell 1
              have c0 := kb.cell 0
              simp at c0 c1
              have KB3 := Lib.hid kb
              have HB3 := Lib.hid hb
              have HR3 := Lib.hid hr
              clear kb hb hr
              by_cases hlh : h < hs.length
              · have hhI : (h : Int) < hs.length := by omega
                have hh2 : h ≤ 2 := by omega
                obtain ⟨w7, rfl⟩ : ∃ w7 : World, w7 = wr := ⟨_, rfl⟩
                obtain ⟨q7, rfl⟩ : ∃ q7 : Nat, q7 = gk := ⟨_, rfl⟩
                go_wp2_with fail
                go_loopg [8, 13] 6 (fun q s i wr => ∃ (n g cg : Nat), q + n = 6 ∧ i = .int .i64 n ∧ s = .slice (some ⟨g, 0, none⟩) 46 cg ∧ 46 ≤ cg ∧ g < wr.heap.size ∧ RowAt wr g (iter (fun y => refStep hs y h) n (refFin hs h ys)) ∧ Block wr w.heap.size 24 #[.int .i64 words, .slice A hs.length c] ∧ Below w.heap.size w wr)
                case atStart => exact ⟨0, g2, cg2, rfl, rfl, rfl, hcg2, hg2, HR3.out, KB3.out, HB3.out⟩
                case round =>
                  clear c0 c1 KB3 HB3 HR3 hcg2 hg2
                  obtain ⟨n, g3, cg3, hq3, rfl, rfl, hcg3, hg3, hr, kb, hb⟩ := hrel
                  have c1 := kb.cell 1
                  have c0 := kb.cell 0
                  simp at c0 c1
                  have hlk := kb.lt
                  obtain ⟨zs, hzs⟩ : ∃ zs, zs = iter (fun y => refStep hs y h) n (refFin hs h ys) := ⟨_, rfl⟩
                  rw [← hzs] at hr
                  have hsim : Sim hs (iter (fun z => stp hs z h) n (finN hs h (scripted hs zero16 script))) zs := by rw [hzs]; exact sim_iter hW (sim_fin hW HSE.out h (by omega)) hlh n
                  have HNU4 := Lib.hid (hr.nums hsim.ly (c := cg3) (by omega) hg3)
                  have HHr4 := Lib.hid ((HH.out.below hb (Nat.le_refl _)).more hb.size)
                  have KB4 := Lib.hid kb
                  have HB4 := Lib.hid hb
                  have HR4 := Lib.hid hr
                  have HZ4 := Lib.hid hzs
                  have HL := Lib.hid (show hs[h]? = some hs[h] from List.getElem?_eq_getElem hlh)
                  obtain ⟨n', m, _, hm1, hm20, _⟩ := hsim.line h hlh
                  have HM := Lib.hid hm1
                  have HLY := Lib.hid hsim.ly
                  clear kb hb hr hzs hm1 hsim
                  by_cases hn6 : n < 6
                  · have hnI : (n : Int) < 6 := by omega
                    by_cases hm : m < hs[h].length
                    · obtain ⟨l, hl⟩ : ∃ l, hs[h][m]? = some l := ⟨_, List.getElem?_eq_getElem hm⟩
                      have HNX := Lib.hid (nextOf_some HL.out HM.out hl)
                      have HOKL := Lib.hid (List.all_eq_true.1 (hW.okay h _ HL.out) _ (List.mem_of_getElem? hl))
                      obtain ⟨lk, lr, ld, lv⟩ := l
                      clear hl
                      go_wp2_with (first | (go_at_call 22; refine (next_any words _ _ hs zs _ h m _ _ HHr4.out HNU4.out HL.out HM.out).mono ?_; rw [HNX.out]; simp only [lnV]; rintro e w3 ⟨rfl, hb3⟩; have hs3 := hb3.size; have HNU5 := Lib.hid (HNU4.out.below hb3 (Nat.le_refl _)); have HB5 := Lib.hid hb3; clear hb3) | (go_at_call 23; refine (refdone_any zs _ wr.heap.size h m words ⟨lk, lr, ld, lv⟩ _ (HNU5.out.keep (fun p hp => World.cell?_alloc_lt _ _ p (Nat.lt_of_lt_of_le hp hs3))) (by simp; omega) HLY.out hh2 HM.out hm20 hw4' HOKL.out).mono ?_; rintro e w5 ⟨g5, c5, rfl, hc5, hg5, hg6, hr5, hb5⟩; have HB6 := Lib.hid ((HB5.out.alloc hs3 _).trans (hb5.mono (by simp; omega))); have HR5 := Lib.hid hr5; clear hr5 hb5))
                      go_roundg (6 - (n + 1))
                      case measure => omega
                      case rel =>
                        refine ⟨n + 1, g5, c5, by omega, by go_num, rfl, hc5, hg6, ?_, KB4.out.below HB6.out hlk, HB4.out.trans (HB6.out.mono HB4.out.size)⟩
                        rw [iter_succ, ← HZ4.out, refStep, HNX.out, if_pos rfl]
                        exact HR5.out
                    · have HNX := Lib.hid (nextOf_none HL.out HM.out (Nat.le_of_not_lt hm))
                      go_wp2_with (first | (go_at_call 22; refine (next_any words _ _ hs zs _ h m _ _ HHr4.out HNU4.out HL.out HM.out).mono ?_; rw [HNX.out]; simp only [lnV]; rintro e w3 ⟨rfl, hb3⟩; have hs3 := hb3.size; have HB5 := Lib.hid hb3; clear hb3))
                      go_roundg (6 - (n + 1))
                      case measure => omega
                      case rel =>
                        refine ⟨n + 1, g3, cg3, by omega, by go_num, rfl, hcg3, by simp; omega, ?_, (KB4.out.below HB5.out hlk).alloc _, (HB4.out.trans (HB5.out.mono HB4.out.size)).alloc (by have := HB4.out.size; omega) _⟩
                        rw [iter_succ, ← HZ4.out, refStep, HNX.out, if_neg (by simp)]
                        exact HR4.out.below (HB5.out.alloc hs3 _) hg3
                  · have hnI : ¬ (n : Int) < 6 := by omega
                    have hn6' : n = 6 := by omega
                    have HN6 := Lib.hid hn6'
                    clear hn6'
                    go_wp2_with fail
                    go_roundg (hs.length - (h + 1))
                    case measure => omega
                    case rel => exact ⟨h + 1, g3, cg3, by omega, by go_num, rfl, hcg3, hg3, (by rw [refFin, ← HN6.out, ← HZ4.out]; exact HR4.out), KB4.out, HB4.out⟩
              · have hhI : ¬ (h : Int) < hs.length := by omega
                have HHE := Lib.hid (show h = hs.length by omega)
                have hsimE : Sim hs (finN hs h (scripted hs zero16 script)) (refFin hs h ys) := sim_fin hW HSE.out h (by omega)
                have HNU4 := Lib.hid (HR3.out.nums hsimE.ly (c := cg2) (by omega) hg2)
                have HHr4 := Lib.hid ((HH.out.below HB3.out (Nat.le_refl _)).more HB3.out.size)
                have HLY := Lib.hid hsimE.ly
                have HT := Lib.hid (run_same HE.out)
                clear hsimE
                go_wp2_with (go_at_call 24; refine (result_any (refFin hs h ys) _ words _ hs wr.heap.size _ HHr4.out h3 hw1' hw4' g2 0 cg2 rfl hcg2 HNU4.out (Nat.le_refl _) HLY.out).mono ?_; rintro e w8 ⟨v8, rfl, hn8, hb8⟩)
                go_ret2
                refine ⟨_, by rw [HE.out]; rfl, ?_, HB3.out.trans (hb8.mono HB3.out.size)⟩
                have hn9 := hn8
                rw [← HHE.out] at hn9
                rw [HT.out, ← HYE.out, ← HHE.out]
                exact hn9
    · have HE := Lib.hid herr
      clear herr
      have hx : ∀ k : Nat, True := fun _ => trivial
      by_cases hlt : k < script.length
      · have hkI : (k : Int) < script.length := by omega
        go_wp2
        go_ret2
        exact ⟨_, by rw [HE.out]; rfl, by rw [runTold_bad (by rw [HE.out]; decide)]; exact nums_nil _ _, HBR.out⟩
      · have hkI : ¬ (k : Int) < script.length := by omega
        go_wp2
        go_ret2
        exact ⟨_, by rw [HE.out]; rfl, by rw [runTold_bad (by rw [HE.out]; decide)]; exact nums_nil _ _, HBR.out⟩
theorem refRun_any (words : Int) (hv sv : Value) (hs : List (List Ln)) (script : List Int) (w : World) (hh : Hands w w.heap.size hv hs) (hn : Nums w w.heap.size sv script) :
    Calls Tryd.prog 8 #[.agg #[.int .i64 words, hv], sv] w (RefRunPost w words hs script) := by
  by_cases hc : check words hs = 0
  · by_cases h40 : 40 < script.length
    · exact refRun_early words hv sv hs script w hh hn (Or.inr h40)
    · exact refRun_rest words hv sv hs script w hh hn hc (by omega)
  · exact refRun_early words hv sv hs script w hh hn (Or.inl hc)
end Go.Proofs.YtkohobbjnafljaaDoor
