/-
  The walk of latchgarthlaw1.ProgSays: it answers true, whatever the program and the script.
-/
import Derived.Test.YtkohobbjnafljaaDoorRefRun
import Derived.Test.YtkohobbjnafljaaDoorAs2
import Derived.Test.YtkohobbjnafljaaDoorInts
namespace Go.Proofs.YtkohobbjnafljaaDoor
open Go.RowKit

set_option maxRecDepth 100000 in
set_option maxHeartbeats 4000000 in
theorem says_any (words : Int) (hv sv : Value) (hs : List (List Ln)) (script : List Int) (w : World) (hh : Hands w w.heap.size hv hs) (hn : Nums w w.heap.size sv script) (hg : ErrVar w) :
    Calls Tryd.prog 3 #[.agg #[.int .i64 words, hv], sv] w fun e w' => e = .returned (.bool true) ∧ Below w.heap.size w w' := by
  have HH := Lib.hid hh
  have HN := Lib.hid hn
  have HG := Lib.hid hg
  obtain ⟨A, c, rfl, hlen, _⟩ := hh
  obtain ⟨A2, c2, rfl, hlen2, _⟩ := hn
  clear hg
  have HK := Lib.hid (Block.made w 24 #[.int .i64 words, .slice A hs.length c])
  have HB := Lib.hid ((Below.refl w.heap.size w).alloc (Nat.le_refl _) (.cells #[.int .i64 words, .slice A hs.length c] 24))
  go_enter Tryd.func3, Tryd.ntmps3
  go_upto_region 1 with fail
  obtain ⟨W, hW⟩ : ∃ W, W = w.alloc (.cells #[.int .i64 words, .slice A hs.length c] 24) := ⟨_, rfl⟩
  rw [← hW]
  have k0 : Block W w.heap.size 24 #[.int .i64 words, .slice A hs.length c] := by rw [hW]; exact HK.out
  have hbW : Below w.heap.size w W := by rw [hW]; exact HB.out
  have hsW : w.heap.size < W.heap.size := k0.lt
  have c0 := k0.cell 0
  have c1 := k0.cell 1
  simp at c0 c1
  have K0 := Lib.hid k0
  have HBW := Lib.hid hbW
  have KS : ∀ x : World, Below W.heap.size W x → (x.cell? ⟨w.heap.size, 0, none⟩ = some (.int .i64 words) ∧ x.cell? ⟨w.heap.size, 1, none⟩ = some (.slice A hs.length c) ∧ Below W.heap.size W x) :=
    fun x h => ⟨(h.cell (p := ⟨w.heap.size, 0, none⟩) hsW).trans c0, (h.cell (p := ⟨w.heap.size, 1, none⟩) hsW).trans c1, h⟩
  have HKS := Lib.hid KS
  have HAN := Lib.hid (show ∀ x : World, Below W.heap.size W x → Hands x x.heap.size (.slice A hs.length c) hs from fun x h => ((HH.out.below hbW (Nat.le_refl _)).below h (Nat.le_of_lt hsW)).more (Nat.le_trans (Nat.le_of_lt hsW) h.size))
  have HNN := Lib.hid (show ∀ x : World, Below W.heap.size W x → Nums x x.heap.size (.slice A2 script.length c2) script from fun x h => ((HN.out.below hbW (Nat.le_refl _)).below h (Nat.le_of_lt hsW)).more (Nat.le_trans (Nat.le_of_lt hsW) h.size))
  have HEV := Lib.hid (show ∀ x : World, Below W.heap.size W x → ErrVar x from fun x h => (HG.out.below hbW HG.out.lt).below h (Nat.lt_trans HG.out.lt hsW))
  have HD := Lib.hid (show Below W.heap.size W W.drew from (Below.refl _ _).drew)
  clear hW k0 hbW KS
  go_cut [5] (fun t5 wx => t5 = .bool true ∧ Below W.heap.size W wx)
  case first =>
    go_region_held3 (fun w' => w'.cell? ⟨w.heap.size, 0, none⟩ = some (.int .i64 words) ∧ w'.cell? ⟨w.heap.size, 1, none⟩ = some (.slice A hs.length c) ∧ Below W.heap.size W w') (first | exact HKS.out _ HD.out | exact HKS.out _ HC1.out | exact HKS.out _ HL1.out | exact HKS.out _ HE1.out) (first | (go_at_call 6; refine (check_any words _ hs W.drew (HAN.out _ HD.out)).mono ?_; rintro e wC ⟨rfl, hbC⟩; have HC1 := Lib.hid (HD.out.trans (show Below W.heap.size W.drew wC from hbC)); clear hbC) | (go_at_call 7; refine (refCheck_any words _ hs W.drew (HAN.out _ HD.out)).mono ?_; rintro e wC ⟨rfl, hbC⟩; have HC1 := Lib.hid (HD.out.trans (show Below W.heap.size W.drew wC from hbC)); clear hbC) | (go_at_call 6; refine (check_any words _ hs wC (HAN.out _ HC1.out)).mono ?_; rintro e wL ⟨rfl, hbL⟩; have HL1 := Lib.hid (HC1.out.trans (hbL.mono HC1.out.size)); clear hbL) | (go_at_call 7; refine (refCheck_any words _ hs wC (HAN.out _ HC1.out)).mono ?_; rintro e wL ⟨rfl, hbL⟩; have HL1 := Lib.hid (HC1.out.trans (hbL.mono HC1.out.size)); clear hbL) | (go_at_call 5; refine (errorIs_any (check words hs) (check words hs) wL (HEV.out _ HL1.out)).mono ?_; rw [decide_eq_true rfl]; rintro e wE ⟨rfl, hbE⟩; have HE1 := Lib.hid (HL1.out.trans (hbE.mono HL1.out.size)); clear hbE))
    all_goals (go_wp2_with fail; go_meet; exact ⟨rfl, HE1.out⟩)
  case rest =>
    obtain ⟨rfl, hbx⟩ := hcut
    have HBX := Lib.hid hbx
    obtain ⟨d0, d1, _⟩ := HKS.out _ hbx
    clear hbx c0 c1
    go_wp2_with (first | (go_at_call 8; refine (refRun_any words _ _ hs script _ (HAN.out _ HBX.out) (HNN.out _ HBX.out)).mono ?_; rintro e w1 ⟨v1, rfl, hn1, hb1⟩; have HB1 := Lib.hid (HBX.out.trans (hb1.mono HBX.out.size)); have HN1 := Lib.hid hn1; obtain ⟨A3, c3, rfl, _, _⟩ := hn1; obtain ⟨e0, e1, _⟩ := HKS.out _ HB1.out; clear hb1) | (go_at_call 9; refine (run_any words _ _ hs script _ (HAN.out _ HB1.out) (HNN.out _ HB1.out)).mono ?_; rintro e w2 ⟨v2, rfl, hn2, hb2⟩; have HB2 := Lib.hid (HB1.out.trans (hb2.mono HB1.out.size)); have HBB := Lib.hid hb2; have HN2 := Lib.hid hn2; obtain ⟨A4, c4, rfl, _, _⟩ := hn2; clear hb2) | (go_at_call 5; refine (errorIs_any (runErr words hs script) (runErr words hs script) _ (HEV.out _ HB2.out)).mono ?_; rw [decide_eq_true rfl]; rintro e w3 ⟨rfl, hb3⟩; have HB3 := Lib.hid hb3; clear hb3) | (go_at_call 10; refine (ints_any (runTold words hs script) (runTold words hs script) _ _ _ _ _ (HN2.out.below HB3.out (Nat.le_refl _)) ((HN1.out.below HBB.out (Nat.le_refl _)).below HB3.out HBB.out.size)).mono ?_; rw [decide_eq_true rfl]; rintro e w4 ⟨rfl, n, rfl⟩))
    go_ret
    exact ⟨rfl, below_drewN (HBW.out.trans (((HB2.out).trans (HB3.out.mono HB2.out.size)).mono (Nat.le_of_lt hsW))) _⟩
end Go.Proofs.YtkohobbjnafljaaDoor
