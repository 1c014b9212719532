/-
  Package snap: what At and Values answer.
-/
import Derived.Test.YtnplhjbbkccdnaaDoorSnapLkN
namespace Go.Proofs.YtnplhjbbkccdnaaDoor.Snap
open Go.RowKit
set_option maxHeartbeats 4000000 in
theorem at_any {g n : Nat} {v : SS} (w : World) (hk : Lk w g n v) (hn : n ≤ 4) (p : Int) :
    Calls Tryd.prog 15 #[.pointer (some ⟨g, 0, none⟩), .int .i64 p] w fun e w' => e = .returned (.int .i64 (if 0 ≤ p ∧ p < n then ((v.h p.toNat).a : Int) else 0)) ∧ w = w' := by
  have HI := Lib.hid (isHand_any p w hk.num)
  by_cases hp : 0 ≤ p ∧ p < n
  · rw [decide_eq_true hp] at HI
    rw [if_pos hp]
    obtain ⟨q, rfl⟩ := Int.eq_ofNat_of_zero_le hp.1
    have hq4 : q < 4 := by omega
    have hp4 : (q : Int) < 4 := by omega
    have c1 := hk.xA hq4
    rw [Int.toNat_natCast]
    clear hp hk
    go_enter Tryd.func15, Tryd.ntmps15
    go_wp2_with (go_at_call 32; refine HI.out.mono ?_; rintro e w' ⟨rfl, rfl⟩)
    go_ret
    exact ⟨rfl, rfl⟩
  · rw [decide_eq_false hp] at HI
    rw [if_neg hp]
    clear hp hk
    go_enter Tryd.func15, Tryd.ntmps15
    go_wp2_with (go_at_call 32; refine HI.out.mono ?_; rintro e w' ⟨rfl, rfl⟩)
    go_ret
    exact ⟨rfl, rfl⟩
set_option maxHeartbeats 4000000 in
theorem vals_any {g n : Nat} {v : SS} (w : World) (hk : Lk w g n v) (h1 : 1 ≤ n) (h4 : n ≤ 4) :
    Calls Tryd.prog 14 #[.pointer (some ⟨g, 0, none⟩)] w fun e w' => ∃ u, e = .returned u ∧ Nums w' w'.heap.size u (lkS n fun q => (v.wd q).v) ∧ Fresh w.heap.size u ∧ Below w.heap.size w w' := by
  have hv : ∀ q, q < 4 → w.cell? ⟨g, 1 + q * 6, none⟩ = some (.int .i64 (v.wd q).v) := fun q hq => hk.wat hq (j := 0) (by omega)
  have HV := Lib.hid (values_any (o := 1) w (v.wd 0).v (v.wd 1).v (v.wd 2).v (v.wd 3).v (hv 0 (by omega)) (hv 1 (by omega)) (hv 2 (by omega)) (hv 3 (by omega)))
  have HT := Lib.hid (fun (w1 : World) (hb : Below w.heap.size w w1) => told_any (fun q => (v.wd q).v) w1 h1 h4 (hk.below hb hk.lt).num)
  clear hk hv
  go_enter Tryd.func14, Tryd.ntmps14
  go_wp2_with (first | (go_at_call 36; (with_reducible refine HV.out.mono ?_); rintro e w1 ⟨rfl, hb⟩; have HB := Lib.hid hb; clear hb) | (go_at_call 35; (with_reducible refine (HT.out _ HB.out).mono ?_); rintro e w2 ⟨u, rfl, hu, hf, hb2⟩; have HU := Lib.hid hu; have HF := Lib.hid hf; have HB2 := Lib.hid hb2; clear hu hf hb2))
  go_ret
  exact ⟨u, rfl, HU.out, fun k hk => Nat.le_trans HB.out.size (HF.out k hk), HB.out.trans (HB2.out.mono HB.out.size)⟩
section
variable {w wr : World} {g n T : Nat} {s : SS}
theorem atL (h : LkAt w wr g n T s) (p : Int) :
    Calls Tryd.prog 15 #[.pointer (some ⟨g, 0, none⟩), .int .i64 p] wr fun e w' => e = .returned (.int .i64 (if 0 ≤ p ∧ p < n then ((s.h p.toNat).a : Int) else 0)) ∧ wr = w' := by
  have h1 := at_any wr h.lk h.four p
  by_cases hp : 0 ≤ p ∧ p < n
  · rw [if_pos hp, rawS_h (show p.toNat < n by omega)] at h1
    rw [if_pos hp]
    exact h1
  · rw [if_neg hp] at h1 ⊢
    exact h1
theorem valsL (h : LkAt w wr g n T s) :
    Calls Tryd.prog 14 #[.pointer (some ⟨g, 0, none⟩)] wr fun e w' => ∃ u, e = .returned u ∧ Nums w' w'.heap.size u (lkS n fun q => (s.wd q).v) ∧ Fresh wr.heap.size u ∧ Below wr.heap.size wr w' ∧ LkAt w w' g n T s :=
  (vals_any wr h.lk h.pos h.four).mono fun _ _ ⟨u, h1, h2, h3, h4⟩ => ⟨u, h1, by
    have e : lkS n (fun q => ((rawS n s).wd q).v) = lkS n fun q => (s.wd q).v := by
      unfold lkS
      refine List.map_congr_left fun q hq => ?_
      dsimp only
      rw [rawS_wd (List.mem_range.1 hq)]; rfl
    rw [← e]; exact h2, h3, h4, h.on h4 (Nat.le_refl _)⟩
end
end Go.Proofs.YtnplhjbbkccdnaaDoor.Snap
