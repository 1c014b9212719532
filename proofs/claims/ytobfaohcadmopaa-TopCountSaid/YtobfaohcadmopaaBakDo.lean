import Derived.Test.YtobfaohcadmopaaBak
/-
  Package bakery: what a hand's line does.
-/
namespace Go.Proofs.Ytobfaohcadmopaa.Bakery
open Go.RowKit

theorem bup_twice {α : Type} (f : Nat → α) (i : Nat) (x y : α) : bup (bup f i x) i y = bup f i y := by
  funext j; unfold bup; split <;> rfl
theorem bh_at {x : BH} {z : Nat} (h : x.a = z) : (⟨z, x.k, x.m, x.c, x.w⟩ : BH) = x := by subst h; rfl
theorem bup_id {s : Nat → BH} {p : Nat} {x : BH} (h : x = s p) : bup s p x = s := by
  funext q
  by_cases e : q = p
  · subst e; rw [bup_same, h]
  · rw [bup_other e]
theorem cell_far {w : World} {g i j : Nat} {u : Value} (h : j ≠ i) : (w.setCell ⟨g, i, none⟩ u).cell? ⟨g, j, none⟩ = w.cell? ⟨g, j, none⟩ :=
  World.cell?_setCell_other _ _ _ _ fun e => h (by injection e with _ e; exact e.symm)
set_option maxHeartbeats 4000000 in
theorem do_any {g n : Nat} {s : Nat → BH} (w : World) (hk : Lk w g n s) (hn : n ≤ 4) (hok : BOk n s) {p : Nat} (hp : p < n) (hm : (s p).m ≤ 1000000) :
    Calls Try.prog 33 #[.pointer (some ⟨g, 0, none⟩), .int .i64 p] w fun e w' =>
      e = .returned (.int .i64 (bone n s p).a) ∧ Lk w' g n (bdid n s p) ∧ Touch (fun k => k = g) w w' := by
  have hcn := hk.num
  have HL := Lib.hid (show g < w.drew.heap.size from hk.lt)
  have HK := Lib.hid hk.drew
  have HN := Lib.hid (show w.drew.cell? ⟨g, 0, none⟩ = some (.int .i64 n) from hcn)
  clear hk
  go_enter Try.func33, Try.ntmps33
  go_wp2_with fail
  go_region_held3 (fun W : World => W.cell? ⟨g, 0, none⟩ = some (.int .i64 n)) (first | exact HN.out | exact (H1.out.cell (p := ⟨g, 0, none⟩) HL.out).trans HN.out | exact (H2.out.cell (p := ⟨g, 0, none⟩) HL.out).trans HN.out) ((first | (go_at_call 40; (with_reducible refine (pick0_any w.drew HL.out).mono ?_); rintro e w1 ⟨b1, b2, rfl, hp1, hb1⟩; have HP1 := Lib.hid hp1; have H1 := Lib.hid hb1; clear hp1 hb1) | (go_at_call 40; (with_reducible refine (pick_any (f := n) _ (Nat.lt_of_lt_of_le HL.out H1.out.size)).mono ?_); rintro e w2 ⟨c1, c2, rfl, hp2, hb2⟩; have HP2 := Lib.hid hp2; have HQ2 := Lib.hid hb2; have H2 := Lib.hid (H1.out.trans (hb2.mono H1.out.size)); clear hp2 hb2)))
  all_goals
    have hl2 : Lk w2 g n s := HK.out.below0 H2.out HL.out
    have hq1 : Pk w2 g b1 b2 0 := HP1.out.below HQ2.out
    have hq2 : Pk w2 g c1 c2 n := HP2.out
    have ht2 : Touch (fun k => k = g) w w2 := Touch.of_below (below_undrew H2.out) fun i h1 h2 => absurd h2 (Nat.not_lt_of_le h1)
    have hca := hl2.xa hp
    have hck := hl2.xk hp
    have hcm := hl2.xm hp
    have hloc := hok.loc p hp
    unfold BLoc at hloc
    have hp4 : (p : Int) < 4 := by omega
    have HT := Lib.hid ht2
    have HL2 := Lib.hid hl2
    have HA := Lib.hid hq1
    have HB := Lib.hid hq2
    clear HK HP1 HQ2 HP2 HN H1 H2 HL ht2 hl2 hq1 hq2 hcn
    obtain a1 | a2 | a3 | a4 | a5 | a6 | a7 | a8 : (s p).a = 1 ∨ (s p).a = 2 ∨ (s p).a = 3 ∨ (s p).a = 4 ∨ (s p).a = 5 ∨ (s p).a = 6 ∨ (s p).a = 7 ∨ (s p).a = 8 := by omega
    · have e1 : (bone n s p).a = 2 := by unfold bone; rw [if_pos a1]
      have e2 : bdid n s p = putC s p 1 := by
        have hk0 := (hloc.2.1 a1)
        simp [bdid, putC, bone, a1, hk0.1, hk0.2]
      have E1 := Lib.hid e1
      have E2 := Lib.hid e2
      have hcl := HL2.out.xc hp
      have hf := HL2.out.free (1 + p)
      rw [a1] at hca
      clear hloc a1 e1 e2 hok
      go_wp2_with (go_at_call 48; (with_reducible refine (picked_any (k := p) (f := 0) (d := p) _ HA.out (by omega) (by omega)).mono ?_); rintro e w9 ⟨rfl, i9, rfl⟩)
      go_ret
      rw [E1.out, E2.out]
      exact ⟨rfl, (HL2.out.drewN _).setC hn hp 1, (HT.out.drewN _).setCell (Or.inl rfl) _⟩
    · have hkn := hloc.2.2.1 (Or.inl a2)
      have hcw := HL2.out.xw hkn
      rw [Nat.add_assoc] at hcw
      have hfm := HL2.out.free (9 + p * 3 + 2)
      rw [a2] at hca
      by_cases hmx : (s p).m < (s (s p).k).w
      · have e1 : ((bone n s p).a : Int) = lookAt n ((putM s p (s (s p).k).w) p).k 2 3 := by simp only [bone, a2, lookAt, putM, bup_same]; simp; split <;> rfl
        have e2 : bdid n s p = putK (putM s p (s (s p).k).w) p (((putM s p (s (s p).k).w) p).k + 1) := by simp [bdid, putK, putM, bone, a2, hmx, bup_same, bup_twice]
        have E1 := Lib.hid e1
        have E2 := Lib.hid e2
        have HKN := Lib.hid (show ((putM s p (s (s p).k).w) p).k < n by simp only [putM, bup_same]; exact hkn)
        have hI : ((s p).m : Int) < ((s (s p).k).w : Int) := by omega
        clear hloc a2 e1 e2 hok
        go_wp2_with fail
        go_region_with (first | (go_at_call 48; (with_reducible refine (picked_any (k := (s p).k) (f := n) (d := n + (s p).k) _ HB.out.drew (by omega) (by omega)).mono ?_); rintro e w9 ⟨rfl, i9, rfl⟩) | (go_at_call 48; (with_reducible refine (picked_any (k := (s p).k) (f := n) (d := n + (s p).k) _ (HB.out.drewN _) (by omega) (by omega)).mono ?_); rintro e w9 ⟨rfl, i9, rfl⟩))
        all_goals
          go_wp2_with (go_at_call 41; (with_reducible refine (lookOn_any _ ((HL2.out.drewN _).setM hn hp (s (s p).k).w) hn hp HKN.out 2 3).mono ?_); rintro e w9 ⟨rfl, hk9, ht9⟩; have HK9 := Lib.hid hk9; have HT9 := Lib.hid ht9; clear hk9 ht9)
          go_ret
          rw [E1.out, E2.out]
          exact ⟨rfl, HK9.out, ((HT.out.drewN _).setCell (Or.inl rfl) _).trans HT9.out fun _ h => Or.inl h⟩
      · have e1 : ((bone n s p).a : Int) = lookAt n ((putM s p (s p).m) p).k 2 3 := by simp only [bone, a2, lookAt, putM, bup_same]; simp; split <;> rfl
        have e2 : bdid n s p = putK (putM s p (s p).m) p (((putM s p (s p).m) p).k + 1) := by simp [bdid, putK, putM, bone, a2, hmx, bup_same, bup_twice]
        have E1 := Lib.hid e1
        have E2 := Lib.hid e2
        have HKN := Lib.hid (show ((putM s p (s p).m) p).k < n by simp only [putM, bup_same]; exact hkn)
        have hI : ¬ ((s p).m : Int) < ((s (s p).k).w : Int) := by omega
        clear hloc a2 e1 e2 hok
        go_wp2_with fail
        go_region_with (first | (go_at_call 48; (with_reducible refine (picked_any (k := (s p).k) (f := n) (d := n + (s p).k) _ HB.out.drew (by omega) (by omega)).mono ?_); rintro e w9 ⟨rfl, i9, rfl⟩) | (go_at_call 48; (with_reducible refine (picked_any (k := (s p).k) (f := n) (d := n + (s p).k) _ (HB.out.drewN _) (by omega) (by omega)).mono ?_); rintro e w9 ⟨rfl, i9, rfl⟩))
        all_goals
          go_wp2_with (go_at_call 41; (with_reducible refine (lookOn_any _ ((HL2.out.drewN _).setM hn hp (s p).m) hn hp HKN.out 2 3).mono ?_); rintro e w9 ⟨rfl, hk9, ht9⟩; have HK9 := Lib.hid hk9; have HT9 := Lib.hid ht9; clear hk9 ht9)
          go_ret
          rw [E1.out, E2.out]
          exact ⟨rfl, HK9.out, ((HT.out.drewN _).setCell (Or.inl rfl) _).trans HT9.out fun _ h => Or.inl h⟩
    · have e1 : (bone n s p).a = 4 := by simp [bone, a3]
      have e2 : bdid n s p = putW s p ((s p).m + 1) := by simp [bdid, putW, bone, a3]
      have E1 := Lib.hid e1
      have E2 := Lib.hid e2
      have hcw := HL2.out.xw hp
      rw [Nat.add_assoc] at hcw
      have hfw := HL2.out.free (1 + (n + p))
      have hwr : IntKind.i64.wrap (((s p).m : Int) + 1) = ((s p).m : Int) + 1 := IntWalk.i64_in _ (by omega)
      rw [a3] at hca
      clear hloc a3 e1 e2 hok
      go_wp2_with fail
      go_region_held3 (fun W : World => W.cell? ⟨g, 9 + p * 3 + 2, none⟩ = some (.int .i64 (s p).m) ∧ W.cell? ⟨g, 9 + p * 3, none⟩ = some (.int .i64 3)) (first | exact ⟨hcm, hca⟩ | exact ⟨(cell_far (by omega)).trans hcm, (cell_far (by omega)).trans hca⟩) ((first | (go_at_call 48; (with_reducible refine (picked_any (k := p) (f := n) (d := n + p) _ HB.out.drew (by omega) (by omega)).mono ?_); rintro e w9 ⟨rfl, i9, rfl⟩) | (go_at_call 48; (with_reducible refine (picked_any (k := p) (f := n) (d := n + p) _ (HB.out.drewN _) (by omega) (by omega)).mono ?_); rintro e w9 ⟨rfl, i9, rfl⟩)))
      all_goals
        go_wp2
        go_ret
        rw [E1.out, E2.out]
        have h3 := (HL2.out.drewN 1).setW hn hp ((s p).m + 1)
        rw [Nat.add_assoc] at h3
        exact ⟨rfl, h3, (HT.out.drewN _).setCell (Or.inl rfl) _⟩
    · have e1 : (bone n s p).a = 5 := by simp [bone, a4]
      have e2 : bdid n s p = putK (putC s p 0) p 0 := by simp [bdid, putC, putK, bone, a4, bup_same, bup_twice]
      have E1 := Lib.hid e1
      have E2 := Lib.hid e2
      have hcl := HL2.out.xc hp
      have hf := HL2.out.free (1 + p)
      have hf2 := HL2.out.free (9 + p * 3 + 1)
      rw [a4] at hca
      clear hloc a4 e1 e2 hok
      go_wp2_with (go_at_call 48; (with_reducible refine (picked_any (k := p) (f := 0) (d := p) _ HA.out (by omega) (by omega)).mono ?_); rintro e w9 ⟨rfl, i9, rfl⟩)
      go_ret
      rw [E1.out, E2.out]
      exact ⟨rfl, ((HL2.out.drewN _).setC hn hp 0).setK hn hp 0, ((HT.out.drewN _).setCell (Or.inl rfl) _).setCell (Or.inl rfl) _⟩
    · have hkn := hloc.2.2.1 (Or.inr (Or.inl a5))
      have hcc := HL2.out.xc hkn
      have hk4 : ((s p).k : Int) < 4 := by omega
      rw [a5] at hca
      by_cases hc0 : (s (s p).k).c = 0
      · have e1 : (bone n s p).a = 6 := by simp [bone, a5, hc0]
        have e2 : bdid n s p = s := by
          refine bup_id ?_
          simp [bone, a5, hc0]
          exact bh_at a5
        have E1 := Lib.hid e1
        have E2 := Lib.hid e2
        rw [hc0] at hcc
        clear hloc a5 e1 e2 hok hc0
        go_wp2_with (go_at_call 48; (with_reducible refine (picked_any (k := (s p).k) (f := 0) (d := (s p).k) _ HA.out (by omega) (by omega)).mono ?_); rintro e w9 ⟨rfl, i9, rfl⟩)
        go_ret
        rw [E1.out, E2.out]
        exact ⟨rfl, HL2.out.drewN _, HT.out.drewN _⟩
      · have e1 : (bone n s p).a = 5 := by simp [bone, a5, hc0]
        have e2 : bdid n s p = s := by
          refine bup_id ?_
          simp [bone, a5, hc0]
          exact bh_at a5
        have E1 := Lib.hid e1
        have E2 := Lib.hid e2
        have hI : (((s (s p).k).c : Int) != 0) = true := by simp; omega
        clear hloc a5 e1 e2 hok hc0
        go_wp2_with (go_at_call 48; (with_reducible refine (picked_any (k := (s p).k) (f := 0) (d := (s p).k) _ HA.out (by omega) (by omega)).mono ?_); rintro e w9 ⟨rfl, i9, rfl⟩)
        go_ret
        rw [E1.out, E2.out]
        exact ⟨rfl, HL2.out.drewN _, HT.out.drewN _⟩
    · have hkn := hloc.2.2.1 (Or.inr (Or.inr a6))
      have hA := isAhead_any w2 HL2.out hn HB.out hp hkn
      rw [a6] at hca
      by_cases hb : BBehind p (s p).k (s p) (s (s p).k)
      · rw [show bahd p (s p).k (s p) (s (s p).k) = false from decide_eq_false fun h => h hb] at hA
        have e1 : ((bone n s p).a : Int) = lookAt n (s p).k 5 7 := by simp only [bone, a6, hb, lookAt]; simp; split <;> rfl
        have e2 : bdid n s p = putK s p ((s p).k + 1) := by simp [bdid, putK, bone, a6, hb]
        have E1 := Lib.hid e1
        have E2 := Lib.hid e2
        have HI := Lib.hid hA
        have HKN := Lib.hid hkn
        clear hloc a6 e1 e2 hok hb hA hkn
        go_wp2_with (first | (go_at_call 42; (with_reducible refine HI.out.mono ?_); rintro e w9 ⟨rfl, i9, rfl⟩) | (go_at_call 41; (with_reducible refine (lookOn_any _ (HL2.out.drewN _) hn hp HKN.out 5 7).mono ?_); rintro e w9 ⟨rfl, hk9, ht9⟩; have HK9 := Lib.hid hk9; have HT9 := Lib.hid ht9; clear hk9 ht9))
        go_ret
        rw [E1.out, E2.out]
        exact ⟨rfl, HK9.out, (HT.out.drewN _).trans HT9.out fun _ h => Or.inl h⟩
      · rw [show bahd p (s p).k (s p) (s (s p).k) = true from decide_eq_true hb] at hA
        have e1 : (bone n s p).a = 6 := by simp [bone, a6, hb]
        have e2 : bdid n s p = s := by
          refine bup_id ?_
          simp [bone, a6, hb]
          exact bh_at a6
        have E1 := Lib.hid e1
        have E2 := Lib.hid e2
        have HI := Lib.hid hA
        clear hloc a6 e1 e2 hok hb hA hkn
        go_wp2_with (go_at_call 42; (with_reducible refine HI.out.mono ?_); rintro e w9 ⟨rfl, i9, rfl⟩)
        go_ret
        rw [E1.out, E2.out]
        exact ⟨rfl, HL2.out.drewN _, HT.out.drewN _⟩
    · have e1 : (bone n s p).a = 8 := by simp [bone, a7]
      have e2 : bdid n s p = s := by
        refine bup_id ?_
        simp [bone, a7]
        exact bh_at a7
      have E1 := Lib.hid e1
      have E2 := Lib.hid e2
      rw [a7] at hca
      clear hloc a7 e1 e2 hok
      go_wp2
      go_ret
      rw [E1.out, E2.out]
      exact ⟨rfl, HL2.out, HT.out⟩
    · have e1 : (bone n s p).a = 1 := by simp [bone, a8]
      have e2 : bdid n s p = putM (putK (putW s p 0) p 0) p 0 := by simp [bdid, putW, putK, putM, bone, a8, bup_same, bup_twice]
      have E1 := Lib.hid e1
      have E2 := Lib.hid e2
      have hcw := HL2.out.xw hp
      rw [Nat.add_assoc] at hcw
      have hf := HL2.out.free (1 + (n + p))
      have hf2 := HL2.out.free (9 + p * 3 + 1)
      have hf3 := HL2.out.free (9 + p * 3 + 2)
      rw [a8] at hca
      clear hloc a8 e1 e2 hok
      go_wp2_with (go_at_call 48; (with_reducible refine (picked_any (k := p) (f := n) (d := n + p) _ HB.out (by omega) (by omega)).mono ?_); rintro e w9 ⟨rfl, i9, rfl⟩)
      go_ret
      rw [E1.out, E2.out]
      have h3 := (((HL2.out.drewN 1).setW hn hp 0).setK hn hp 0).setM hn hp 0
      rw [Nat.add_assoc] at h3
      exact ⟨rfl, h3, (((HT.out.drewN _).setCell (Or.inl rfl) _).setCell (Or.inl rfl) _).setCell (Or.inl rfl) _⟩
end Go.Proofs.Ytobfaohcadmopaa.Bakery
