import Derived.Test.YtjnfecaghkgdpaaDoorFastDo
/-
  Package fast: what Step and At answer.
-/
namespace Go.Proofs.YtjnfecaghkgdpaaDoor.Fast
open Go.RowKit

theorem vs_ext {s t : VS} (h1 : s.s = t.s) (h2 : s.X = t.X) (h3 : s.Y = t.Y) : s = t := by
  cases s; cases t; simp_all
theorem vh_ext {s t : VH} (h1 : s.a = t.a) (h2 : s.k = t.k) (h3 : s.b = t.b) : s = t := by
  cases s; cases t; simp_all
theorem raw_of {n : Nat} {s u : VS} {p z : Nat} (hX : u.X = vX s p) (hY : u.Y = vY s p) (ho : ∀ q, q ≠ p → u.s q = (vraw s).s q) (hk : (u.s p).k = (vrawH (vone n s p)).k) (hb : (u.s p).b = (vone n s p).b) (hz : z = (vone n s p).a) : putA u p z = vraw (vstep n s p) := by
  refine vs_ext (funext fun q => ?_) hX hY
  by_cases e : q = p
  · subst e
    refine vh_ext ?_ ?_ ?_
    · rw [putA_same, hz]; show _ = (vup s.s q (vone n s q) q).a; rw [vup_same]
    · rw [putA_k, hk]; show _ = (vrawH (vup s.s q (vone n s q) q)).k; rw [vup_same]
    · rw [putA_b, hb]; show _ = (vup s.s q (vone n s q) q).b; rw [vup_same]
  · rw [putA_off _ e, ho q e]; show vrawH (s.s q) = vrawH (vup s.s p (vone n s p) q); rw [vup_other e]
set_option maxHeartbeats 4000000 in
/-- What the cells say of a step. -/
theorem raw_step {n : Nat} {s : VS} {p : Nat} (hl : VLoc n (s.s p)) : putA (vdid (vraw s) p) p (vat n (vraw s) p) = vraw (vstep n s p) := by
  obtain ⟨h1, h2, h3, h4, h5⟩ := hl
  have hr : (s.s p).a = 9 → ((vraw s).s p).k = (s.s p).k := fun h => by simp [vraw, vrawH, h]
  have h14 : (s.s p).a = 1 ∨ (s.s p).a = 2 ∨ (s.s p).a = 3 ∨ (s.s p).a = 4 ∨ (s.s p).a = 5 ∨ (s.s p).a = 6 ∨ (s.s p).a = 7 ∨ (s.s p).a = 8 ∨ (s.s p).a = 9 ∨ (s.s p).a = 10 ∨ (s.s p).a = 11 ∨ (s.s p).a = 12 ∨ (s.s p).a = 13 ∨ (s.s p).a = 14 := by omega
  have H : (s.s p).a = 1 ∨ (s.s p).a = 2 ∨ ((s.s p).a = 3 ∧ (s.Y = 0 ∨ s.Y ≠ 0)) ∨ (s.s p).a = 4 ∨ ((s.s p).a = 5 ∧ (s.Y = 0 ∨ s.Y ≠ 0)) ∨ (s.s p).a = 6 ∨ ((s.s p).a = 7 ∧ (s.X = p + 1 ∨ s.X ≠ p + 1)) ∨ (s.s p).a = 8 ∨ ((s.s p).a = 9 ∧ ((s.s (s.s p).k).b = 0 ∨ (s.s (s.s p).k).b ≠ 0) ∧ ((s.s p).k + 1 = n ∨ (s.s p).k + 1 ≠ n)) ∨ ((s.s p).a = 10 ∧ (s.Y = p + 1 ∨ s.Y ≠ p + 1)) ∨ ((s.s p).a = 11 ∧ (s.Y = 0 ∨ s.Y ≠ 0)) ∨ (s.s p).a = 12 ∨ (s.s p).a = 13 ∨ (s.s p).a = 14 := by
    obtain a | a | a | a | a | a | a | a | a | a | a | a | a | a := h14
    · exact (Or.inl a)
    · exact Or.inr ((Or.inl a))
    · exact Or.inr (Or.inr ((Or.inl ⟨a, Classical.em _⟩)))
    · exact Or.inr (Or.inr (Or.inr ((Or.inl a))))
    · exact Or.inr (Or.inr (Or.inr (Or.inr ((Or.inl ⟨a, Classical.em _⟩)))))
    · exact Or.inr (Or.inr (Or.inr (Or.inr (Or.inr ((Or.inl a))))))
    · exact Or.inr (Or.inr (Or.inr (Or.inr (Or.inr (Or.inr ((Or.inl ⟨a, Classical.em _⟩)))))))
    · exact Or.inr (Or.inr (Or.inr (Or.inr (Or.inr (Or.inr (Or.inr ((Or.inl a))))))))
    · exact Or.inr (Or.inr (Or.inr (Or.inr (Or.inr (Or.inr (Or.inr (Or.inr ((Or.inl ⟨a, Classical.em _, Classical.em _⟩)))))))))
    · exact Or.inr (Or.inr (Or.inr (Or.inr (Or.inr (Or.inr (Or.inr (Or.inr (Or.inr ((Or.inl ⟨a, Classical.em _⟩))))))))))
    · exact Or.inr (Or.inr (Or.inr (Or.inr (Or.inr (Or.inr (Or.inr (Or.inr (Or.inr (Or.inr ((Or.inl ⟨a, Classical.em _⟩)))))))))))
    · exact Or.inr (Or.inr (Or.inr (Or.inr (Or.inr (Or.inr (Or.inr (Or.inr (Or.inr (Or.inr (Or.inr ((Or.inl a))))))))))))
    · exact Or.inr (Or.inr (Or.inr (Or.inr (Or.inr (Or.inr (Or.inr (Or.inr (Or.inr (Or.inr (Or.inr (Or.inr ((Or.inl a)))))))))))))
    · exact Or.inr (Or.inr (Or.inr (Or.inr (Or.inr (Or.inr (Or.inr (Or.inr (Or.inr (Or.inr (Or.inr (Or.inr (Or.inr (a)))))))))))))
  clear h14
  obtain a | a | ⟨a, e | e⟩ | a | ⟨a, e | e⟩ | a | ⟨a, e | e⟩ | a | ⟨a, e | e, e2 | e2⟩ | ⟨a, e | e⟩ | ⟨a, e | e⟩ | a | a | a := H
  all_goals
    refine raw_of ?_ ?_ (fun q hq => ?_) ?_ ?_ ?_ <;> simp [vdid, vat, vX, vY, vone, vraw, vrawH, putB, putK, putX, putY, vup, *]
theorem ite_a {c : Prop} [Decidable c] {u v : VS} {q x : Nat} (h1 : (u.s q).a = x) (h2 : (v.s q).a = x) : ((if c then u else v).s q).a = x := by split <;> assumption
theorem vdid_a (s : VS) (p q : Nat) : ((vdid s p).s q).a = (s.s q).a := by
  unfold vdid
  exact ite_a (putB_a _ _ _ _) (ite_a rfl (ite_a rfl (ite_a (putB_a _ _ _ _) (ite_a (ite_a (putK_a _ _ _ _) rfl) (ite_a rfl (ite_a rfl (ite_a ((putK_a _ _ _ _).trans (putB_a _ _ _ _)) (ite_a (ite_a (putK_a _ _ _ _) rfl) (ite_a rfl (ite_a (ite_a (putK_a _ _ _ _) rfl) (ite_a rfl (ite_a rfl ((putK_a _ _ _ _).trans (putB_a _ _ _ _))))))))))))))

/-- What holds of all states. -/
abbrev lkOk (n : Nat) (s : VS) : Prop := VOk n s
theorem lkOk.line {n : Nat} {s : VS} (h : lkOk n s) {p : Nat} (hp : p < n) : 1 ≤ (s.s p).a ∧ (s.s p).a ≤ 14 := (VOk.loc h p hp).1
theorem lkOk.look {n : Nat} {s : VS} (h : lkOk n s) {p : Nat} (hp : p < n) (ha : (s.s p).a = 9) : (s.s p).k < n := (VOk.loc h p hp).2.2.2.1 ha
theorem lkOk.look' {n : Nat} {s : VS} (h : lkOk n s) {p : Nat} (hp : p < n) (ha : ((vraw s).s p).a = 9) : ((vraw s).s p).k < n := by
  have ha' : (s.s p).a = 9 := ha
  have := h.look hp ha'
  simpa [vraw, vrawH, ha'] using this
/-- A hand does its line, if it is one. -/
def lkStep (n : Nat) (s : VS) (p : Int) : VS := if 0 ≤ p ∧ p < n then vstep n s p.toNat else s
/-- The error of Step. -/
def perr (n : Nat) (p : Int) : Int := if 0 ≤ p ∧ p < n then 0 else 1
theorem lkStep_in {n : Nat} {s : VS} {p : Nat} (h : p < n) : lkStep n s p = vstep n s p := by
  rw [lkStep, if_pos (by omega)]; rfl
theorem lkStep_out {n : Nat} {s : VS} {p : Int} (h : ¬ (0 ≤ p ∧ p < n)) : lkStep n s p = s := by rw [lkStep, if_neg h]
theorem lkStep_ok {n : Nat} {s : VS} (h : lkOk n s) (p : Int) : lkOk n (lkStep n s p) := by
  rw [lkStep]
  split
  · exact VOk.step h (by omega)
  · exact h
set_option maxHeartbeats 4000000 in
theorem step_any {g n : Nat} {s : VS} (w : World) (hk : Lk w g n s) (hn : n ≤ 4) (hok : lkOk n s) (p : Int) :
    Calls Tryd.prog 10 #[.pointer (some ⟨g, 0, none⟩), .int .i64 p] w fun e w' => e = .returned (errV 41 (perr n p)) ∧ Lk w' g n (lkStep n s p) ∧ Touch (fun k => k = g) w w' := by
  have HI := Lib.hid (isHand_any p w hk.num)
  by_cases hp : 0 ≤ p ∧ p < n
  · obtain ⟨q, rfl⟩ := Int.eq_ofNat_of_zero_le hp.1
    have hq : q < n := by omega
    have hp4 : (q : Int) < 4 := by omega
    rw [decide_eq_true hp] at HI
    have HD := Lib.hid (do_any w.drew (Lk0.drew hk) hn hq (hok.line hq) (hok.look' hq))
    have HR := Lib.hid (raw_step (VOk.loc hok q hq))
    rw [lkStep_in hq, show perr n q = 0 from if_pos hp]
    clear hk hok hp
    go_enter Tryd.func10, Tryd.ntmps10
    go_wp2_with (go_at_call 19; refine HI.out.mono ?_; rintro e w' ⟨rfl, rfl⟩)
    go_region_with (go_at_call 20; refine HD.out.mono ?_; rintro e w2 ⟨rfl, hk2, ht2⟩; have ha2 := hk2.xa hq; rw [vdid_a] at ha2; have hf2 := hk2.free (7 + q * 2); have HK2 := Lib.hid hk2; have HT2 := Lib.hid ht2; clear hk2 ht2)
    all_goals
      go_wp2
      go_ret
      refine ⟨rfl, ?_, ((Touch.refl (fun k => k = g) _).drew.trans HT2.out (fun _ h => Or.inl h)).setCell (Or.inl rfl) _⟩
      have := HK2.out.setA hn hq (vat n (vraw s) q)
      rw [HR.out] at this
      exact this
  · rw [decide_eq_false hp] at HI
    rw [lkStep_out hp, show perr n p = 1 from if_neg hp]
    have HK := Lib.hid hk
    clear hk hok hp
    go_enter Tryd.func10, Tryd.ntmps10
    go_wp2_with (go_at_call 19; refine HI.out.mono ?_; rintro e w' ⟨rfl, rfl⟩)
    go_ret
    exact ⟨rfl, HK.out, Touch.refl _ _⟩

/-- At which line a hand stands; 0, if it is none. -/
def lkAt (n : Nat) (s : VS) (p : Int) : Nat := if 0 ≤ p ∧ p < n then (s.s p.toNat).a else 0
theorem lkAt_in {n : Nat} {s : VS} {p : Nat} (h : p < n) : lkAt n s p = (s.s p).a := by
  rw [lkAt, if_pos (by omega)]; rfl
set_option maxHeartbeats 4000000 in
theorem at_any {g n : Nat} {s : VS} (w : World) (hk : Lk w g n s) (hn : n ≤ 4) (p : Int) :
    Calls Tryd.prog 13 #[.pointer (some ⟨g, 0, none⟩), .int .i64 p] w fun e w' => e = .returned (.int .i64 (lkAt n s p)) ∧ w = w' := by
  have HI := Lib.hid (isHand_any p w hk.num)
  by_cases hp : 0 ≤ p ∧ p < n
  · obtain ⟨q, rfl⟩ := Int.eq_ofNat_of_zero_le hp.1
    have hq : q < n := by omega
    have hp4 : (q : Int) < 4 := by omega
    rw [decide_eq_true hp] at HI
    have hca := hk.xa hq
    rw [lkAt_in hq]
    clear hk hp
    go_enter Tryd.func13, Tryd.ntmps13
    go_wp2_with (go_at_call 19; refine HI.out.mono ?_; rintro e w' ⟨rfl, rfl⟩)
    go_ret
    exact ⟨rfl, rfl⟩
  · rw [decide_eq_false hp] at HI
    rw [lkAt, if_neg hp]
    clear hk hp
    go_enter Tryd.func13, Tryd.ntmps13
    go_wp2_with (go_at_call 19; refine HI.out.mono ?_; rintro e w' ⟨rfl, rfl⟩)
    go_ret
    exact ⟨rfl, rfl⟩
end Go.Proofs.YtjnfecaghkgdpaaDoor.Fast
