import Derived.Test.YthainkgpafbjcaaDoorSplitDo
/-
  Package split: what Step, At and Name answer.
-/
namespace Go.Proofs.YthainkgpafbjcaaDoor.Split
open Go.RowKit

theorem sps_ext {s t : SPS} (h1 : s.s = t.s) (h2 : s.X = t.X) (h3 : s.Y = t.Y) : s = t := by
  cases s; cases t; simp_all
theorem sh_ext {s t : SH} (h1 : s.a = t.a) (h2 : s.r = t.r) (h3 : s.c = t.c) : s = t := by
  cases s; cases t; simp_all
theorem raw_of {s u : SPS} {p z : Nat} (hX : u.X = spX s p) (hY : u.Y = spY s p) (ho : ∀ q, q ≠ p → u.s q = s.s q) (hr : (u.s p).r = (spone s p).r) (hc : (u.s p).c = (spone s p).c) (hz : z = (spone s p).a) : putA u p z = spstep s p := by
  refine sps_ext (funext fun q => ?_) hX hY
  by_cases e : q = p
  · subst e
    refine sh_ext ?_ ?_ ?_
    · rw [putA_same, hz]; show _ = (sup' s.s q (spone s q) q).a; rw [sup_same]
    · rw [putA_r, hr]; show _ = (sup' s.s q (spone s q) q).r; rw [sup_same]
    · rw [putA_c, hc]; show _ = (sup' s.s q (spone s q) q).c; rw [sup_same]
  · rw [putA_off _ e, ho q e]; show s.s q = sup' s.s p (spone s p) q; rw [sup_other e]
theorem raw_step (s : SPS) (p : Nat) : putA (sdid s p) p (spone s p).a = spstep s p := by
  by_cases a1 : (s.s p).a = 1
  · exact raw_of (by simp [sdid, spX, putX, a1]) (by simp [sdid, spY, putX, a1]) (fun q _ => by simp [sdid, putX, a1]) (by simp [sdid, spone, putX, a1]) (by simp [sdid, spone, putX, a1]) rfl
  by_cases a2 : (s.s p).a = 2
  · by_cases hb : s.Y (s.s p).r (s.s p).c = 1
    · exact raw_of (by simp [sdid, spX, putC, a2, hb]) (by simp [sdid, spY, putC, a2, hb]) (fun q hq => by simp [sdid, putC, a2, hb, sup', hq]) (by simp [sdid, spone, putC, a2, hb, sup']) (by simp [sdid, spone, putC, a2, hb, sup']) rfl
    · exact raw_of (by simp [sdid, spX, a2, hb]) (by simp [sdid, spY, a2, hb]) (fun q _ => by simp [sdid, a2, hb]) (by simp [sdid, spone, a2, hb]) (by simp [sdid, spone, a2, hb]) rfl
  by_cases a3 : (s.s p).a = 3
  · exact raw_of (by simp [sdid, spX, putY, a3]) (by simp [sdid, spY, putY, a3]) (fun q _ => by simp [sdid, putY, a3]) (by simp [sdid, spone, putY, a3]) (by simp [sdid, spone, putY, a3]) rfl
  by_cases a4 : (s.s p).a = 4
  · by_cases hb : s.X (s.s p).r (s.s p).c = p + 1
    · exact raw_of (by simp [sdid, spX, a4, hb]) (by simp [sdid, spY, a4, hb]) (fun q _ => by simp [sdid, a4, hb]) (by simp [sdid, spone, a4, hb]) (by simp [sdid, spone, a4, hb]) rfl
    · exact raw_of (by simp [sdid, spX, putR, a4, hb]) (by simp [sdid, spY, putR, a4, hb]) (fun q hq => by simp [sdid, putR, a4, hb, sup', hq]) (by simp [sdid, spone, putR, a4, hb, sup']) (by simp [sdid, spone, putR, a4, hb, sup']) rfl
  · exact raw_of (by simp [sdid, spX, a1, a2, a3, a4]) (by simp [sdid, spY, a1, a2, a3, a4]) (fun q _ => by simp [sdid, a1, a2, a3, a4]) (by simp [sdid, spone, a1, a2, a3, a4]) (by simp [sdid, spone, a1, a2, a3, a4]) rfl
theorem ite_a {c : Prop} [Decidable c] {u v : SPS} {q x : Nat} (h1 : (u.s q).a = x) (h2 : (v.s q).a = x) : ((if c then u else v).s q).a = x := by split <;> assumption
theorem sdid_a (s : SPS) (p q : Nat) : ((sdid s p).s q).a = (s.s q).a := by
  unfold sdid
  exact ite_a rfl (ite_a (ite_a (putC_a _ _ _ _) rfl) (ite_a rfl (ite_a (ite_a rfl (putR_a _ _ _ _)) rfl)))

/-- The grid in block g: n hands, as s says. -/
def Lk (w : World) (g n : Nat) (s : SG) : Prop := Lk0 w g n s.v
theorem Lk.num {w : World} {g n : Nat} {s : SG} (h : Lk w g n s) : w.cell? ⟨g, 0, none⟩ = some (.int .i64 n) := Lk0.num h
theorem Lk.lt {w : World} {g n : Nat} {s : SG} (h : Lk w g n s) : g < w.heap.size := Lk0.lt h
theorem Lk.xa {w : World} {g n : Nat} {s : SG} (h : Lk w g n s) {p : Nat} (hp : p < n) : w.cell? ⟨g, 21 + p * 3, none⟩ = some (.int .i64 (s.v.s p).a) := Lk0.xa h hp
theorem Lk.drew {w : World} {g n : Nat} {s : SG} (h : Lk w g n s) : Lk w.drew g n s := h
/-- What holds of all states. -/
abbrev lkOk (n : Nat) (s : SG) : Prop := SOk n s
/-- A hand does its line, if it is one. -/
def lkStep (n : Nat) (s : SG) (p : Int) : SG := if 0 ≤ p ∧ p < n then sgstep s p.toNat else s
/-- The error of Step. -/
def perr (n : Nat) (p : Int) : Int := if 0 ≤ p ∧ p < n then 0 else 1
theorem lkStep_in {n : Nat} {s : SG} {p : Nat} (h : p < n) : lkStep n s p = sgstep s p := by
  rw [lkStep, if_pos (by omega)]; rfl
theorem lkStep_out {n : Nat} {s : SG} {p : Int} (h : ¬ (0 ≤ p ∧ p < n)) : lkStep n s p = s := by rw [lkStep, if_neg h]
theorem lkStep_ok {n : Nat} {s : SG} (h : lkOk n s) (p : Int) : lkOk n (lkStep n s p) := by
  rw [lkStep]
  split
  · exact SOk.step h (by omega)
  · exact h

set_option maxHeartbeats 4000000 in
theorem step_any {g n : Nat} {s : SG} (w : World) (hk : Lk w g n s) (hn : n ≤ 4) (hok : lkOk n s) (p : Int) :
    Calls Tryd.prog 10 #[.pointer (some ⟨g, 0, none⟩), .int .i64 p] w fun e w' => e = .returned (errV 40 (perr n p)) ∧ Lk w' g n (lkStep n s p) ∧ Touch (fun k => k = g) w w' := by
  have HI := Lib.hid (isHand_any p w hk.num)
  by_cases hp : 0 ≤ p ∧ p < n
  · obtain ⟨q, rfl⟩ := Int.eq_ofNat_of_zero_le hp.1
    have hq : q < n := by omega
    have hp4 : (q : Int) < 4 := by omega
    rw [decide_eq_true hp] at HI
    have HD := Lib.hid (do_any w.drew (Lk0.drew hk) hn hq (hok.rng q hq) (by have := SOk.depth hok hq; unfold dep at this; omega))
    have HR := Lib.hid (raw_step s.v q)
    rw [lkStep_in hq, show perr n q = 0 from if_pos hp]
    clear hk hok hp
    go_enter Tryd.func10, Tryd.ntmps10
    go_wp2_with (go_at_call 18; refine HI.out.mono ?_; rintro e w' ⟨rfl, rfl⟩)
    go_region_with (go_at_call 19; refine HD.out.mono ?_; rintro e w2 ⟨rfl, hk2, ht2⟩; have ha2 := hk2.xa hq; rw [sdid_a] at ha2; have hf2 := hk2.free (21 + q * 3); have HK2 := Lib.hid hk2; have HT2 := Lib.hid ht2; clear hk2 ht2)
    all_goals
      go_wp2
      go_ret
      refine ⟨rfl, ?_, ((Touch.refl (fun k => k = g) _).drew.trans HT2.out (fun _ h => Or.inl h)).setCell (Or.inl rfl) _⟩
      have := HK2.out.setA hn hq (spone s.v q).a
      rw [HR.out] at this
      exact this
  · rw [decide_eq_false hp] at HI
    rw [lkStep_out hp, show perr n p = 1 from if_neg hp]
    have HK := Lib.hid hk
    clear hk hok hp
    go_enter Tryd.func10, Tryd.ntmps10
    go_wp2_with (go_at_call 18; refine HI.out.mono ?_; rintro e w' ⟨rfl, rfl⟩)
    go_ret
    exact ⟨rfl, HK.out, Touch.refl _ _⟩

/-- At which line a hand stands; 0, if it is none. -/
def lkAt (n : Nat) (s : SG) (p : Int) : Nat := if 0 ≤ p ∧ p < n then (s.v.s p.toNat).a else 0
theorem lkAt_in {n : Nat} {s : SG} {p : Nat} (h : p < n) : lkAt n s p = (s.v.s p).a := by
  rw [lkAt, if_pos (by omega)]; rfl
set_option maxHeartbeats 4000000 in
theorem at_any {g n : Nat} {s : SG} (w : World) (hk : Lk w g n s) (hn : n ≤ 4) (p : Int) :
    Calls Tryd.prog 12 #[.pointer (some ⟨g, 0, none⟩), .int .i64 p] w fun e w' => e = .returned (.int .i64 (lkAt n s p)) ∧ w = w' := by
  have HI := Lib.hid (isHand_any p w hk.num)
  by_cases hp : 0 ≤ p ∧ p < n
  · obtain ⟨q, rfl⟩ := Int.eq_ofNat_of_zero_le hp.1
    have hq : q < n := by omega
    have hp4 : (q : Int) < 4 := by omega
    rw [decide_eq_true hp] at HI
    have hca := hk.xa hq
    rw [lkAt_in hq]
    clear hk hp
    go_enter Tryd.func12, Tryd.ntmps12
    go_wp2_with (go_at_call 18; refine HI.out.mono ?_; rintro e w' ⟨rfl, rfl⟩)
    go_ret
    exact ⟨rfl, rfl⟩
  · rw [decide_eq_false hp] at HI
    rw [lkAt, if_neg hp]
    clear hk hp
    go_enter Tryd.func12, Tryd.ntmps12
    go_wp2_with (go_at_call 18; refine HI.out.mono ?_; rintro e w' ⟨rfl, rfl⟩)
    go_ret
    exact ⟨rfl, rfl⟩

/-- A hand's name; -1, if it has none, or is none. -/
def lkName (n : Nat) (s : SG) (p : Int) : Int := if 0 ≤ p ∧ p < n then (spnam s.v p.toNat : Int) - 1 else -1
theorem lkName_in {n : Nat} {s : SG} {p : Nat} (h : p < n) : lkName n s p = (spnam s.v p : Int) - 1 := by
  rw [lkName, if_pos (by omega)]; rfl
set_option maxHeartbeats 4000000 in
theorem name_any {g n : Nat} {s : SG} (w : World) (hk : Lk w g n s) (hn : n ≤ 4) (hok : lkOk n s) (p : Int) :
    Calls Tryd.prog 13 #[.pointer (some ⟨g, 0, none⟩), .int .i64 p] w fun e w' => e = .returned (.int .i64 (lkName n s p)) ∧ Below w.heap.size w w' := by
  have HA := Lib.hid (at_any w hk hn p)
  by_cases hp : 0 ≤ p ∧ p < n
  · obtain ⟨q, rfl⟩ := Int.eq_ofNat_of_zero_le hp.1
    have hq : q < n := by omega
    have hp4 : (q : Int) < 4 := by omega
    rw [lkAt_in hq] at HA
    rw [lkName_in hq]
    by_cases h5 : (s.v.s q).a = 5
    · have hd : (s.v.s q).r + (s.v.s q).c < 4 := by have := SOk.depth hok hq; unfold dep at this; omega
      have hca := hk.xa hq
      have hcr := Lk0.xr hk hq
      have hcc := Lk0.xc hk hq
      rw [h5] at HA hca
      have HN := Lib.hid (fun w0 => number_any 5 hd w0)
      have HE := Lib.hid (show (spnam s.v q : Int) - 1 = (pn (s.v.s q).r (s.v.s q).c : Nat) by unfold spnam pn; rw [if_pos h5]; omega)
      clear hk hp hok h5 hd
      go_enter Tryd.func13, Tryd.ntmps13
      go_wp2_with (first | (go_at_call 12; refine HA.out.mono ?_; rintro e w' ⟨rfl, rfl⟩) | (go_at_call 20; (with_reducible refine (HN.out _).mono ?_); rintro e w2 ⟨rfl, hb⟩; have H2 := Lib.hid hb; clear hb))
      go_ret
      rw [HE.out]
      exact ⟨rfl, H2.out⟩
    · have hI : (((s.v.s q).a : Int) != 5) = true := by simp; omega
      have HE := Lib.hid (show (spnam s.v q : Int) - 1 = -1 by unfold spnam; rw [if_neg h5]; omega)
      clear hk hp hok h5
      go_enter Tryd.func13, Tryd.ntmps13
      go_wp2_with (go_at_call 12; refine HA.out.mono ?_; rintro e w' ⟨rfl, rfl⟩)
      go_ret
      rw [HE.out]
      exact ⟨rfl, Below.refl _ _⟩
  · rw [lkAt, if_neg hp] at HA
    rw [lkName, if_neg hp]
    clear hk hp hok
    go_enter Tryd.func13, Tryd.ntmps13
    go_wp2_with (go_at_call 12; refine HA.out.mono ?_; rintro e w' ⟨rfl, rfl⟩)
    go_ret
    exact ⟨rfl, Below.refl _ _⟩
end Go.Proofs.YthainkgpafbjcaaDoor.Split
