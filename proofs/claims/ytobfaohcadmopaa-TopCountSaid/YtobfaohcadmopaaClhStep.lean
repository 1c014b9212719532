import Derived.Test.YtobfaohcadmopaaClhDo
/-
  Package clh: what Step and At answer.
-/
namespace Go.Proofs.Ytobfaohcadmopaa.Clh
open Go.RowKit

theorem cs_ext {s t : CS} (h1 : s.a = t.a) (h2 : s.m = t.m) (h3 : s.r = t.r) (h4 : s.B = t.B) (h5 : s.T = t.T) : s = t := by
  cases s; cases t; simp_all
theorem cup_is {α : Type} {f : Nat → α} {i : Nat} {x : α} (h : x = f i) : cup f i x = f := by rw [h]; exact cup_id f i
theorem raw_big {s : CS} {p : Nat} (h : 2 < s.a p) : (craw s).r p = s.r p := by show (if s.a p ≤ 2 then 0 else s.r p) = s.r p; rw [if_neg (by omega)]
/-- A hand stands elsewhere, its a is what it was. -/
theorem raw_keep (s : CS) (p x : Nat) (m B : Nat → Nat) (T : Nat) (h : s.a p ≤ 2 ∧ x ≤ 2 ∨ 2 < s.a p ∧ 2 < x) : craw ⟨cup s.a p x, m, s.r, B, T⟩ = ⟨cup s.a p x, m, (craw s).r, B, T⟩ := by
  refine cs_ext rfl rfl (funext fun q => ?_) rfl rfl
  show (if cup s.a p x q ≤ 2 then 0 else s.r q) = if s.a q ≤ 2 then 0 else s.r q
  by_cases e : q = p
  · subst e
    rw [cup_same]
    split
    · split <;> omega
    · split <;> omega
  · rw [cup_other e]
/-- It has another a. -/
theorem raw_set (s : CS) (p x z : Nat) (m B : Nat → Nat) (T : Nat) (h : 2 < x) : craw ⟨cup s.a p x, m, cup s.r p z, B, T⟩ = ⟨cup s.a p x, m, cup (craw s).r p z, B, T⟩ := by
  refine cs_ext rfl rfl (funext fun q => ?_) rfl rfl
  show (if cup s.a p x q ≤ 2 then 0 else cup s.r p z q) = cup (fun r => if s.a r ≤ 2 then 0 else s.r r) p z q
  by_cases e : q = p
  · subst e
    rw [cup_same, cup_same, cup_same, if_neg (by omega)]
  · rw [cup_other e, cup_other e, cup_other e]
/-- It is at line 1 again. -/
theorem raw_out (s : CS) (p : Nat) (m B : Nat → Nat) (T : Nat) : craw ⟨cup s.a p 1, m, s.r, B, T⟩ = ⟨cup s.a p 1, m, cup (craw s).r p 0, B, T⟩ := by
  refine cs_ext rfl rfl (funext fun q => ?_) rfl rfl
  show (if cup s.a p 1 q ≤ 2 then 0 else s.r q) = cup (fun r => if s.a r ≤ 2 then 0 else s.r r) p 0 q
  by_cases e : q = p
  · subst e
    rw [cup_same, cup_same, if_pos (by omega)]
  · rw [cup_other e, cup_other e]
/-- What the cells say of a step. -/
theorem raw_step {s : CS} {p : Nat} (ha : 1 ≤ s.a p ∧ s.a p ≤ 5) : putA (cdid (craw s) p) p (cone (craw s) p) = craw (cstep s p) := by
  have hra : (craw s).a = s.a := rfl
  have hrT : (craw s).T = s.T := rfl
  have hrm : (craw s).m = s.m := rfl
  have hrB : (craw s).B = s.B := rfl
  obtain a1 | a2 | a3 | a4 | a5 : s.a p = 1 ∨ s.a p = 2 ∨ s.a p = 3 ∨ s.a p = 4 ∨ s.a p = 5 := by omega
  · have e1 : cone (craw s) p = 2 := by simp [cone, hra, a1]
    have e2 : cdid (craw s) p = putB (craw s) (s.m p) 1 := by simp [cdid, hra, hrm, a1]
    have e3 : cstep s p = ⟨cup s.a p 2, s.m, s.r, cup s.B (s.m p) 1, s.T⟩ := by simp [cstep, a1]
    rw [e1, e2, e3, raw_keep _ _ _ _ _ _ (by omega)]; rfl
  · have e1 : cone (craw s) p = 3 := by simp [cone, hra, a2]
    have e2 : cdid (craw s) p = putT (putR (craw s) p s.T) (s.m p) := by simp [cdid, hra, hrT, hrm, a2]
    have e3 : cstep s p = ⟨cup s.a p 3, s.m, cup s.r p s.T, s.B, s.m p⟩ := by simp [cstep, a2]
    rw [e1, e2, e3, raw_set _ _ _ _ _ _ _ (by omega)]; rfl
  · have e2 : cdid (craw s) p = craw s := by simp [cdid, hra, a3]
    have hb0 := raw_big (show 2 < s.a p by omega)
    by_cases hb : s.B (s.r p) = 0
    · have e1 : cone (craw s) p = 4 := by simp [cone, hra, hrB, hb0, a3, hb]
      have e3 : cstep s p = ⟨cup s.a p 4, s.m, s.r, s.B, s.T⟩ := by simp [cstep, a3, hb]
      rw [e1, e2, e3, raw_keep _ _ _ _ _ _ (by omega)]; rfl
    · have e1 : cone (craw s) p = 3 := by simp [cone, hra, hrB, hb0, a3, hb]
      have e3 : cstep s p = s := by simp [cstep, a3, hb]
      rw [e1, e2, e3]
      exact cs_ext (cup_is (by rw [hra, a3])) rfl rfl rfl rfl
  · have e1 : cone (craw s) p = 5 := by simp [cone, hra, a4]
    have e2 : cdid (craw s) p = craw s := by simp [cdid, hra, a4]
    have e3 : cstep s p = ⟨cup s.a p 5, s.m, s.r, s.B, s.T⟩ := by simp [cstep, a4]
    rw [e1, e2, e3, raw_keep _ _ _ _ _ _ (by omega)]; rfl
  · have e1 : cone (craw s) p = 1 := by simp [cone, hra, a5]
    have e2 : cdid (craw s) p = putR (putM (putB (craw s) (s.m p) 0) p (s.r p)) p 0 := by simp [cdid, hra, hrm, a5, raw_big (show 2 < s.a p by omega)]
    have e3 : cstep s p = ⟨cup s.a p 1, cup s.m p (s.r p), s.r, cup s.B (s.m p) 0, s.T⟩ := by simp [cstep, a5]
    rw [e1, e2, e3, raw_out]; rfl
theorem cdid_a (s : CS) (p : Nat) : (cdid s p).a = s.a := by
  unfold cdid
  repeat' split
  all_goals rfl

/-- What holds of all states. -/
abbrev lkOk (n : Nat) (s : CS) : Prop := ∃ q h e f, COk n s q h e f
theorem lkOk.line {n : Nat} {s : CS} (h : lkOk n s) {p : Nat} (hp : p < n) : 1 ≤ s.a p ∧ s.a p ≤ 5 := by
  obtain ⟨q, h, e, f, k⟩ := h
  exact k.rng p hp
theorem lkOk.mine {n : Nat} {s : CS} (h : lkOk n s) {p : Nat} (hp : p < n) : s.m p ≤ n := by
  obtain ⟨q, h, e, f, k⟩ := h
  exact k.ml p hp
theorem lkOk.far {n : Nat} {s : CS} (h : lkOk n s) {p : Nat} (hp : p < n) (ha : 3 ≤ s.a p) : s.r p ≤ n := by
  obtain ⟨q, h, e, f, k⟩ := h
  exact k.rl hp ha
theorem lkOk.ahead {n : Nat} {s : CS} (h : lkOk n s) {p : Nat} (hp : p < n) (ha : (craw s).a p = 3) : (craw s).r p ≤ n := by
  have hra : (craw s).a p = s.a p := rfl
  rw [hra] at ha
  rw [raw_big (show 2 < s.a p by omega)]
  exact h.far hp (by omega)
/-- A hand does its line, if it is one. -/
def lkStep (n : Nat) (s : CS) (p : Int) : CS := if 0 ≤ p ∧ p < n then cstep s p.toNat else s
/-- The error of Step. -/
def perr (n : Nat) (p : Int) : Int := if 0 ≤ p ∧ p < n then 0 else 1
theorem lkStep_in {n : Nat} {s : CS} {p : Nat} (h : p < n) : lkStep n s p = cstep s p := by
  rw [lkStep, if_pos (by omega)]; rfl
theorem lkStep_out {n : Nat} {s : CS} {p : Int} (h : ¬ (0 ≤ p ∧ p < n)) : lkStep n s p = s := by rw [lkStep, if_neg h]
theorem cstep_oth {s : CS} {p r : Nat} (h : r ≠ p) : (cstep s p).a r = s.a r ∧ (cstep s p).m r = s.m r ∧ (cstep s p).r r = s.r r := by
  unfold cstep
  repeat' split
  all_goals exact ⟨by first | rfl | exact cup_other h, by first | rfl | exact cup_other h, by first | rfl | exact cup_other h⟩
theorem lkStep_ok {n : Nat} {s : CS} (h : lkOk n s) (p : Int) : lkOk n (lkStep n s p) := by
  rw [lkStep]
  split
  · obtain ⟨q, h, e, f, k⟩ := h
    exact ⟨_, _, _, _, k.step (by omega)⟩
  · exact h
set_option maxHeartbeats 4000000 in
theorem step_any {g n : Nat} {s : CS} (w : World) (hk : Lk w g n s) (hn : n ≤ 4) (hok : lkOk n s) (p : Int) :
    Calls Try.prog 10 #[.pointer (some ⟨g, 0, none⟩), .int .i64 p] w fun e w' => e = .returned (errV 48 (perr n p)) ∧ Lk w' g n (lkStep n s p) ∧ Touch (fun k => k = g) w w' := by
  have HI := Lib.hid (isHand_any p w hk.num)
  by_cases hp : 0 ≤ p ∧ p < n
  · obtain ⟨q, rfl⟩ := Int.eq_ofNat_of_zero_le hp.1
    have hq : q < n := by omega
    have hp4 : (q : Int) < 4 := by omega
    rw [decide_eq_true hp] at HI
    have HD := Lib.hid (do_any w.drew (Lk0.drew hk) hn hq (hok.line hq) (hok.mine hq) (hok.ahead hq))
    have HR := Lib.hid (raw_step (hok.line hq))
    rw [lkStep_in hq, show perr n q = 0 from if_pos hp]
    clear hk hok hp
    go_enter Try.func10, Try.ntmps10
    go_wp2_with (go_at_call 27; refine HI.out.mono ?_; rintro e w' ⟨rfl, rfl⟩)
    go_region_with (go_at_call 28; refine HD.out.mono ?_; rintro e w2 ⟨rfl, hk2, ht2⟩; have ha2 := hk2.xa hq; rw [cdid_a] at ha2; have hf2 := hk2.free (7 + q * 3); have HK2 := Lib.hid hk2; have HT2 := Lib.hid ht2; clear hk2 ht2)
    all_goals
      go_wp2
      go_ret
      refine ⟨rfl, ?_, ((Touch.refl (fun k => k = g) _).drew.trans HT2.out (fun _ h => Or.inl h)).setCell (Or.inl rfl) _⟩
      have := HK2.out.setA hn hq (cone (craw s) q)
      rw [HR.out] at this
      exact this
  · rw [decide_eq_false hp] at HI
    rw [lkStep_out hp, show perr n p = 1 from if_neg hp]
    have HK := Lib.hid hk
    clear hk hok hp
    go_enter Try.func10, Try.ntmps10
    go_wp2_with (go_at_call 27; refine HI.out.mono ?_; rintro e w' ⟨rfl, rfl⟩)
    go_ret
    exact ⟨rfl, HK.out, Touch.refl _ _⟩

/-- At which line a hand stands; 0, if it is none. -/
def lkAt (n : Nat) (s : CS) (p : Int) : Nat := if 0 ≤ p ∧ p < n then s.a p.toNat else 0
theorem lkAt_in {n : Nat} {s : CS} {p : Nat} (h : p < n) : lkAt n s p = s.a p := by
  rw [lkAt, if_pos (by omega)]; rfl
set_option maxHeartbeats 4000000 in
theorem at_any {g n : Nat} {s : CS} (w : World) (hk : Lk w g n s) (hn : n ≤ 4) (p : Int) :
    Calls Try.prog 11 #[.pointer (some ⟨g, 0, none⟩), .int .i64 p] w fun e w' => e = .returned (.int .i64 (lkAt n s p)) ∧ w = w' := by
  have HI := Lib.hid (isHand_any p w hk.num)
  by_cases hp : 0 ≤ p ∧ p < n
  · obtain ⟨q, rfl⟩ := Int.eq_ofNat_of_zero_le hp.1
    have hq : q < n := by omega
    have hp4 : (q : Int) < 4 := by omega
    rw [decide_eq_true hp] at HI
    have hca := hk.xa hq
    rw [lkAt_in hq]
    clear hk hp
    go_enter Try.func11, Try.ntmps11
    go_wp2_with (go_at_call 27; refine HI.out.mono ?_; rintro e w' ⟨rfl, rfl⟩)
    go_ret
    exact ⟨rfl, rfl⟩
  · rw [decide_eq_false hp] at HI
    rw [lkAt, if_neg hp]
    clear hk hp
    go_enter Try.func11, Try.ntmps11
    go_wp2_with (go_at_call 27; refine HI.out.mono ?_; rintro e w' ⟨rfl, rfl⟩)
    go_ret
    exact ⟨rfl, rfl⟩
end Go.Proofs.Ytobfaohcadmopaa.Clh
