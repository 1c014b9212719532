import Derived.Test.YtobfaohcadmopaaMcsDo
/-
  Package mcs: what Step and At answer.
-/
namespace Go.Proofs.Ytobfaohcadmopaa.Mcs
open Go.RowKit

theorem qup_is {α : Type} {f : Nat → α} {i : Nat} {x : α} (h : x = f i) : qup f i x = f := by rw [h]; exact qup_id f i
theorem raw_big {s : QS} {p : Nat} (h : 2 < s.a p) : (qraw s).o p = s.o p := by show (if s.a p ≤ 2 then 0 else s.o p) = s.o p; rw [if_neg (by omega)]
/-- A hand stands elsewhere, its s is what it was. -/
theorem raw_keep (s : QS) (p x : Nat) (w f : Nat → Nat) (T : Nat) (h : s.a p ≤ 2 ∧ x ≤ 2 ∨ 2 < s.a p ∧ 2 < x ∨ s.o p = 0) : qraw ⟨qup s.a p x, s.o, w, f, T⟩ = ⟨qup s.a p x, (qraw s).o, w, f, T⟩ := by
  refine qs_ext rfl (funext fun q => ?_) rfl rfl rfl
  show (if qup s.a p x q ≤ 2 then 0 else s.o q) = if s.a q ≤ 2 then 0 else s.o q
  by_cases e : q = p
  · subst e
    rw [qup_same]
    split
    · split <;> omega
    · split <;> omega
  · rw [qup_other e]
/-- It has another s. -/
theorem raw_set (s : QS) (p x z : Nat) (w f : Nat → Nat) (T : Nat) (h : 2 < x) : qraw ⟨qup s.a p x, qup s.o p z, w, f, T⟩ = ⟨qup s.a p x, qup (qraw s).o p z, w, f, T⟩ := by
  refine qs_ext rfl (funext fun q => ?_) rfl rfl rfl
  show (if qup s.a p x q ≤ 2 then 0 else qup s.o p z q) = qup (fun r => if s.a r ≤ 2 then 0 else s.o r) p z q
  by_cases e : q = p
  · subst e
    rw [qup_same, qup_same, qup_same, if_neg (by omega)]
  · rw [qup_other e, qup_other e, qup_other e]
/-- It is at line 1 again. -/
theorem raw_out (s : QS) (p : Nat) (w f : Nat → Nat) (T : Nat) : qraw ⟨qup s.a p 1, s.o, w, f, T⟩ = ⟨qup s.a p 1, qup (qraw s).o p 0, w, f, T⟩ := by
  refine qs_ext rfl (funext fun q => ?_) rfl rfl rfl
  show (if qup s.a p 1 q ≤ 2 then 0 else s.o q) = qup (fun r => if s.a r ≤ 2 then 0 else s.o r) p 0 q
  by_cases e : q = p
  · subst e
    rw [qup_same, qup_same, if_pos (by omega)]
  · rw [qup_other e, qup_other e]
/-- What the cells say of a step. -/
theorem raw_step {s : QS} {p : Nat} (ha : 1 ≤ s.a p ∧ s.a p ≤ 10) (h8 : s.a p = 8 → s.o p = 0) : putA (mdid (qraw s) p) p (mone (qraw s) p) = qraw (qstep s p) := by
  have hra : (qraw s).a = s.a := rfl
  have hrT : (qraw s).T = s.T := rfl
  have hrw : (qraw s).w = s.w := rfl
  have hrf : (qraw s).f = s.f := rfl
  obtain a1 | a2 | a3 | a4 | a5 | a6 | a7 | a8 | a9 | a10 : s.a p = 1 ∨ s.a p = 2 ∨ s.a p = 3 ∨ s.a p = 4 ∨ s.a p = 5 ∨ s.a p = 6 ∨ s.a p = 7 ∨ s.a p = 8 ∨ s.a p = 9 ∨ s.a p = 10 := by omega
  · have e1 : mone (qraw s) p = 2 := by simp [mone, hra, a1]
    have e2 : mdid (qraw s) p = putF (qraw s) p 0 := by simp [mdid, hra, a1]
    have e3 : qstep s p = ⟨qup s.a p 2, s.o, s.w, qup s.f p 0, s.T⟩ := by simp [qstep, a1]
    rw [e1, e2, e3, raw_keep _ _ _ _ _ _ (by omega)]; rfl
  · have e2 : mdid (qraw s) p = putT (putO (qraw s) p s.T) (p + 1) := by simp [mdid, hra, hrT, a2]
    by_cases hb : s.T = 0
    · have e1 : mone (qraw s) p = 6 := by simp [mone, hra, hrT, a2, hb]
      have e3 : qstep s p = ⟨qup s.a p 6, qup s.o p s.T, s.w, s.f, p + 1⟩ := by simp [qstep, a2, hb]
      rw [e1, e2, e3, raw_set _ _ _ _ _ _ _ (by omega)]; rfl
    · have e1 : mone (qraw s) p = 3 := by simp [mone, hra, hrT, a2, hb]
      have e3 : qstep s p = ⟨qup s.a p 3, qup s.o p s.T, s.w, s.f, p + 1⟩ := by simp [qstep, a2, hb]
      rw [e1, e2, e3, raw_set _ _ _ _ _ _ _ (by omega)]; rfl
  · have e1 : mone (qraw s) p = 4 := by simp [mone, hra, a3]
    have e2 : mdid (qraw s) p = putW (qraw s) p 1 := by simp [mdid, hra, a3]
    have e3 : qstep s p = ⟨qup s.a p 4, s.o, qup s.w p 1, s.f, s.T⟩ := by simp [qstep, a3]
    rw [e1, e2, e3, raw_keep _ _ _ _ _ _ (by omega)]; rfl
  · have e1 : mone (qraw s) p = 5 := by simp [mone, hra, a4]
    have e2 : mdid (qraw s) p = putF (qraw s) (s.o p - 1) (p + 1) := by simp [mdid, hra, a4, raw_big (show 2 < s.a p by omega)]
    have e3 : qstep s p = ⟨qup s.a p 5, s.o, s.w, qup s.f (s.o p - 1) (p + 1), s.T⟩ := by simp [qstep, a4]
    rw [e1, e2, e3, raw_keep _ _ _ _ _ _ (by omega)]; rfl
  · have e2 : mdid (qraw s) p = qraw s := by simp [mdid, hra, a5]
    by_cases hb : s.w p = 0
    · have e1 : mone (qraw s) p = 6 := by simp [mone, hra, hrw, a5, hb]
      have e3 : qstep s p = ⟨qup s.a p 6, s.o, s.w, s.f, s.T⟩ := by simp [qstep, a5, hb]
      rw [e1, e2, e3, raw_keep _ _ _ _ _ _ (by omega)]; rfl
    · have e1 : mone (qraw s) p = 5 := by simp [mone, hra, hrw, a5, hb]
      have e3 : qstep s p = s := by simp [qstep, a5, hb]
      rw [e1, e2, e3]
      exact qs_ext (qup_is (by rw [hra, a5])) rfl rfl rfl rfl
  · have e1 : mone (qraw s) p = 7 := by simp [mone, hra, a6]
    have e2 : mdid (qraw s) p = qraw s := by simp [mdid, hra, a6]
    have e3 : qstep s p = ⟨qup s.a p 7, s.o, s.w, s.f, s.T⟩ := by simp [qstep, a6]
    rw [e1, e2, e3, raw_keep _ _ _ _ _ _ (by omega)]; rfl
  · have e2 : mdid (qraw s) p = putO (qraw s) p (s.f p) := by simp [mdid, hra, hrf, a7]
    by_cases hb : s.f p = 0
    · have e1 : mone (qraw s) p = 8 := by simp [mone, hra, hrf, a7, hb]
      have e3 : qstep s p = ⟨qup s.a p 8, qup s.o p (s.f p), s.w, s.f, s.T⟩ := by simp [qstep, a7, hb]
      rw [e1, e2, e3, raw_set _ _ _ _ _ _ _ (by omega)]; rfl
    · have e1 : mone (qraw s) p = 10 := by simp [mone, hra, hrf, a7, hb]
      have e3 : qstep s p = ⟨qup s.a p 10, qup s.o p (s.f p), s.w, s.f, s.T⟩ := by simp [qstep, a7, hb]
      rw [e1, e2, e3, raw_set _ _ _ _ _ _ _ (by omega)]; rfl
  · by_cases hb : s.T = p + 1
    · have e1 : mone (qraw s) p = 1 := by simp [mone, hra, hrT, a8, hb]
      have e2 : mdid (qraw s) p = putT (qraw s) 0 := by simp [mdid, hra, hrT, a8, hb]
      have e3 : qstep s p = ⟨qup s.a p 1, s.o, s.w, s.f, 0⟩ := by simp [qstep, a8, hb]
      rw [e1, e2, e3, raw_keep _ _ _ _ _ _ (by have := h8 a8; omega)]; rfl
    · have e1 : mone (qraw s) p = 9 := by simp [mone, hra, hrT, a8, hb]
      have e2 : mdid (qraw s) p = qraw s := by simp [mdid, hra, hrT, a8, hb]
      have e3 : qstep s p = ⟨qup s.a p 9, s.o, s.w, s.f, s.T⟩ := by simp [qstep, a8, hb]
      rw [e1, e2, e3, raw_keep _ _ _ _ _ _ (by omega)]; rfl
  · have e2 : mdid (qraw s) p = putO (qraw s) p (s.f p) := by simp [mdid, hra, hrf, a9]
    by_cases hb : s.f p = 0
    · have e1 : mone (qraw s) p = 9 := by simp [mone, hra, hrf, a9, hb]
      have e3 : qstep s p = ⟨qup s.a p 9, qup s.o p (s.f p), s.w, s.f, s.T⟩ := by simp [qstep, a9, hb]
      rw [e1, e2, e3, raw_set _ _ _ _ _ _ _ (by omega)]; rfl
    · have e1 : mone (qraw s) p = 10 := by simp [mone, hra, hrf, a9, hb]
      have e3 : qstep s p = ⟨qup s.a p 10, qup s.o p (s.f p), s.w, s.f, s.T⟩ := by simp [qstep, a9, hb]
      rw [e1, e2, e3, raw_set _ _ _ _ _ _ _ (by omega)]; rfl
  · have e1 : mone (qraw s) p = 1 := by simp [mone, hra, a10]
    have e2 : mdid (qraw s) p = putO (putW (qraw s) (s.o p - 1) 0) p 0 := by simp [mdid, hra, a10, raw_big (show 2 < s.a p by omega)]
    have e3 : qstep s p = ⟨qup s.a p 1, s.o, qup s.w (s.o p - 1) 0, s.f, s.T⟩ := by simp [qstep, a10]
    rw [e1, e2, e3, raw_out]; rfl
theorem mdid_a (s : QS) (p : Nat) : (mdid s p).a = s.a := by
  unfold mdid
  repeat' split
  all_goals rfl

/-- What holds of all states. -/
abbrev lkOk (n : Nat) (s : QS) : Prop := (∃ q h e, MOk n s q h e) ∧ ∀ p, p < n → s.a p = 8 → s.o p = 0
theorem lkOk.line {n : Nat} {s : QS} (h : lkOk n s) {p : Nat} (hp : p < n) : 1 ≤ s.a p ∧ s.a p ≤ 10 := by
  obtain ⟨⟨q, h, e, k⟩, _⟩ := h
  exact k.rng p hp
theorem lkOk.known {n : Nat} {s : QS} (h : lkOk n s) {p : Nat} (hp : p < n) (ha : (qraw s).a p = 4 ∨ (qraw s).a p = 10) : 1 ≤ (qraw s).o p ∧ (qraw s).o p ≤ n := by
  obtain ⟨⟨q, h, e, k⟩, _⟩ := h
  have hra : (qraw s).a p = s.a p := rfl
  rw [hra] at ha
  rw [raw_big (show 2 < s.a p by omega)]
  obtain ⟨i, g1, g2, g3⟩ := k.mem p hp (by omega)
  rcases ha with a4 | a10
  · rcases Nat.lt_or_ge h i with hi | hi
    · have h5 := (k.rest i hi g2).2.2 (by rw [g3]; omega)
      rw [g3] at h5
      have := k.low (i - 1) (by omega) (by omega)
      omega
    · obtain rfl : i = h := by omega
      have := k.head g2
      rw [g3] at this
      omega
  · have h5 := k.place hp (by omega)
    have h6 := k.ten h5.1 (by rw [h5.2]; exact a10)
    rw [h5.2] at h6
    have := k.low (h + 1) (by omega) h6.1
    omega
/-- A hand does its line, if it is one. -/
def lkStep (n : Nat) (s : QS) (p : Int) : QS := if 0 ≤ p ∧ p < n then qstep s p.toNat else s
/-- The error of Step. -/
def perr (n : Nat) (p : Int) : Int := if 0 ≤ p ∧ p < n then 0 else 1
theorem lkStep_in {n : Nat} {s : QS} {p : Nat} (h : p < n) : lkStep n s p = qstep s p := by
  rw [lkStep, if_pos (by omega)]; rfl
theorem lkStep_out {n : Nat} {s : QS} {p : Int} (h : ¬ (0 ≤ p ∧ p < n)) : lkStep n s p = s := by rw [lkStep, if_neg h]
theorem eight_step {s : QS} {p : Nat} (ha : 1 ≤ s.a p ∧ s.a p ≤ 10) (h8 : (qstep s p).a p = 8) : (qstep s p).o p = 0 := by
  unfold qstep at h8 ⊢
  obtain a1 | a2 | a3 | a4 | a5 | a6 | a7 | a8 | a9 | a10 : s.a p = 1 ∨ s.a p = 2 ∨ s.a p = 3 ∨ s.a p = 4 ∨ s.a p = 5 ∨ s.a p = 6 ∨ s.a p = 7 ∨ s.a p = 8 ∨ s.a p = 9 ∨ s.a p = 10 := by omega
  · simp [a1, qup_same] at h8
  · simp [a2, qup_same] at h8; split at h8 <;> omega
  · simp [a3, qup_same] at h8
  · simp [a4, qup_same] at h8
  · simp [a5] at h8; split at h8
    · simp [qup_same] at h8
    · omega
  · simp [a6, qup_same] at h8
  · by_cases hb : s.f p = 0
    · simp [a7, qup_same, hb]
    · simp [a7, qup_same, hb] at h8
  · simp [a8] at h8; split at h8 <;> simp [qup_same] at h8
  · simp [a9, qup_same] at h8; split at h8 <;> omega
  · simp [a10, qup_same] at h8
theorem qstep_oth {s : QS} {p r : Nat} (h : r ≠ p) : (qstep s p).a r = s.a r ∧ (qstep s p).o r = s.o r := by
  unfold qstep
  repeat' split
  all_goals exact ⟨by first | rfl | exact qup_other h, by first | rfl | exact qup_other h⟩
theorem lkStep_ok {n : Nat} {s : QS} (h : lkOk n s) (p : Int) : lkOk n (lkStep n s p) := by
  rw [lkStep]
  split
  · have hl := h.line (p := p.toNat) (by omega)
    obtain ⟨⟨q, h, e, k⟩, h8⟩ := h
    refine ⟨⟨_, _, _, k.step (by omega)⟩, fun r hr a8 => ?_⟩
    by_cases e2 : r = p.toNat
    · subst e2; exact eight_step hl a8
    · rw [(qstep_oth e2).1] at a8; rw [(qstep_oth e2).2]; exact h8 r hr a8
  · exact h
set_option maxHeartbeats 4000000 in
theorem step_any {g n : Nat} {s : QS} (w : World) (hk : Lk w g n s) (hn : n ≤ 4) (hok : lkOk n s) (p : Int) :
    Calls Try.prog 24 #[.pointer (some ⟨g, 0, none⟩), .int .i64 p] w fun e w' => e = .returned (errV 48 (perr n p)) ∧ Lk w' g n (lkStep n s p) ∧ Touch (fun k => k = g) w w' := by
  have HI := Lib.hid (isHand_any p w hk.num)
  by_cases hp : 0 ≤ p ∧ p < n
  · obtain ⟨q, rfl⟩ := Int.eq_ofNat_of_zero_le hp.1
    have hq : q < n := by omega
    have hp4 : (q : Int) < 4 := by omega
    rw [decide_eq_true hp] at HI
    have HD := Lib.hid (do_any w.drew (Lk0.drew hk) hn hq (hok.line hq) (hok.known hq))
    have HR := Lib.hid (raw_step (hok.line hq) (hok.2 q hq))
    rw [lkStep_in hq, show perr n q = 0 from if_pos hp]
    clear hk hok hp
    go_enter Try.func24, Try.ntmps24
    go_wp2_with (go_at_call 34; refine HI.out.mono ?_; rintro e w' ⟨rfl, rfl⟩)
    go_region_with (go_at_call 35; refine HD.out.mono ?_; rintro e w2 ⟨rfl, hk2, ht2⟩; have ha2 := hk2.xa hq; rw [mdid_a] at ha2; have hf2 := hk2.free (10 + q * 2); have HK2 := Lib.hid hk2; have HT2 := Lib.hid ht2; clear hk2 ht2)
    all_goals
      go_wp2
      go_ret
      refine ⟨rfl, ?_, ((Touch.refl (fun k => k = g) _).drew.trans HT2.out (fun _ h => Or.inl h)).setCell (Or.inl rfl) _⟩
      have := HK2.out.setA hn hq (mone (qraw s) q)
      rw [HR.out] at this
      exact this
  · rw [decide_eq_false hp] at HI
    rw [lkStep_out hp, show perr n p = 1 from if_neg hp]
    have HK := Lib.hid hk
    clear hk hok hp
    go_enter Try.func24, Try.ntmps24
    go_wp2_with (go_at_call 34; refine HI.out.mono ?_; rintro e w' ⟨rfl, rfl⟩)
    go_ret
    exact ⟨rfl, HK.out, Touch.refl _ _⟩

/-- At which line a hand stands; 0, if it is none. -/
def lkAt (n : Nat) (s : QS) (p : Int) : Nat := if 0 ≤ p ∧ p < n then s.a p.toNat else 0
theorem lkAt_in {n : Nat} {s : QS} {p : Nat} (h : p < n) : lkAt n s p = s.a p := by
  rw [lkAt, if_pos (by omega)]; rfl
set_option maxHeartbeats 4000000 in
theorem at_any {g n : Nat} {s : QS} (w : World) (hk : Lk w g n s) (hn : n ≤ 4) (p : Int) :
    Calls Try.prog 23 #[.pointer (some ⟨g, 0, none⟩), .int .i64 p] w fun e w' => e = .returned (.int .i64 (lkAt n s p)) ∧ w = w' := by
  have HI := Lib.hid (isHand_any p w hk.num)
  by_cases hp : 0 ≤ p ∧ p < n
  · obtain ⟨q, rfl⟩ := Int.eq_ofNat_of_zero_le hp.1
    have hq : q < n := by omega
    have hp4 : (q : Int) < 4 := by omega
    rw [decide_eq_true hp] at HI
    have hca := hk.xa hq
    rw [lkAt_in hq]
    clear hk hp
    go_enter Try.func23, Try.ntmps23
    go_wp2_with (go_at_call 34; refine HI.out.mono ?_; rintro e w' ⟨rfl, rfl⟩)
    go_ret
    exact ⟨rfl, rfl⟩
  · rw [decide_eq_false hp] at HI
    rw [lkAt, if_neg hp]
    clear hk hp
    go_enter Try.func23, Try.ntmps23
    go_wp2_with (go_at_call 34; refine HI.out.mono ?_; rintro e w' ⟨rfl, rfl⟩)
    go_ret
    exact ⟨rfl, rfl⟩
end Go.Proofs.Ytobfaohcadmopaa.Mcs
