import Derived.Test.YtobfaohcadmopaaTckDo
/-
  Package ticket: what Step and At answer.
-/
namespace Go.Proofs.Ytobfaohcadmopaa.Ticket
open Go.RowKit

theorem ts_ext {x y : TS} (h1 : x.a = y.a) (h2 : x.t = y.t) (h3 : x.nx = y.nx) (h4 : x.nw = y.nw) : x = y := by
  cases x; cases y; cases h1; cases h2; cases h3; cases h4; rfl
theorem tup_id {α : Type} {f : Nat → α} {i : Nat} {x : α} (h : x = f i) : tup f i x = f := by
  funext j; unfold tup; split
  · rename_i e; rw [e, h]
  · rfl
theorem tup_twice {α : Type} (f : Nat → α) (i : Nat) (x y : α) : tup (tup f i x) i y = tup f i y := by
  funext j; unfold tup; split <;> rfl
/-- What the cells say of a step. -/
theorem raw_step {s : TS} {p : Nat} (ha : 1 ≤ s.a p ∧ s.a p ≤ 4) : putA (pdid (traw s) p) p (pone (traw s) p) = traw (tstep s p) := by
  have hra : (traw s).a = s.a := rfl
  obtain a1 | a2 | a3 | a4 : s.a p = 1 ∨ s.a p = 2 ∨ s.a p = 3 ∨ s.a p = 4 := by omega
  · have e1 : pone (traw s) p = 2 := by simp [pone, hra, a1]
    have e2 : pdid (traw s) p = putX (putT (traw s) p s.nx) (s.nx + 1) := by simp only [pdid, hra, a1, if_true]; rfl
    have e3 : tstep s p = { a := tup s.a p 2, t := tup s.t p s.nx, nx := s.nx + 1, nw := s.nw } := by simp [tstep, a1]
    rw [e1, e2, e3]
    refine ts_ext rfl ?_ rfl rfl
    funext q
    show tup (traw s).t p s.nx q = if tup s.a p 2 q = 1 then 0 else tup s.t p s.nx q
    by_cases e : q = p
    · subst e; rw [tup_same, tup_same, tup_same, if_neg (by omega)]
    · rw [tup_other e, tup_other e, tup_other e]; rfl
  · have hrt : (traw s).t p = s.t p := by show (if s.a p = 1 then 0 else s.t p) = s.t p; rw [if_neg (by omega)]
    have e2 : pdid (traw s) p = traw s := by simp [pdid, hra, a2]
    rw [e2]
    by_cases hb : s.nw = s.t p
    · have e1 : pone (traw s) p = 3 := by simp only [pone, hra, a2, hrt]; simp [traw, hb]
      have e3 : tstep s p = { s with a := tup s.a p 3 } := by simp [tstep, a2, hb]
      rw [e1, e3]
      refine ts_ext rfl ?_ rfl rfl
      funext q
      show (if s.a q = 1 then 0 else s.t q) = if tup s.a p 3 q = 1 then 0 else s.t q
      by_cases e : q = p
      · subst e; rw [tup_same, if_neg (by omega), if_neg (by omega)]
      · rw [tup_other e]
    · have e1 : pone (traw s) p = 2 := by simp only [pone, hra, a2, hrt]; simp [traw, hb]
      have e3 : tstep s p = s := by simp [tstep, a2, hb]
      rw [e1, e3]
      exact ts_ext (tup_id (by rw [hra, a2])) rfl rfl rfl
  · have e1 : pone (traw s) p = 4 := by simp [pone, hra, a3]
    have e2 : pdid (traw s) p = traw s := by simp [pdid, hra, a3]
    have e3 : tstep s p = { s with a := tup s.a p 4 } := by simp [tstep, a3]
    rw [e1, e2, e3]
    refine ts_ext rfl ?_ rfl rfl
    funext q
    show (if s.a q = 1 then 0 else s.t q) = if tup s.a p 4 q = 1 then 0 else s.t q
    by_cases e : q = p
    · subst e; rw [tup_same, if_neg (by omega), if_neg (by omega)]
    · rw [tup_other e]
  · have hrt : (traw s).t p = s.t p := by show (if s.a p = 1 then 0 else s.t p) = s.t p; rw [if_neg (by omega)]
    have e1 : pone (traw s) p = 1 := by simp [pone, hra, a4]
    have e2 : pdid (traw s) p = putT (putW (traw s) (s.t p + 1)) p 0 := by simp only [pdid, hra, a4, hrt]; rfl
    have e3 : tstep s p = { s with a := tup s.a p 1, nw := s.t p + 1 } := by simp [tstep, a4]
    rw [e1, e2, e3]
    refine ts_ext rfl ?_ rfl rfl
    funext q
    show tup (traw s).t p 0 q = if tup s.a p 1 q = 1 then 0 else s.t q
    by_cases e : q = p
    · subst e; rw [tup_same, tup_same, if_pos rfl]
    · rw [tup_other e, tup_other e]; rfl
theorem pdid_a (s : TS) (p : Nat) : (pdid s p).a = s.a := by
  unfold pdid
  split
  · rfl
  · split <;> rfl

/-- What holds of all states. -/
abbrev lkOk (n : Nat) (s : TS) : Prop := ∃ Q, TOk n s Q
theorem lkOk.line {n : Nat} {s : TS} (h : lkOk n s) {p : Nat} (hp : p < n) : 1 ≤ s.a p ∧ s.a p ≤ 4 := by
  obtain ⟨Q, h⟩ := h
  by_cases e : s.a p = 1
  · omega
  · obtain ⟨i, _, _, _, _, g⟩ := h.place hp e; omega
theorem lkOk.drawn {n : Nat} {s : TS} (h : lkOk n s) {p : Nat} (hp : p < n) : (traw s).t p ≤ s.nx := by
  obtain ⟨Q, h⟩ := h
  show (if s.a p = 1 then 0 else s.t p) ≤ s.nx
  split
  · omega
  · rename_i e
    obtain ⟨i, _, g1, g2, _⟩ := h.place hp e
    have := h.len
    omega
/-- A hand does its line, if it is one. -/
def lkStep (n : Nat) (s : TS) (p : Int) : TS := if 0 ≤ p ∧ p < n then tstep s p.toNat else s
/-- The error of Step. -/
def perr (n : Nat) (p : Int) : Int := if 0 ≤ p ∧ p < n then 0 else 1
theorem lkStep_in {n : Nat} {s : TS} {p : Nat} (h : p < n) : lkStep n s p = tstep s p := by
  rw [lkStep, if_pos (by omega)]; rfl
theorem lkStep_out {n : Nat} {s : TS} {p : Int} (h : ¬ (0 ≤ p ∧ p < n)) : lkStep n s p = s := by rw [lkStep, if_neg h]
theorem lkStep_ok {n : Nat} {s : TS} (h : lkOk n s) (p : Int) : lkOk n (lkStep n s p) := by
  rw [lkStep]
  split
  · obtain ⟨Q, h⟩ := h
    exact ⟨_, h.step (by omega)⟩
  · exact h
set_option maxHeartbeats 4000000 in
theorem step_any {g n : Nat} {s : TS} (w : World) (hk : Lk w g n s) (hn : n ≤ 4) (hok : lkOk n s) (hm : s.nx ≤ 1000000) (p : Int) :
    Calls Try.prog 15 #[.pointer (some ⟨g, 0, none⟩), .int .i64 p] w fun e w' => e = .returned (errV 48 (perr n p)) ∧ Lk w' g n (lkStep n s p) ∧ Touch (fun k => k = g) w w' := by
  have HI := Lib.hid (isHand_any p w hk.num)
  by_cases hp : 0 ≤ p ∧ p < n
  · obtain ⟨q, rfl⟩ := Int.eq_ofNat_of_zero_le hp.1
    have hq : q < n := by omega
    have hp4 : (q : Int) < 4 := by omega
    rw [decide_eq_true hp] at HI
    have HD := Lib.hid (do_any w.drew (Lk0.drew hk) hn hq (hok.line hq) ⟨hm, Nat.le_trans (hok.drawn hq) hm⟩)
    have HR := Lib.hid (raw_step (hok.line hq))
    rw [lkStep_in hq, show perr n q = 0 from if_pos hp]
    clear hk hok hp hm
    go_enter Try.func15, Try.ntmps15
    go_wp2_with (go_at_call 30; refine HI.out.mono ?_; rintro e w' ⟨rfl, rfl⟩)
    go_region_with (go_at_call 31; refine HD.out.mono ?_; rintro e w2 ⟨rfl, hk2, ht2⟩; have ha2 := hk2.xa hq; rw [pdid_a] at ha2; have hf2 := hk2.free (3 + q * 2); have HK2 := Lib.hid hk2; have HT2 := Lib.hid ht2; clear hk2 ht2)
    all_goals
      go_wp2
      go_ret
      refine ⟨rfl, ?_, ((Touch.refl (fun k => k = g) _).drew.trans HT2.out (fun _ h => Or.inl h)).setCell (Or.inl rfl) _⟩
      have := HK2.out.setA hn hq (pone (traw s) q)
      rw [HR.out] at this
      exact this
  · rw [decide_eq_false hp] at HI
    rw [lkStep_out hp, show perr n p = 1 from if_neg hp]
    have HK := Lib.hid hk
    clear hk hok hp hm
    go_enter Try.func15, Try.ntmps15
    go_wp2_with (go_at_call 30; refine HI.out.mono ?_; rintro e w' ⟨rfl, rfl⟩)
    go_ret
    exact ⟨rfl, HK.out, Touch.refl _ _⟩

/-- At which line a hand stands; 0, if it is none. -/
def lkAt (n : Nat) (s : TS) (p : Int) : Nat := if 0 ≤ p ∧ p < n then s.a p.toNat else 0
theorem lkAt_in {n : Nat} {s : TS} {p : Nat} (h : p < n) : lkAt n s p = s.a p := by
  rw [lkAt, if_pos (by omega)]; rfl
set_option maxHeartbeats 4000000 in
theorem at_any {g n : Nat} {s : TS} (w : World) (hk : Lk w g n s) (hn : n ≤ 4) (p : Int) :
    Calls Try.prog 16 #[.pointer (some ⟨g, 0, none⟩), .int .i64 p] w fun e w' => e = .returned (.int .i64 (lkAt n s p)) ∧ w = w' := by
  have HI := Lib.hid (isHand_any p w hk.num)
  by_cases hp : 0 ≤ p ∧ p < n
  · obtain ⟨q, rfl⟩ := Int.eq_ofNat_of_zero_le hp.1
    have hq : q < n := by omega
    have hp4 : (q : Int) < 4 := by omega
    rw [decide_eq_true hp] at HI
    have hca := hk.xa hq
    rw [lkAt_in hq]
    clear hk hp
    go_enter Try.func16, Try.ntmps16
    go_wp2_with (go_at_call 30; refine HI.out.mono ?_; rintro e w' ⟨rfl, rfl⟩)
    go_ret
    exact ⟨rfl, rfl⟩
  · rw [decide_eq_false hp] at HI
    rw [lkAt, if_neg hp]
    clear hk hp
    go_enter Try.func16, Try.ntmps16
    go_wp2_with (go_at_call 30; refine HI.out.mono ?_; rintro e w' ⟨rfl, rfl⟩)
    go_ret
    exact ⟨rfl, rfl⟩
end Go.Proofs.Ytobfaohcadmopaa.Ticket
