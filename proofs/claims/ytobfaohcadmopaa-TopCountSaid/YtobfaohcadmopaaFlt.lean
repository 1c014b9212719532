/-
  Package filter: what its functions do, by contracts.
-/
import Derived.Test.YtobfaohcadmopaaFltLive
import Derived.Test.YtobfaohcadmopaaTch
import Derived.Deep.QuietTactic
import Derived.BigQuiet
import Derived.LoopTactic
import Derived.Deep.RegionHeld3
import Derived.IntWalk
namespace Go.Proofs.Ytobfaohcadmopaa.Filter
open Go.RowKit

/-- The cells of a lock. -/
structure Cel (cs : Array Value) (n : Nat) (s : FS) : Prop where
  size : cs.size = 22
  num : cs[0]? = some (.int .i64 n)
  l : ∀ p, p < n → cs[1 + p]? = some (.int .i64 (s.l p))
  v : ∀ d, 1 ≤ d → d ≤ n → cs[5 + d]? = some (.int .i64 (s.v d))
  a : ∀ p, p < n → cs[10 + p * 3]? = some (.int .i64 (s.a p))
  j : ∀ p, p < n → cs[10 + p * 3 + 1]? = some (.int .i64 (s.j p))
  k : ∀ p, p < n → cs[10 + p * 3 + 2]? = some (.int .i64 (s.k p))
theorem set_at {cs : Array Value} {i : Nat} {u : Value} (h : i < cs.size) : (cs.setIfInBounds i u)[i]? = some u := by simp [h]
theorem set_off {cs : Array Value} {i j : Nat} {u : Value} (h : j ≠ i) : (cs.setIfInBounds i u)[j]? = cs[j]? := Array.getElem?_setIfInBounds_ne (by omega)
section
variable {cs : Array Value} {n : Nat} {s : FS}
theorem Cel.setL (h : Cel cs n s) (hn : n ≤ 4) {p : Nat} (hp : p < n) (z : Nat) : Cel (cs.setIfInBounds (1 + p) (.int .i64 z)) n { s with l := fup s.l p z } := by
  have hs := h.size
  refine ⟨by simpa using hs, by rw [set_off (by omega)]; exact h.num, fun q hq => ?_, fun d h1 h2 => by rw [set_off (by omega)]; exact h.v d h1 h2, fun q hq => by rw [set_off (by omega)]; exact h.a q hq, fun q hq => by rw [set_off (by omega)]; exact h.j q hq, fun q hq => by rw [set_off (by omega)]; exact h.k q hq⟩
  dsimp only
  by_cases e : q = p
  · subst e; rw [set_at (by omega), fup_same]
  · rw [set_off (by omega), fup_other e]; exact h.l q hq
theorem Cel.setV (h : Cel cs n s) (hn : n ≤ 4) {d : Nat} (h1 : 1 ≤ d) (h2 : d ≤ n) (z : Nat) : Cel (cs.setIfInBounds (5 + d) (.int .i64 z)) n { s with v := fup s.v d z } := by
  have hs := h.size
  refine ⟨by simpa using hs, by rw [set_off (by omega)]; exact h.num, fun q hq => by rw [set_off (by omega)]; exact h.l q hq, fun q h3 h4 => ?_, fun q hq => by rw [set_off (by omega)]; exact h.a q hq, fun q hq => by rw [set_off (by omega)]; exact h.j q hq, fun q hq => by rw [set_off (by omega)]; exact h.k q hq⟩
  dsimp only
  by_cases e : q = d
  · subst e; rw [set_at (by omega), fup_same]
  · rw [set_off (by omega), fup_other e]; exact h.v q h3 h4
theorem Cel.setA (h : Cel cs n s) (hn : n ≤ 4) {p : Nat} (hp : p < n) (z : Nat) : Cel (cs.setIfInBounds (10 + p * 3) (.int .i64 z)) n { s with a := fup s.a p z } := by
  have hs := h.size
  refine ⟨by simpa using hs, by rw [set_off (by omega)]; exact h.num, fun q hq => by rw [set_off (by omega)]; exact h.l q hq, fun d h1 h2 => by rw [set_off (by omega)]; exact h.v d h1 h2, fun q hq => ?_, fun q hq => by rw [set_off (by omega)]; exact h.j q hq, fun q hq => by rw [set_off (by omega)]; exact h.k q hq⟩
  dsimp only
  by_cases e : q = p
  · subst e; rw [set_at (by omega), fup_same]
  · rw [set_off (by omega), fup_other e]; exact h.a q hq
theorem Cel.setJ (h : Cel cs n s) (hn : n ≤ 4) {p : Nat} (hp : p < n) (z : Nat) : Cel (cs.setIfInBounds (10 + p * 3 + 1) (.int .i64 z)) n { s with j := fup s.j p z } := by
  have hs := h.size
  refine ⟨by simpa using hs, by rw [set_off (by omega)]; exact h.num, fun q hq => by rw [set_off (by omega)]; exact h.l q hq, fun d h1 h2 => by rw [set_off (by omega)]; exact h.v d h1 h2, fun q hq => by rw [set_off (by omega)]; exact h.a q hq, fun q hq => ?_, fun q hq => by rw [set_off (by omega)]; exact h.k q hq⟩
  dsimp only
  by_cases e : q = p
  · subst e; rw [set_at (by omega), fup_same]
  · rw [set_off (by omega), fup_other e]; exact h.j q hq
theorem Cel.setK (h : Cel cs n s) (hn : n ≤ 4) {p : Nat} (hp : p < n) (z : Nat) : Cel (cs.setIfInBounds (10 + p * 3 + 2) (.int .i64 z)) n { s with k := fup s.k p z } := by
  have hs := h.size
  refine ⟨by simpa using hs, by rw [set_off (by omega)]; exact h.num, fun q hq => by rw [set_off (by omega)]; exact h.l q hq, fun d h1 h2 => by rw [set_off (by omega)]; exact h.v d h1 h2, fun q hq => by rw [set_off (by omega)]; exact h.a q hq, fun q hq => by rw [set_off (by omega)]; exact h.j q hq, fun q hq => ?_⟩
  dsimp only
  by_cases e : q = p
  · subst e; rw [set_at (by omega), fup_same]
  · rw [set_off (by omega), fup_other e]; exact h.k q hq
end

/-- The lock in block g: n hands, as s says. -/
def Lk (w : World) (g n : Nat) (s : FS) : Prop := ∃ cs, Block w g 81 cs ∧ Cel cs n s
section
variable {w : World} {g n : Nat} {s : FS}
theorem Lk.lt (h : Lk w g n s) : g < w.heap.size := by
  obtain ⟨cs, h, _⟩ := h
  exact h.lt
theorem Lk.num (h : Lk w g n s) : w.cell? ⟨g, 0, none⟩ = some (.int .i64 n) := by
  obtain ⟨cs, h, c⟩ := h
  rw [h.cell]; exact c.num
theorem Lk.l (h : Lk w g n s) {p : Nat} (hp : p < n) : w.cell? ⟨g, 1 + p, none⟩ = some (.int .i64 (s.l p)) := by
  obtain ⟨cs, h, c⟩ := h
  rw [h.cell]; exact c.l p hp
theorem Lk.v (h : Lk w g n s) {d : Nat} (h1 : 1 ≤ d) (h2 : d ≤ n) : w.cell? ⟨g, 5 + d, none⟩ = some (.int .i64 (s.v d)) := by
  obtain ⟨cs, h, c⟩ := h
  rw [h.cell]; exact c.v d h1 h2
theorem Lk.a (h : Lk w g n s) {p : Nat} (hp : p < n) : w.cell? ⟨g, 10 + p * 3, none⟩ = some (.int .i64 (s.a p)) := by
  obtain ⟨cs, h, c⟩ := h
  rw [h.cell]; exact c.a p hp
theorem Lk.j (h : Lk w g n s) {p : Nat} (hp : p < n) : w.cell? ⟨g, 10 + p * 3 + 1, none⟩ = some (.int .i64 (s.j p)) := by
  obtain ⟨cs, h, c⟩ := h
  rw [h.cell]; exact c.j p hp
theorem Lk.k (h : Lk w g n s) {p : Nat} (hp : p < n) : w.cell? ⟨g, 10 + p * 3 + 2, none⟩ = some (.int .i64 (s.k p)) := by
  obtain ⟨cs, h, c⟩ := h
  rw [h.cell]; exact c.k p hp
theorem Lk.free (h : Lk w g n s) (i : Nat) : w.frozen? ⟨g, i, none⟩ = false := by
  obtain ⟨cs, h, _⟩ := h
  exact h.free i
theorem Lk.drewN (h : Lk w g n s) (i : Nat) : Lk (w.drewN i) g n s := h
theorem Lk.drew (h : Lk w g n s) : Lk w.drew g n s := h
theorem Lk.setL (h : Lk w g n s) (hn : n ≤ 4) {p : Nat} (hp : p < n) (z : Nat) : Lk (w.setCell ⟨g, 1 + p, none⟩ (.int .i64 z)) g n { s with l := fup s.l p z } := by
  obtain ⟨cs, h, c⟩ := h
  exact ⟨_, h.put _ _, c.setL hn hp z⟩
theorem Lk.setV (h : Lk w g n s) (hn : n ≤ 4) {d : Nat} (h1 : 1 ≤ d) (h2 : d ≤ n) (z : Nat) : Lk (w.setCell ⟨g, 5 + d, none⟩ (.int .i64 z)) g n { s with v := fup s.v d z } := by
  obtain ⟨cs, h, c⟩ := h
  exact ⟨_, h.put _ _, c.setV hn h1 h2 z⟩
theorem Lk.setA (h : Lk w g n s) (hn : n ≤ 4) {p : Nat} (hp : p < n) (z : Nat) : Lk (w.setCell ⟨g, 10 + p * 3, none⟩ (.int .i64 z)) g n { s with a := fup s.a p z } := by
  obtain ⟨cs, h, c⟩ := h
  exact ⟨_, h.put _ _, c.setA hn hp z⟩
theorem Lk.setJ (h : Lk w g n s) (hn : n ≤ 4) {p : Nat} (hp : p < n) (z : Nat) : Lk (w.setCell ⟨g, 10 + p * 3 + 1, none⟩ (.int .i64 z)) g n { s with j := fup s.j p z } := by
  obtain ⟨cs, h, c⟩ := h
  exact ⟨_, h.put _ _, c.setJ hn hp z⟩
theorem Lk.setK (h : Lk w g n s) (hn : n ≤ 4) {p : Nat} (hp : p < n) (z : Nat) : Lk (w.setCell ⟨g, 10 + p * 3 + 2, none⟩ (.int .i64 z)) g n { s with k := fup s.k p z } := by
  obtain ⟨cs, h, c⟩ := h
  exact ⟨_, h.put _ _, c.setK hn hp z⟩
end
theorem fup_twice {α : Type} (f : Nat → α) (i : Nat) (x y : α) : fup (fup f i x) i y = fup f i y := by
  funext j; unfold fup; split <;> rfl
theorem touch_one (w : World) (g i : Nat) (u : Value) : Touch (fun k => k = g) w (w.setCell ⟨g, i, none⟩ u) := (Touch.refl (fun k => k = g) w).setCell (Or.inl rfl) u

theorem isHand_any {g n : Nat} {s : FS} (p : Int) (w : World) (hk : Lk w g n s) : Calls Try.prog 36 #[.pointer (some ⟨g, 0, none⟩), .int .i64 p] w fun e w' => e = .returned (.bool (decide (0 ≤ p ∧ p < n))) ∧ w = w' := by
  have hc := hk.num
  clear hk
  by_cases h0 : 0 ≤ p
  · by_cases h1 : p < n
    · rw [decide_eq_true (show 0 ≤ p ∧ p < n from ⟨h0, h1⟩)]
      go_enter Try.func36, Try.ntmps36
      go_wp2
      go_ret
      exact ⟨rfl, rfl⟩
    · rw [decide_eq_false (show ¬ (0 ≤ p ∧ p < n) from fun h => h1 h.2)]
      go_enter Try.func36, Try.ntmps36
      go_wp2
      go_ret
      exact ⟨rfl, rfl⟩
  · rw [decide_eq_false (show ¬ (0 ≤ p ∧ p < n) from fun h => h0 h.1)]
    go_enter Try.func36, Try.ntmps36
    go_wp2
    go_ret
    exact ⟨rfl, rfl⟩

/-- Where it stands when it has passed. -/
def passAt (n : Nat) (s : FS) (p : Nat) : Nat := if n ≤ s.j p + 1 then 5 else 1
theorem passAt_eq (n : Nat) (s : FS) (p : Nat) : (fpass n s p).a p = passAt n s p := fup_same _ _ _
set_option maxHeartbeats 4000000 in
theorem pass_any {g n : Nat} {s : FS} (w : World) (hk : Lk w g n s) (hn : n ≤ 4) {p : Nat} (hp : p < n) (hj : s.j p ≤ 100) :
    Calls Try.prog 44 #[.pointer (some ⟨g, 0, none⟩), .pointer (some ⟨g, 10 + p * 3, none⟩)] w fun e w' =>
      e = .returned (.int .i64 (passAt n s p)) ∧ Lk w' g n { s with j := fup s.j p (s.j p + 1), k := fup s.k p 0 } ∧ Touch (fun k => k = g) w w' := by
  have hcn := hk.num
  have hcj := hk.j hp
  have hck := hk.k hp
  have f1 := hk.free (10 + p * 3 + 1)
  have f2 := hk.free (10 + p * 3 + 2)
  have HK := Lib.hid hk
  have hwr : IntKind.i64.wrap ((s.j p : Int) + 1) = (s.j p : Int) + 1 := IntWalk.i64_in _ (by omega)
  clear hk
  by_cases hge : n ≤ s.j p + 1
  · rw [passAt, if_pos hge]
    have hgI : (n : Int) ≤ (s.j p : Int) + 1 := by omega
    clear hge
    go_enter Try.func44, Try.ntmps44
    go_wp2
    go_quiet (fail)
    go_wp2
    go_ret
    exact ⟨rfl, ((HK.out.setJ hn hp (s.j p + 1)).setK hn hp 0).drewN _, ((touch_one w g _ _).setCell (Or.inl rfl) _).drewN _⟩
  · rw [passAt, if_neg hge]
    have hgI : ¬ (n : Int) ≤ (s.j p : Int) + 1 := by omega
    clear hge
    go_enter Try.func44, Try.ntmps44
    go_wp2
    go_quiet (fail)
    go_wp2
    go_ret
    exact ⟨rfl, ((HK.out.setJ hn hp (s.j p + 1)).setK hn hp 0).drewN _, ((touch_one w g _ _).setCell (Or.inl rfl) _).drewN _⟩

set_option maxHeartbeats 4000000 in
theorem look_any {g n : Nat} {s : FS} (w : World) (hk : Lk w g n s) (hn : n ≤ 4) {p : Nat} (hp : p < n) (ha : s.a p = 4) (hj : s.j p ≤ 100) (hkn : s.k p < n) :
    Calls Try.prog 45 #[.pointer (some ⟨g, 0, none⟩), .int .i64 p] w fun e w' =>
      e = .returned (.int .i64 ((fstep n s p).a p)) ∧ Lk w' g n { fstep n s p with a := s.a } ∧ Touch (fun k => k = g) w w' := by
  have hcn := hk.num
  have hcj := hk.j hp
  have hck := hk.k hp
  have hcl := hk.l hkn
  have f2 := hk.free (10 + p * 3 + 2)
  have HK := Lib.hid hk
  have hwr : IntKind.i64.wrap ((s.k p : Int) + 1) = (s.k p : Int) + 1 := IntWalk.i64_in _ (by omega)
  have hp4 : (p : Int) < 4 := by omega
  have hk4 : (s.k p : Int) < 4 := by omega
  have e0 : fstep n s p = if s.k p ≠ p ∧ s.j p ≤ s.l (s.k p) then { s with k := fup s.k p 0, a := fup s.a p 3 } else if s.k p + 1 = n then fpass n s p else { s with k := fup s.k p (s.k p + 1) } := by
    simp [fstep, ha]
  clear hk
  by_cases hb : s.k p ≠ p ∧ s.j p ≤ s.l (s.k p)
  · rw [if_pos hb] at e0
    rw [e0]
    obtain ⟨h1, h2⟩ := hb
    have h1I : ((s.k p : Int) != (p : Int)) = true := by simp; omega
    have h2I : (s.j p : Int) ≤ (s.l (s.k p) : Int) := by omega
    clear h1 h2 e0
    go_enter Try.func45, Try.ntmps45
    go_wp2
    go_quiet (fail)
    go_wp2
    go_ret
    exact ⟨by rw [fup_same]; rfl, HK.out.setK hn hp 0, (touch_one w g _ _).drewN _⟩
  · rw [if_neg hb] at e0
    by_cases h1 : s.k p = p
    · have h1I : ((s.k p : Int) != (p : Int)) = false := by simp; omega
      clear hb h1
      by_cases hkn1 : s.k p + 1 = n
      · rw [if_pos hkn1] at e0
        rw [e0]
        have hI : ((s.k p : Int) + 1 == (n : Int)) = true := by simp; omega
        clear hkn1 e0
        go_enter Try.func45, Try.ntmps45
        go_wp2
        go_quiet (fail)
        go_wp2
        go_quiet (fail)
        go_wp2_with (go_at_call 44; (refine (pass_any _ (((HK.out.drewN _).setK hn hp (s.k p + 1)).drewN _) hn hp hj).mono ?_); rintro e w2 ⟨rfl, hk2, ht2⟩; have HK2 := Lib.hid hk2; have HT2 := Lib.hid ht2; clear hk2 ht2)
        go_ret
        refine ⟨by rw [passAt_eq]; rfl, ?_, Touch.trans ((((Touch.refl (fun k => k = g) w).drewN _).setCell (Or.inl rfl) _).drewN _) HT2.out (fun _ h => Or.inl h)⟩
        have := HK2.out
        simp only [fup_twice] at this
        exact this
      · rw [if_neg hkn1] at e0
        rw [e0]
        have hI : ((s.k p : Int) + 1 == (n : Int)) = false := by simp; omega
        clear hkn1 e0
        go_enter Try.func45, Try.ntmps45
        go_wp2
        go_quiet (fail)
        go_wp2
        go_quiet (fail)
        go_wp2
        go_ret
        exact ⟨by rw [ha]; rfl, ((HK.out.drewN _).setK hn hp (s.k p + 1)).drewN _, ((((Touch.refl (fun k => k = g) w).drewN _).setCell (Or.inl rfl) _).drewN _)⟩
    · have h1I : ((s.k p : Int) != (p : Int)) = true := by simp; omega
      have h2I : ¬ (s.j p : Int) ≤ (s.l (s.k p) : Int) := fun h => hb ⟨h1, by omega⟩
      clear hb h1
      by_cases hkn1 : s.k p + 1 = n
      · rw [if_pos hkn1] at e0
        rw [e0]
        have hI : ((s.k p : Int) + 1 == (n : Int)) = true := by simp; omega
        clear hkn1 e0
        go_enter Try.func45, Try.ntmps45
        go_wp2
        go_quiet (fail)
        go_wp2
        go_quiet (fail)
        go_wp2_with (go_at_call 44; (refine (pass_any _ (((HK.out.drewN _).setK hn hp (s.k p + 1)).drewN _) hn hp hj).mono ?_); rintro e w2 ⟨rfl, hk2, ht2⟩; have HK2 := Lib.hid hk2; have HT2 := Lib.hid ht2; clear hk2 ht2)
        go_ret
        refine ⟨by rw [passAt_eq]; rfl, ?_, Touch.trans ((((Touch.refl (fun k => k = g) w).drewN _).setCell (Or.inl rfl) _).drewN _) HT2.out (fun _ h => Or.inl h)⟩
        have := HK2.out
        simp only [fup_twice] at this
        exact this
      · rw [if_neg hkn1] at e0
        rw [e0]
        have hI : ((s.k p : Int) + 1 == (n : Int)) = false := by simp; omega
        clear hkn1 e0
        go_enter Try.func45, Try.ntmps45
        go_wp2
        go_quiet (fail)
        go_wp2
        go_quiet (fail)
        go_wp2
        go_ret
        exact ⟨by rw [ha]; rfl, ((HK.out.drewN _).setK hn hp (s.k p + 1)).drewN _, ((((Touch.refl (fun k => k = g) w).drewN _).setCell (Or.inl rfl) _).drewN _)⟩

theorem fs_ext {s t : FS} (h1 : s.a = t.a) (h2 : s.j = t.j) (h3 : s.k = t.k) (h4 : s.l = t.l) (h5 : s.v = t.v) : s = t := by
  cases s; cases t; simp at *; exact ⟨h1, h2, h3, h4, h5⟩
set_option maxHeartbeats 4000000 in
theorem do_any {g n : Nat} {s : FS} (w : World) (hk : Lk w g n s) (hn : n ≤ 4) (hok : FOk n s) {p : Nat} (hp : p < n) :
    Calls Try.prog 37 #[.pointer (some ⟨g, 0, none⟩), .int .i64 p] w fun e w' =>
      e = .returned (.int .i64 ((fstep n s p).a p)) ∧ Lk w' g n { fstep n s p with a := s.a } ∧ Touch (fun k => k = g) w w' := by
  have hca := hk.a hp
  have hcj := hk.j hp
  have hjr := hok.jr p hp
  have har := hok.ar p hp
  have hkn := (hok.kr p hp).1
  have HK := Lib.hid hk
  have hwp : IntKind.i64.wrap ((p : Int) + 1) = (p : Int) + 1 := IntWalk.i64_in _ (by omega)
  have hp4 : (p : Int) < 4 := by omega
  have hj100 : s.j p ≤ 100 := by omega
  obtain h1 | h2 | h3 | h4 | h5 | h6 : s.a p = 1 ∨ s.a p = 2 ∨ s.a p = 3 ∨ s.a p = 4 ∨ s.a p = 5 ∨ s.a p = 6 := by omega
  · have e0 : fstep n s p = { s with l := fup s.l p (s.j p), a := fup s.a p 2 } := by simp [fstep, h1]
    rw [e0]
    have hcl := hk.l hp
    have hf := hk.free (1 + p)
    rw [h1] at hca
    clear hk hok hjr har hkn h1 e0
    go_enter Try.func37, Try.ntmps37
    go_wp2
    go_region
    all_goals
      go_wp2
      go_ret
      exact ⟨by rw [fup_same]; rfl, (HK.out.setL hn hp (s.j p)).drew, (touch_one w g _ _).drew⟩
  · have e0 : fstep n s p = { s with v := fup s.v (s.j p) (p + 1), a := fup s.a p 3 } := by simp [fstep, h2]
    rw [e0]
    have hj1 : 1 ≤ s.j p := hjr.1
    have hjn : s.j p ≤ n := by omega
    have hcv := hk.v hj1 hjn
    have hf := hk.free (5 + s.j p)
    have hj4 : (s.j p : Int) < 5 := by omega
    rw [h2] at hca
    clear hk hok hjr har hkn h2 e0
    go_enter Try.func37, Try.ntmps37
    go_wp2
    go_region
    all_goals
      go_wp2
      go_ret
      exact ⟨by rw [fup_same]; rfl, (HK.out.setV hn hj1 hjn (p + 1)).drew, (touch_one w g _ _).drew⟩
  · have hj1 : 1 ≤ s.j p := hjr.1
    have hjn : s.j p ≤ n := by omega
    have hcv := hk.v hj1 hjn
    have hj4 : (s.j p : Int) < 5 := by omega
    rw [h3] at hca
    by_cases hv : s.v (s.j p) = p + 1
    · have e0 : fstep n s p = { s with a := fup s.a p 4 } := by simp [fstep, h3, hv]
      rw [e0]
      have hvI : ((s.v (s.j p) : Int) != (p : Int) + 1) = false := by simp; omega
      clear hk hok hjr har hkn e0 hv
      go_enter Try.func37, Try.ntmps37
      go_wp2
      go_quiet (fail)
      go_wp2
      go_ret
      exact ⟨by rw [fup_same]; rfl, HK.out.drewN _, (Touch.refl _ w).drewN _⟩
    · have e0 : fstep n s p = fpass n s p := by simp [fstep, h3, hv]
      rw [e0]
      have hvI : ((s.v (s.j p) : Int) != (p : Int) + 1) = true := by simp; omega
      clear hk hok hjr har hkn e0 hv
      go_enter Try.func37, Try.ntmps37
      go_wp2
      go_quiet (fail)
      go_wp2_with (go_at_call 44; (refine (pass_any _ (HK.out.drewN _) hn hp hj100).mono ?_); rintro e w2 ⟨rfl, hk2, ht2⟩; have HK2 := Lib.hid hk2; have HT2 := Lib.hid ht2; clear hk2 ht2)
      go_ret
      exact ⟨by rw [passAt_eq]; rfl, HK2.out, Touch.trans ((Touch.refl (fun k => k = g) w).drewN _) HT2.out (fun _ h => Or.inl h)⟩
  · have HL := Lib.hid (look_any w hk hn hp h4 hj100 hkn)
    rw [h4] at hca
    clear hk hok hjr har hkn h4
    go_enter Try.func37, Try.ntmps37
    go_wp2_with (go_at_call 45; refine HL.out.mono ?_; rintro e w2 ⟨rfl, hk2, ht2⟩; have HK2 := Lib.hid hk2; have HT2 := Lib.hid ht2; clear hk2 ht2)
    go_ret
    exact ⟨rfl, HK2.out, HT2.out⟩
  · have e0 : fstep n s p = { s with a := fup s.a p 6 } := by simp [fstep, h5]
    rw [e0]
    rw [h5] at hca
    clear hk hok hjr har hkn h5 e0
    go_enter Try.func37, Try.ntmps37
    go_wp2
    go_ret
    exact ⟨by rw [fup_same]; rfl, HK.out, Touch.refl _ w⟩
  · have e0 : fstep n s p = { s with l := fup s.l p 0, j := fup s.j p 1, k := fup s.k p 0, a := fup s.a p 1 } := by simp [fstep, h6]
    have hk0 : fup s.k p 0 = s.k := by
      funext i; unfold fup; split
      · rename_i e; rw [e, (hok.kr p hp).2 (by omega)]
      · rfl
    rw [hk0] at e0
    rw [e0]
    have hcl := hk.l hp
    have hf := hk.free (1 + p)
    have hf2 := hk.free (10 + p * 3 + 1)
    rw [h6] at hca
    clear hk hok hjr har hkn h6 e0 hk0
    go_enter Try.func37, Try.ntmps37
    go_wp2
    go_ret
    exact ⟨by rw [fup_same]; rfl, (HK.out.setL hn hp 0).setJ hn hp 1, (touch_one w g _ _).setCell (Or.inl rfl) _⟩

/-- A hand does its line, if it is one. -/
def lkStep (n : Nat) (s : FS) (p : Int) : FS := if 0 ≤ p ∧ p < n then fstep n s p.toNat else s
/-- The error of Step. -/
def perr (n : Nat) (p : Int) : Int := if 0 ≤ p ∧ p < n then 0 else 1
theorem lkStep_in {n : Nat} {s : FS} {p : Nat} (h : p < n) : lkStep n s p = fstep n s p := by
  rw [lkStep, if_pos (by omega)]; rfl
theorem lkStep_out {n : Nat} {s : FS} {p : Int} (h : ¬ (0 ≤ p ∧ p < n)) : lkStep n s p = s := by rw [lkStep, if_neg h]
theorem lkStep_ok {n : Nat} {s : FS} (h : FOk n s) (p : Int) : FOk n (lkStep n s p) := by
  rw [lkStep]
  split
  · exact h.step (by omega)
  · exact h
theorem setA_done (n : Nat) (s : FS) (p : Nat) : { fstep n s p with a := fup s.a p ((fstep n s p).a p) } = fstep n s p := by
  have : fup s.a p ((fstep n s p).a p) = (fstep n s p).a := by
    funext q
    by_cases e : q = p
    · subst e; exact fup_same _ _ _
    · rw [fup_other e]; exact (fstep_other e).1.symm
  rw [this]
set_option maxHeartbeats 4000000 in
theorem step_any {g n : Nat} {s : FS} (w : World) (hk : Lk w g n s) (hn : n ≤ 4) (hok : FOk n s) (p : Int) :
    Calls Try.prog 26 #[.pointer (some ⟨g, 0, none⟩), .int .i64 p] w fun e w' => e = .returned (errV 48 (perr n p)) ∧ Lk w' g n (lkStep n s p) ∧ Touch (fun k => k = g) w w' := by
  have HI := Lib.hid (isHand_any p w hk)
  by_cases hp : 0 ≤ p ∧ p < n
  · obtain ⟨q, rfl⟩ := Int.eq_ofNat_of_zero_le hp.1
    have hq : q < n := by omega
    have hp4 : (q : Int) < 4 := by omega
    rw [decide_eq_true hp] at HI
    have HD := Lib.hid (do_any w.drew hk.drew hn hok hq)
    rw [lkStep_in hq, show perr n q = 0 from if_pos hp]
    clear hk hok hp
    go_enter Try.func26, Try.ntmps26
    go_wp2_with (go_at_call 36; refine HI.out.mono ?_; rintro e w' ⟨rfl, rfl⟩)
    go_region_with (go_at_call 37; refine HD.out.mono ?_; rintro e w2 ⟨rfl, hk2, ht2⟩; have ha2 := hk2.a hq; have hf2 := hk2.free (10 + q * 3); have HK2 := Lib.hid hk2; have HT2 := Lib.hid ht2; clear hk2 ht2)
    all_goals
      go_wp2
      go_ret
      refine ⟨rfl, ?_, ((Touch.refl (fun k => k = g) _).drew.trans HT2.out (fun _ h => Or.inl h)).setCell (Or.inl rfl) _⟩
      have := HK2.out.setA hn hq ((fstep n s q).a q)
      dsimp only at this
      rw [setA_done] at this
      exact this
  · rw [decide_eq_false hp] at HI
    rw [lkStep_out hp, show perr n p = 1 from if_neg hp]
    have HK := Lib.hid hk
    clear hk hok hp
    go_enter Try.func26, Try.ntmps26
    go_wp2_with (go_at_call 36; refine HI.out.mono ?_; rintro e w' ⟨rfl, rfl⟩)
    go_ret
    exact ⟨rfl, HK.out, Touch.refl _ _⟩

/-- At which line a hand stands; 0, if it is none. -/
def lkAt (n : Nat) (s : FS) (p : Int) : Nat := if 0 ≤ p ∧ p < n then s.a p.toNat else 0
theorem lkAt_in {n : Nat} {s : FS} {p : Nat} (h : p < n) : lkAt n s p = s.a p := by
  rw [lkAt, if_pos (by omega)]; rfl
set_option maxHeartbeats 4000000 in
theorem at_any {g n : Nat} {s : FS} (w : World) (hk : Lk w g n s) (hn : n ≤ 4) (p : Int) :
    Calls Try.prog 25 #[.pointer (some ⟨g, 0, none⟩), .int .i64 p] w fun e w' => e = .returned (.int .i64 (lkAt n s p)) ∧ w = w' := by
  have HI := Lib.hid (isHand_any p w hk)
  by_cases hp : 0 ≤ p ∧ p < n
  · obtain ⟨q, rfl⟩ := Int.eq_ofNat_of_zero_le hp.1
    have hq : q < n := by omega
    have hp4 : (q : Int) < 4 := by omega
    rw [decide_eq_true hp] at HI
    have hca := hk.a hq
    rw [lkAt_in hq]
    clear hk hp
    go_enter Try.func25, Try.ntmps25
    go_wp2_with (go_at_call 36; refine HI.out.mono ?_; rintro e w' ⟨rfl, rfl⟩)
    go_ret
    exact ⟨rfl, rfl⟩
  · rw [decide_eq_false hp] at HI
    rw [lkAt, if_neg hp]
    clear hk hp
    go_enter Try.func25, Try.ntmps25
    go_wp2_with (go_at_call 36; refine HI.out.mono ?_; rintro e w' ⟨rfl, rfl⟩)
    go_ret
    exact ⟨rfl, rfl⟩
end Go.Proofs.Ytobfaohcadmopaa.Filter
