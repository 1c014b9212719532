/-
  Chapter 14 as plain mathematics: a step keeps what is always so; what is told was there at some time.
-/
import Derived.Test.YtoaakonfofjamaaSnpMath
namespace Go.Proofs.Ytoaakonfofjamaa
theorem hnext_old {H : Nat → Nat → Nat} {T t : Nat} {x : Nat → Nat} (h : t ≤ T) : hnext H T x t = H t := nput_other (by omega)
theorem hnext_now (H : Nat → Nat → Nat) (T : Nat) (x : Nat → Nat) : hnext H T x (T + 1) = x := nput_same _ _ _
section
variable {n T : Nat} {H : Nat → Nat → Nat} {X : Nat → Nat} (hX : ∀ q, q < n → H T q ≤ X q)
include hX
theorem SGood.later {c q : Nat} {w : SW} (g : SGood n H T c q w) (hq : q < n) (hc : c ≤ T) : SGood n (hnext H T X) (T + 1) c q w := by
  obtain ⟨h1, h2, h3, t, h4, h5, h6⟩ := g
  refine ⟨h1, ?_, ?_, t, by omega, ?_, fun r hr => ?_⟩
  · rw [hnext_now]; have := hX q hq; omega
  · rw [hnext_old hc]; exact h3
  · rw [hnext_old h4]; exact h5
  · rw [hnext_old h4]; exact h6 r hr
omit hX in
theorem SWas.later {c : Nat} {s : Nat → Nat} (g : SWas n H T c s) : SWas n (hnext H T X) (T + 1) c s := by
  obtain ⟨t, h1, h2, h3⟩ := g
  exact ⟨t, h1, by omega, fun r hr => by rw [hnext_old h2]; exact h3 r hr⟩
theorem SHk.later {c p t : Nat} {x : SB} (g : SHk n H T c p t x) : SHk n (hnext H T X) (T + 1) c p t x := by
  refine ⟨g.ln, fun h => ?_, fun h => ?_, fun h => ?_, fun h => ?_⟩
  · obtain ⟨h1, h2, h3⟩ := g.on h
    exact ⟨by omega, by rw [hnext_old h1]; exact h2, h3⟩
  · have h0 := (g.on (by omega)).1
    obtain ⟨h1, h2, h3⟩ := g.one h
    exact ⟨h1, h2, fun q hq => (h3 q hq).later hX (by omega) h0⟩
  · have h0 := (g.on (by omega)).1
    obtain ⟨h1, tm, h2, h3, h4, h5⟩ := g.two h
    refine ⟨h1, tm, h2, by omega, fun q hq => ?_, fun q hq => ?_⟩
    · obtain ⟨a1, a2, a3, a4⟩ := h4 q hq
      rw [hnext_old h3, hnext_old h0]
      exact ⟨a1.later hX hq h0, a2, a3, a4⟩
    · obtain ⟨a1, a2⟩ := h5 q hq
      rw [hnext_old h3]
      exact ⟨a1.later hX (by omega) h0, a2⟩
  · obtain ⟨h1, h2⟩ := g.three h
    exact ⟨h1, h2.later⟩
end
/-- A hand that does nothing. -/
theorem SHk.none {n T c p t : Nat} {H : Nat → Nat → Nat} {x : SB} (h : x.a = 0) : SHk n H T c p t x :=
  ⟨by omega, fun h1 => absurd h h1, fun h1 => by omega, fun h1 => by omega, fun h1 => by omega⟩
section
variable {n T : Nat} {H : Nat → Nat → Nat} {b : Nat → Nat} {v : SS} (k : SnOk n H T b v)
include k
/-- Time goes on, and no word is another one. -/
theorem SnOk.skip : SnOk n (hnext H T fun q => (v.wd q).t) (T + 1) b v := by
  have hX : ∀ q, q < n → H T q ≤ (v.wd q).t := fun q hq => by rw [k.hn q hq]; exact Nat.le_refl _
  refine ⟨fun q hq => by rw [hnext_now], fun t q ht hq => ?_, k.vt, fun q hq => ?_, fun p hp => (k.hk p hp).later hX⟩
  · by_cases e : t = T
    · rw [e, hnext_now, hnext_old (Nat.le_refl _)]; exact hX q hq
    · rw [hnext_old (by omega), hnext_old (by omega)]; exact k.hm t q (by omega) hq
  · obtain ⟨t, h1, h2, h3⟩ := k.ws q hq
    exact ⟨t, by omega, by rw [hnext_old h1]; exact h2, fun r hr => by rw [hnext_old h1]; exact h3 r hr⟩
/-- A hand begins. -/
theorem SnOk.beg {p x : Nat} {w : Bool} (hp : p < n) (hx : w = true → x = (v.wd p).t + 1) (hn0 : 0 < n) :
    SnOk n (hnext H T fun q => (v.wd q).t) (T + 1) (nput b p T) (sbeg v p w x) := by
  have k' := k.skip
  refine ⟨k'.hn, k'.hm, k'.vt, k'.ws, fun q hq => ?_⟩
  by_cases e : q = p
  · subst e
    show SHk n _ _ (nput b q T q) q (v.wd q).t (nput v.h q _ q)
    rw [nput_same, nput_same]
    refine ⟨(by omega : 1 ≤ 3), fun _ => ⟨by omega, ?_, hx⟩, fun _ => ⟨hn0, fun _ => rfl, fun q hq => absurd hq (Nat.not_lt_zero _)⟩, fun h => ?_, fun h => ?_⟩
    · rw [hnext_old (Nat.le_refl _)]; exact k.hn q hq
    · have : (1 : Nat) = 2 := h
      omega
    · have : (1 : Nat) = 3 := h
      omega
  · show SHk n _ _ (nput b p T q) q (v.wd q).t (nput v.h p _ q)
    rw [nput_other e, nput_other e]
    exact k'.hk q hq
/-- All the last words are read. -/
theorem SnOk.full {p tm : Nat} (hp : p < n) (ha : (v.h p).a = 2) (hm : SMid n H T (b p) tm (v.h p)) (hkn : (v.h p).k < n) :
    ∀ q, q < (v.h p).k + 1 → SGood n H T (b p) q (slast v p q) ∧ H tm q ≤ (slast v p q).t := by
  intro q hq
  have h0 := ((k.hk p hp).on (by omega)).1
  obtain ⟨h1, h2, h3, h4⟩ := hm
  by_cases e : q = (v.h p).k
  · rw [e]
    unfold slast
    rw [nput_same]
    refine ⟨k.read hkn h0, ?_⟩
    rw [← k.hn _ hkn]; exact k.mono hkn h2 (Nat.le_refl _)
  · unfold slast
    rw [nput_other e]
    exact h4 q (by omega)
/-- What who looks is told was there since it began. -/
theorem SnOk.told {p : Nat} (hp : p < n) {s : Nat → Nat} (hs : stold n v p = some s) : SWas n H T (b p) s := by
  unfold stold at hs
  split at hs
  · rename_i h
    obtain ⟨h1, h2, h3⟩ := h
    obtain ⟨hkn, tm, hm⟩ := (k.hk p hp).two h1
    have hl := k.full hp h1 hm hkn
    rw [h2] at hl
    exact k.see hm.1 hm.2.1 hm.2.2.1 hl hs
  · cases hs
/-- What a hand is thereafter, ahead of line 3. -/
theorem SnOk.one' {p : Nat} (hp : p < n) (h3 : (v.h p).a ≠ 3) (h0 : (v.h p).a ≠ 0) : SHk n H T (b p) p (v.wd p).t (sone n v p) := by
  have K := k.hk p hp
  have hon := K.on h0
  have hln := K.ln
  by_cases h1 : (v.h p).a = 1
  · obtain ⟨a1, a2, a3⟩ := K.one h1
    have hf : ∀ q, q < (v.h p).k + 1 → SGood n H T (b p) q (nput (v.h p).f (v.h p).k (v.wd (v.h p).k) q) := fun q hq => by
      by_cases e : q = (v.h p).k
      · rw [e, nput_same]; exact k.read a1 hon.1
      · rw [nput_other e]; exact a3 q (by omega)
    unfold sone
    rw [if_pos h1]
    by_cases hk : (v.h p).k + 1 = n
    · rw [if_pos hk]
      rw [hk] at hf
      refine ⟨(by omega : 2 ≤ 3), fun _ => hon, fun h => by have : (2 : Nat) = 1 := h; omega, fun _ => ⟨by show 0 < n; omega, T, hon.1, Nat.le_refl _, fun q hq => ?_, fun q hq => absurd hq (Nat.not_lt_zero _)⟩, fun h => by have : (2 : Nat) = 3 := h; omega⟩
      refine ⟨hf q hq, (hf q hq).2.1, ?_, ?_⟩
      · show (v.h p).mv q ≤ 1
        rw [a2 q]; exact Nat.zero_le _
      · show H (b p) q + (v.h p).mv q ≤ _
        rw [a2 q]; exact (hf q hq).2.2.1
    · rw [if_neg hk]
      exact ⟨(by omega : 1 ≤ 3), fun _ => hon, fun _ => ⟨by show (v.h p).k + 1 < n; omega, a2, hf⟩, fun h => by have : (1 : Nat) = 2 := h; omega, fun h => by have : (1 : Nat) = 3 := h; omega⟩
  · have h2 : (v.h p).a = 2 := by omega
    obtain ⟨hkn, tm, hm⟩ := K.two h2
    have hl := k.full hp h2 hm hkn
    unfold sone
    rw [if_neg h1, if_pos h2]
    by_cases hk : (v.h p).k + 1 = n
    · rw [if_pos hk]
      rw [hk] at hl
      cases e : ssee n (v.h p) (slast v p) with
      | some s =>
        have hw := k.see hm.1 hm.2.1 hm.2.2.1 hl e
        show SHk n H T (b p) p (v.wd p).t (if (v.h p).w then _ else _)
        cases ew : (v.h p).w with
        | true =>
          refine ⟨Nat.le_refl _, fun _ => ⟨hon.1, hon.2.1, fun _ => hon.2.2 ew⟩, fun h => by have : (3 : Nat) = 1 := h; omega, fun h => by have : (3 : Nat) = 2 := h; omega, fun _ => ⟨rfl, hw⟩⟩
        | false => exact SHk.none rfl
      | none =>
        obtain ⟨u1, _⟩ := SnOk.unseen hm.2.2.1 hl e
        refine ⟨(by omega : 2 ≤ 3), fun _ => hon, fun h => by have : (2 : Nat) = 1 := h; omega, fun _ => ⟨by show 0 < n; omega, T, hon.1, Nat.le_refl _, fun q hq => ?_, fun q hq => absurd hq (Nat.not_lt_zero _)⟩, fun h => by have : (2 : Nat) = 3 := h; omega⟩
        exact ⟨(hl q hq).1, (hl q hq).1.2.1, (u1 q hq).1, (u1 q hq).2⟩
    · rw [if_neg hk]
      exact ⟨(by omega : 2 ≤ 3), fun _ => hon, fun h => by have : (2 : Nat) = 1 := h; omega, fun _ => ⟨by show (v.h p).k + 1 < n; omega, tm, hm.1, hm.2.1, hm.2.2.1, hl⟩, fun h => by have : (2 : Nat) = 3 := h; omega⟩
/-- A hand that does something steps. -/
theorem SnOk.step {p : Nat} (hp : p < n) (h0 : (v.h p).a ≠ 0) : SnOk n (hnext H T fun q => ((sstep n v p).wd q).t) (T + 1) b (sstep n v p) := by
  by_cases h3 : (v.h p).a = 3
  · have K := k.hk p hp
    obtain ⟨o1, o2, o3⟩ := K.on h0
    obtain ⟨hw, t, w1, w2, w3⟩ := K.three h3
    have ex := o3 hw
    have ew : (sstep n v p).wd = nput v.wd p ⟨(v.h p).x, (v.wd p).t + 1, (v.h p).sw⟩ := if_pos h3
    have ep : (sstep n v p).wd p = ⟨(v.h p).x, (v.wd p).t + 1, (v.h p).sw⟩ := by rw [ew]; exact nput_same _ _ _
    have eo : ∀ q, q ≠ p → (sstep n v p).wd q = v.wd q := fun q h => by rw [ew]; exact nput_other h
    have hX : ∀ q, q < n → H T q ≤ ((sstep n v p).wd q).t := fun q hq => by
      by_cases e : q = p
      · rw [e, ep, k.hn p hp]; exact Nat.le_succ _
      · rw [eo q e, k.hn q hq]; exact Nat.le_refl _
    refine ⟨fun q hq => by rw [hnext_now], fun t q ht hq => ?_, fun q hq => ?_, fun q hq => ?_, fun q hq => ?_⟩
    · by_cases e : t = T
      · rw [e, hnext_now, hnext_old (Nat.le_refl _)]; exact hX q hq
      · rw [hnext_old (by omega), hnext_old (by omega)]; exact k.hm t q (by omega) hq
    · by_cases e : q = p
      · rw [e, ep]; exact ex
      · rw [eo q e]; exact k.vt q hq
    · by_cases e : q = p
      · rw [e, ep]
        refine ⟨t, by omega, ?_, fun r hr => by rw [hnext_old w2]; exact w3 r hr⟩
        rw [hnext_old w2]
        have := k.mono hp w1 w2
        show (v.wd p).t + 1 ≤ _
        omega
      · rw [eo q e]
        obtain ⟨t, h1, h2, h3⟩ := k.ws q hq
        exact ⟨t, by omega, by rw [hnext_old h1]; exact h2, fun r hr => by rw [hnext_old h1]; exact h3 r hr⟩
    · by_cases e : q = p
      · subst e
        refine SHk.none ?_
        show (nput v.h q (sone n v q) q).a = 0
        rw [nput_same]
        unfold sone
        rw [if_neg (by omega), if_neg (by omega)]
      · rw [eo q e]
        show SHk n _ _ (b q) q (v.wd q).t (nput v.h p _ q)
        rw [nput_other e]
        exact (k.hk q hq).later hX
  · have ew : (sstep n v p).wd = v.wd := if_neg h3
    have k' := k.skip
    rw [ew]
    refine ⟨fun q hq => by rw [ew]; exact k'.hn q hq, k'.hm, fun q hq => by rw [ew]; exact k'.vt q hq, fun q hq => by rw [ew]; exact k'.ws q hq, fun q hq => ?_⟩
    rw [ew]
    show SHk n _ _ (b q) q (v.wd q).t (nput v.h p _ q)
    by_cases e : q = p
    · subst e
      rw [nput_same]
      exact (k.one' hp h3 h0).later fun q hq => by rw [k.hn q hq]; exact Nat.le_refl _
    · rw [nput_other e]
      exact k'.hk q hq
end
end Go.Proofs.Ytoaakonfofjamaa
