/-
  What latchgarthlaw3.SnapRow keeps of a board: mathematics.
-/
import Derived.Test.YtoaakonfofjamaaSnapAsk
import Derived.Test.YtoaakonfofjamaaSnapMR
import Derived.Test.YtoaakonfofjamaaSnpStep
namespace Go.Proofs.Ytoaakonfofjamaa.Snap

/-- What the law's rows have in round k. -/
structure RS (n k : Nat) (s : SS) (H : Nat → Nat → Nat) (bt : Nat → Nat) (B Wt Sn : Nat → Int) (bl : Nat → Bool) (hd : Nat → Option (Nat → Nat)) (L : List (Nat → Nat)) (xF xT : List Int) : Prop where
  ok : SnOk n H k bt s
  b : ∀ p, p < n → B p = ((s.wd p).t : Int) + (if (s.h p).a ≠ 0 ∧ (s.h p).w = true then 1 else 0)
  wt : ∀ p, p < n → Wt p = ((s.wd p).t : Int)
  bl' : ∀ p, p < n → (s.h p).a ≠ 0 → bl p = (s.h p).w
  sn : ∀ p, p < n → (s.h p).a ≠ 0 → (s.h p).w = false → Sn p = (bt p : Int)
  hd' : ∀ p, p < n → (s.h p).a ≠ 0 → (s.h p).w = false → ∃ f, hd p = some f ∧ ∀ q, q < n → f q = H (bt p) q
  lf : xF.length = L.length
  lt : xT.length = L.length
  lk : ∀ (i : Nat) (f : Nat → Nat), L[i]? = some f → ∃ t a b : Nat, xF[i]? = some (a : Int) ∧ xT[i]? = some (b : Int) ∧ a ≤ t ∧ t ≤ b ∧ b < k ∧ ∀ q, q < n → f q = H t q
theorem RS.new (n : Nat) : RS n 0 ssnew (fun _ _ => 0) (fun _ => 0) (fun _ => 0) (fun _ => 0) (fun _ => 0) (fun _ => false) (fun _ => none) [] [] [] :=
  ⟨ssnew_ok n, fun p _ => rfl, fun p _ => rfl, fun p _ h => absurd rfl h, fun p _ h => absurd rfl h, fun p _ h => absurd rfl h, rfl, rfl, fun i f h => by simp at h⟩
section
variable {n k : Nat} {s : SS} {H : Nat → Nat → Nat} {bt : Nat → Nat} {B Wt Sn : Nat → Int} {bl : Nat → Bool} {hd : Nat → Option (Nat → Nat)} {L : List (Nat → Nat)} {xF xT : List Int} (r : RS n k s H bt B Wt Sn bl hd L xF xT)
include r
theorem RS.btle {p : Nat} (hp : p < n) (ha : (s.h p).a ≠ 0) : bt p ≤ k := ((r.ok.hk p hp).on ha).1
theorem RS.lknext (X : Nat → Nat) : ∀ (i : Nat) (f : Nat → Nat), L[i]? = some f → ∃ t a b : Nat, xF[i]? = some (a : Int) ∧ xT[i]? = some (b : Int) ∧ a ≤ t ∧ t ≤ b ∧ b < k + 1 ∧ ∀ q, q < n → f q = hnext H k X t q := fun i f h => by
  obtain ⟨t, a, b, h1, h2, h3, h4, h5, h6⟩ := r.lk i f h
  exact ⟨t, a, b, h1, h2, h3, h4, by omega, fun q hq => by rw [hnext_old (by omega)]; exact h6 q hq⟩
theorem RS.hdnext (X : Nat → Nat) {p : Nat} (hp : p < n) (ha : (s.h p).a ≠ 0) (hw : (s.h p).w = false) : ∃ f, hd p = some f ∧ ∀ q, q < n → f q = hnext H k X (bt p) q := by
  obtain ⟨f, h1, h2⟩ := r.hd' p hp ha hw
  exact ⟨f, h1, fun q hq => by rw [hnext_old (r.btle hp ha)]; exact h2 q hq⟩
/-- Nothing is done. -/
theorem RS.skip : RS n (k + 1) s (hnext H k fun q => (s.wd q).t) bt B Wt Sn bl hd L xF xT :=
  ⟨r.ok.skip, r.b, r.wt, r.bl', r.sn, fun _ hp ha hw => r.hdnext _ hp ha hw, r.lf, r.lt, r.lknext _⟩
/-- A hand begins to write. -/
theorem RS.write {p : Nat} (hp : p < n) (ha : (s.h p).a = 0) {x : Nat} (hx : (x : Int) = B p + 1) : RS n (k + 1) (sbeg s p true x) (hnext H k fun q => (s.wd q).t) (nput bt p k) (rput B p (B p + 1)) Wt Sn (rput bl p true) hd L xF xT := by
  have hbp := r.b p hp
  rw [if_neg (fun h => h.1 ha)] at hbp
  have he : ∀ q, q ≠ p → (sbeg s p true x).h q = s.h q := fun q h => nput_other h
  have hs : (sbeg s p true x).h p = sbeg1 (s.h p) true x := nput_same _ _ _
  refine ⟨r.ok.beg hp (fun _ => by omega) (by omega), fun q hq => ?_, r.wt, fun q hq h0 => ?_, fun q hq h0 hw => ?_, fun q hq h0 hw => ?_, r.lf, r.lt, r.lknext _⟩
  · by_cases e : q = p
    · subst e
      rw [hs, rput_same, hbp, if_pos ⟨(by show (1 : Nat) ≠ 0; omega), rfl⟩]
      show ((s.wd q).t : Int) + 0 + 1 = ((s.wd q).t : Int) + 1
      omega
    · rw [he q e, rput_other e]; exact r.b q hq
  · by_cases e : q = p
    · subst e; rw [hs, rput_same]; rfl
    · rw [he q e] at h0 ⊢; rw [rput_other e]; exact r.bl' q hq h0
  · by_cases e : q = p
    · subst e; rw [hs] at hw; cases hw
    · rw [he q e] at h0 hw; rw [nput_other e]; exact r.sn q hq h0 hw
  · by_cases e : q = p
    · subst e; rw [hs] at hw; cases hw
    · rw [he q e] at h0 hw; rw [nput_other e]; exact r.hdnext _ hq h0 hw
/-- A hand begins to look. -/
theorem RS.look {p : Nat} (hp : p < n) (ha : (s.h p).a = 0) : RS n (k + 1) (sbeg s p false 0) (hnext H k fun q => (s.wd q).t) (nput bt p k) B Wt (rput Sn p k) (rput bl p false) (rput hd p (some fun q => (s.wd q).t)) L xF xT := by
  have hbp := r.b p hp
  rw [if_neg (fun h => h.1 ha)] at hbp
  have he : ∀ q, q ≠ p → (sbeg s p false 0).h q = s.h q := fun q h => nput_other h
  have hs : (sbeg s p false 0).h p = sbeg1 (s.h p) false 0 := nput_same _ _ _
  refine ⟨r.ok.beg hp (fun h => by cases h) (by omega), fun q hq => ?_, r.wt, fun q hq h0 => ?_, fun q hq h0 hw => ?_, fun q hq h0 hw => ?_, r.lf, r.lt, r.lknext _⟩
  · by_cases e : q = p
    · subst e
      rw [hs, hbp, if_neg (fun h => by have := h.2; cases this)]
      rfl
    · rw [he q e]; exact r.b q hq
  · by_cases e : q = p
    · subst e; rw [hs, rput_same]; rfl
    · rw [he q e] at h0 ⊢; rw [rput_other e]; exact r.bl' q hq h0
  · by_cases e : q = p
    · subst e; rw [rput_same, nput_same]
    · rw [he q e] at h0 hw; rw [nput_other e, rput_other e]; exact r.sn q hq h0 hw
  · by_cases e : q = p
    · subst e
      refine ⟨_, rput_same _ _ _, fun r' hr => ?_⟩
      rw [nput_same, hnext_old (Nat.le_refl _)]
      exact (r.ok.hn r' hr).symm
    · rw [he q e] at h0 hw; rw [nput_other e, rput_other e]; exact r.hdnext _ hq h0 hw
omit r in
theorem sone_w {p : Nat} : (sone n s p).w = (s.h p).w := by
  unfold sone
  split
  · split <;> rfl
  · split
    · split
      · cases ssee n (s.h p) (slast s p) with
        | some f => show (if (s.h p).w then _ else _ : SB).w = _; cases (s.h p).w <;> rfl
        | none => rfl
      · rfl
    · rfl
/-- A hand steps: its word, if it has one more, is counted. -/
theorem RS.step {p : Nat} (hp : p < n) (ha : (s.h p).a ≠ 0) {Wt' : Nat → Int} (hW : ∀ q, q < n → Wt' q = (((sstep n s p).wd q).t : Int)) : RS n (k + 1) (sstep n s p) (hnext H k fun q => ((sstep n s p).wd q).t) bt B Wt' Sn bl hd L xF xT := by
  have he : ∀ q, q ≠ p → (sstep n s p).h q = s.h q := fun q h => nput_other h
  have hs : (sstep n s p).h p = sone n s p := nput_same _ _ _
  have hln := (r.ok.hk p hp).ln
  refine ⟨r.ok.step hp ha, fun q hq => ?_, hW, fun q hq h0 => ?_, fun q hq h0 hw => ?_, fun q hq h0 hw => ?_, r.lf, r.lt, r.lknext _⟩
  · by_cases e : q = p
    · subst e
      rw [hs, sone_w]
      have hb := r.b q hq
      by_cases h3 : (s.h q).a = 3
      · have hw := ((r.ok.hk q hq).three h3).1
        have e1 : ((sstep n s q).wd q).t = (s.wd q).t + 1 := by
          show (swd s q q).t = _
          unfold swd
          rw [if_pos h3, nput_same]
        have e2 : (sone n s q).a = 0 := by unfold sone; rw [if_neg (by omega), if_neg (by omega)]
        rw [hb, if_pos ⟨ha, hw⟩, e1, if_neg (fun h => h.1 e2)]
        omega
      · have e1 : (sstep n s q).wd = s.wd := if_neg h3
        rw [e1, hb]
        by_cases hw : (s.h q).w = true
        · have e2 : (sone n s q).a ≠ 0 := by
            unfold sone
            by_cases h1 : (s.h q).a = 1
            · rw [if_pos h1]; split
              · exact (by omega : (2 : Nat) ≠ 0)
              · exact (by omega : (1 : Nat) ≠ 0)
            · rw [if_neg h1, if_pos (by omega)]
              split
              · cases ssee n (s.h q) (slast s q) with
                | some f => exact (by omega : (3 : Nat) ≠ 0)
                | none => exact (by omega : (2 : Nat) ≠ 0)
              · exact (by omega : (2 : Nat) ≠ 0)
          rw [if_pos ⟨ha, hw⟩, if_pos ⟨e2, hw⟩]
        · rw [if_neg (fun h => hw h.2), if_neg (fun h => hw h.2)]
    · have e1 : (sstep n s p).wd q = s.wd q := by
        show swd s p q = _
        unfold swd
        split
        · exact nput_other e
        · rfl
      rw [he q e, e1]; exact r.b q hq
  · by_cases e : q = p
    · subst e; rw [hs, sone_w]; exact r.bl' q hq ha
    · rw [he q e] at h0 ⊢; exact r.bl' q hq h0
  · by_cases e : q = p
    · subst e; rw [hs, sone_w] at hw; exact r.sn q hq ha hw
    · rw [he q e] at h0 hw; exact r.sn q hq h0 hw
  · by_cases e : q = p
    · subst e; rw [hs, sone_w] at hw; exact r.hdnext _ hq ha hw
    · rw [he q e] at h0 hw; exact r.hdnext _ hq h0 hw
theorem RS.same {p : Nat} (h3 : (s.h p).a ≠ 3) : ∀ q, q < n → Wt q = (((sstep n s p).wd q).t : Int) := fun q hq => by
  rw [show (sstep n s p).wd = s.wd from if_neg h3]; exact r.wt q hq
theorem RS.more {p : Nat} (h3 : (s.h p).a = 3) : ∀ q, q < n → rput Wt p (Wt p + 1) q = (((sstep n s p).wd q).t : Int) := fun q hq => by
  show _ = ((swd s p q).t : Int)
  unfold swd
  rw [if_pos h3]
  by_cases e : q = p
  · subst e; rw [rput_same, nput_same, r.wt q hq]; rfl
  · rw [rput_other e, nput_other e]; exact r.wt q hq
/-- Who is done, and wrote. -/
theorem RS.wrote {p : Nat} (hp : p < n) (ha : (s.h p).a ≠ 0) (hw : (s.h p).w = true) (hd : (sone n s p).a = 0) : (s.h p).a = 3 := by
  have hln := (r.ok.hk p hp).ln
  apply Decidable.of_not_not
  intro h3
  apply absurd hd
  unfold sone
  by_cases h1 : (s.h p).a = 1
  · rw [if_pos h1]; split
    · exact (by omega : (2 : Nat) ≠ 0)
    · exact (by omega : (1 : Nat) ≠ 0)
  · rw [if_neg h1, if_pos (by omega)]
    split
    · cases ssee n (s.h p) (slast s p) with
      | some f => exact (by omega : (3 : Nat) ≠ 0)
      | none => exact (by omega : (2 : Nat) ≠ 0)
    · exact (by omega : (2 : Nat) ≠ 0)
omit r in
/-- Who is not done is not at line 3. -/
theorem not3 {p : Nat} (hd : (sone n s p).a ≠ 0) : (s.h p).a ≠ 3 := fun h3 => hd (by unfold sone; rw [if_neg (by omega), if_neg (by omega)])
/-- Who is done, and looked: what it is told. -/
theorem RS.looked {p : Nat} (hp : p < n) (ha : (s.h p).a ≠ 0) (hw : (s.h p).w = false) (hd0 : (sone n s p).a = 0) :
    ∃ f, stold n s p = some f ∧ (∃ g, hd p = some g ∧ ∀ q, q < n → g q ≤ f q ∧ (f q : Int) ≤ B q) ∧ ∃ t, bt p ≤ t ∧ t ≤ k ∧ ∀ q, q < n → f q = H t q := by
  have hln := (r.ok.hk p hp).ln
  have h3 : (s.h p).a ≠ 3 := fun h3 => by have := ((r.ok.hk p hp).three h3).1; rw [hw] at this; cases this
  have h2 : (s.h p).a = 2 ∧ (s.h p).k + 1 = n ∧ ∃ f, ssee n (s.h p) (slast s p) = some f := by
    unfold sone at hd0
    by_cases h1 : (s.h p).a = 1
    · rw [if_pos h1] at hd0
      split at hd0
      · exact absurd hd0 (by show (2 : Nat) ≠ 0; omega)
      · exact absurd hd0 (by show (1 : Nat) ≠ 0; omega)
    · have h2 : (s.h p).a = 2 := by omega
      rw [if_neg h1, if_pos h2] at hd0
      by_cases hk : (s.h p).k + 1 = n
      · rw [if_pos hk] at hd0
        cases e : ssee n (s.h p) (slast s p) with
        | some f => exact ⟨h2, hk, f, rfl⟩
        | none => rw [e] at hd0; exact absurd hd0 (by show (2 : Nat) ≠ 0; omega)
      · rw [if_neg hk] at hd0; exact absurd hd0 (by show (2 : Nat) ≠ 0; omega)
  obtain ⟨h2, hk, f, hf⟩ := h2
  have ht : stold n s p = some f := by unfold stold; rw [if_pos ⟨h2, hk, hw⟩]; exact hf
  obtain ⟨t, t1, t2, t3⟩ := r.ok.told hp ht
  obtain ⟨g, g1, g2⟩ := r.hd' p hp ha hw
  refine ⟨f, ht, ⟨g, g1, fun q hq => ⟨?_, ?_⟩⟩, t, t1, t2, t3⟩
  · rw [g2 q hq, t3 q hq]; exact r.ok.mono hq t1 t2
  · have h5 := r.ok.mono hq t2 (Nat.le_refl _)
    rw [r.ok.hn q hq] at h5
    rw [t3 q hq, r.b q hq]
    split <;> omega
/-- One look more. -/
theorem RS.add {f : Nat → Nat} {a b t : Nat} (hb : b < k) (h1 : a ≤ t) (h2 : t ≤ b) (hf : ∀ q, q < n → f q = H t q) : RS n k s H bt B Wt Sn bl hd (L ++ [f]) (xF ++ [(a : Int)]) (xT ++ [(b : Int)]) := by
  refine ⟨r.ok, r.b, r.wt, r.bl', r.sn, r.hd', by simp [r.lf], by simp [r.lt], fun i f' h => ?_⟩
  by_cases e : i < L.length
  · rw [List.getElem?_append_left e] at h
    obtain ⟨t, a, b, c1, c2, c3⟩ := r.lk i f' h
    have e1 : i < xF.length := by rw [r.lf]; exact e
    have e2 : i < xT.length := by rw [r.lt]; exact e
    exact ⟨t, a, b, by rw [List.getElem?_append_left e1]; exact c1, by rw [List.getElem?_append_left e2]; exact c2, c3⟩
  · have hi : i = L.length := by
      have := (List.getElem?_eq_some_iff.1 h).1
      simp at this
      omega
    subst hi
    rw [List.getElem?_append_right (Nat.le_refl _), Nat.sub_self] at h
    cases h
    refine ⟨t, a, b, ?_, ?_, h1, h2, hb, hf⟩
    · rw [← r.lf, List.getElem?_append_right (Nat.le_refl _), Nat.sub_self]; rfl
    · rw [← r.lt, List.getElem?_append_right (Nat.le_refl _), Nat.sub_self]; rfl
/-- Two looks. -/
theorem RS.two {i j : Nat} {f g : Nat → Nat} (hf : L[i]? = some f) (hg : L[j]? = some g) {a b : Int} (hb : xT[i]? = some b) (ha : xF[j]? = some a) :
    ¬ ((∃ q, q < n ∧ f q < g q) ∧ ∃ q, q < n ∧ g q < f q) ∧ ¬ (b < a ∧ ∃ q, q < n ∧ g q < f q) := by
  obtain ⟨t, a1, b1, x1, x2, x3, x4, x5, x6⟩ := r.lk i f hf
  obtain ⟨u, a2, b2, y1, y2, y3, y4, y5, y6⟩ := r.lk j g hg
  rw [hb] at x2
  rw [ha] at y1
  have x2 := Option.some.inj x2
  have y1 := Option.some.inj y1
  have mono : ∀ q, q < n → ∀ t u, t ≤ u → u ≤ k → H t q ≤ H u q := fun q hq t u h1 h2 => r.ok.mono hq h1 h2
  refine ⟨?_, ?_⟩
  · rintro ⟨⟨q, q1, q2⟩, q', q3, q4⟩
    rw [x6 q q1, y6 q q1] at q2
    rw [x6 q' q3, y6 q' q3] at q4
    rcases Nat.lt_or_ge t u with h | h
    · have := mono q' q3 t u (by omega) (by omega); omega
    · have := mono q q1 u t h (by omega); omega
  · rintro ⟨h, q, q1, q2⟩
    rw [x6 q q1, y6 q q1] at q2
    have := mono q q1 t u (by omega) (by omega)
    omega
end
end Go.Proofs.Ytoaakonfofjamaa.Snap
