/-
  Chapter 10 as plain mathematics: each looks at the one ahead. It imports nothing of the translation.
-/
namespace Go.Proofs.Ytobfaohcadmopaa

def cup {α : Type} (f : Nat → α) (i : Nat) (x : α) : Nat → α := fun j => if j = i then x else f j
theorem cup_same {α : Type} (f : Nat → α) (i : Nat) (x : α) : cup f i x i = x := by simp [cup]
theorem cup_other {α : Type} {f : Nat → α} {i j : Nat} {x : α} (h : j ≠ i) : cup f i x j = f j := by simp [cup, h]
theorem cup_id {α : Type} (f : Nat → α) (p : Nat) : cup f p (f p) = f := by
  funext q; unfold cup; split
  · rename_i e; rw [e]
  · rfl
/-- The sum of the first so many. -/
def csum (B : Nat → Nat) : Nat → Nat
  | 0 => 0
  | k + 1 => csum B k + B k
theorem csum_same {B B' : Nat → Nat} {k : Nat} (h : ∀ i, i < k → B' i = B i) : csum B' k = csum B k := by
  induction k with
  | zero => rfl
  | succ k ih => unfold csum; rw [ih fun i hi => h i (by omega), h k (by omega)]
theorem csum_up {B : Nat → Nat} {k x y : Nat} (hx : x < k) : csum (cup B x y) k + B x = csum B k + y := by
  induction k with
  | zero => omega
  | succ k ih =>
    unfold csum
    by_cases e : x = k
    · subst e
      have h1 : csum (cup B x y) x = csum B x := csum_same fun i hi => cup_other (show i ≠ x by omega)
      rw [cup_same, h1]
      omega
    · rw [cup_other (fun e2 => e e2.symm)]
      have := ih (by omega)
      omega

/-- Of each hand its line, its m and its a; what is at the places; T. -/
structure CS where
  a : Nat → Nat
  m : Nat → Nat
  r : Nat → Nat
  B : Nat → Nat
  T : Nat
def cnew (n : Nat) : CS := ⟨fun _ => 1, fun p => p, fun _ => 0, fun _ => 0, n⟩
def cstep (s : CS) (p : Nat) : CS :=
  if s.a p = 1 then { s with B := cup s.B (s.m p) 1, a := cup s.a p 2 }
  else if s.a p = 2 then { s with r := cup s.r p s.T, T := s.m p, a := cup s.a p 3 }
  else if s.a p = 3 then (if s.B (s.r p) = 0 then { s with a := cup s.a p 4 } else s)
  else if s.a p = 4 then { s with a := cup s.a p 5 }
  else { s with B := cup s.B (s.m p) 0, m := cup s.m p (s.r p), a := cup s.a p 1 }
/-- Whether a hand's place is busy. -/
def bz (x : Nat) : Nat := if x = 1 then 0 else 1
theorem bz_one : bz 1 = 0 := rfl
theorem bz_more {x : Nat} (h : x ≠ 1) : bz x = 1 := if_neg h
def cbusy (s : CS) (p : Nat) : Nat := bz (s.a p)
/-- Those at lines 3 to 5 stand at the places h to e - 1 of a row; f is the place that nobody has. -/
structure COk (n : Nat) (s : CS) (q : Nat → Nat) (h e f : Nat) : Prop where
  he : h ≤ e
  low : ∀ i, h ≤ i → i < e → q i < n
  inj : ∀ i j, h ≤ i → i < e → h ≤ j → j < e → q i = q j → i = j
  mem : ∀ p, p < n → 3 ≤ s.a p → ∃ i, h ≤ i ∧ i < e ∧ q i = p
  ins : ∀ i, h ≤ i → i < e → 3 ≤ s.a (q i)
  rng : ∀ p, p < n → 1 ≤ s.a p ∧ s.a p ≤ 5
  md : ∀ p x, p < n → x < n → s.m p = s.m x → p = x
  ml : ∀ p, p < n → s.m p ≤ n
  fl : f ≤ n
  fm : ∀ p, p < n → s.m p ≠ f
  bf : s.B f = 0
  bm : ∀ p, p < n → s.B (s.m p) = cbusy s p
  tl : h = e ∧ s.T = f ∨ h < e ∧ s.T = s.m (q (e - 1))
  hd : h < e → s.r (q h) = f
  nx : ∀ i, h < i → i < e → s.r (q i) = s.m (q (i - 1)) ∧ s.a (q i) = 3
  cnt : csum s.B (n + 1) = csum (cbusy s) n
theorem cnew_ok (n : Nat) : COk n (cnew n) (fun _ => 0) 0 0 n := by
  refine ⟨Nat.le_refl _, fun i _ h => by omega, fun i j _ h => by omega, fun p _ h => by simp [cnew] at h, fun i _ h => by omega, fun p _ => by simp [cnew], fun p x _ _ h => h, fun p hp => ?_, Nat.le_refl _, fun p hp h => ?_, rfl, fun p _ => rfl, Or.inl ⟨rfl, rfl⟩, fun h => by omega, fun i _ h => by omega, ?_⟩
  · show p ≤ n; omega
  · have : p = n := h
    omega
  · have h0 : ∀ k, csum (fun _ => 0) k = 0 := fun k => by
      induction k with
      | zero => rfl
      | succ k ih => unfold csum; rw [ih]
    exact (h0 _).trans (h0 n).symm
section
variable {n : Nat} {s : CS} {q : Nat → Nat} {h e f : Nat}
theorem COk.place (k : COk n s q h e f) {p : Nat} (hp : p < n) (ha : 4 ≤ s.a p) : h < e ∧ q h = p := by
  obtain ⟨i, g1, g2, g3⟩ := k.mem p hp (by omega)
  rcases Nat.lt_or_ge h i with h4 | h4
  · have := (k.nx i h4 g2).2; rw [g3] at this; omega
  · have : i = h := by omega
    subst this; exact ⟨g2, g3⟩
/-- One at line 3 or more has another line, of those. -/
theorem COk.local_ (k : COk n s q h e f) {p : Nat} (ha : 3 ≤ s.a p) (hq : q h = p ∧ h < e) (x : Nat) (hx : 3 ≤ x ∧ x ≤ 5) : COk n { s with a := cup s.a p x } q h e f := by
  have hb : ∀ r, cbusy { s with a := cup s.a p x } r = cbusy s r := fun r => by
    show bz (cup s.a p x r) = bz (s.a r)
    by_cases e2 : r = p
    · rw [e2, cup_same, bz_more (by omega), bz_more (by omega)]
    · rw [cup_other e2]
  refine ⟨k.he, k.low, k.inj, fun r hr h3 => ?_, fun i g1 g2 => ?_, fun r hr => ?_, k.md, k.ml, k.fl, k.fm, k.bf, fun r hr => ?_, k.tl, k.hd, fun i g1 g2 => ?_, ?_⟩
  · by_cases e2 : r = p
    · exact k.mem r hr (by rw [e2]; exact ha)
    · dsimp only at h3; rw [cup_other e2] at h3; exact k.mem r hr h3
  · dsimp only
    by_cases e2 : q i = p
    · rw [e2, cup_same]; omega
    · rw [cup_other e2]; exact k.ins i g1 g2
  · dsimp only
    by_cases e2 : r = p
    · rw [e2, cup_same]; omega
    · rw [cup_other e2]; exact k.rng r hr
  · rw [hb]; exact k.bm r hr
  · dsimp only
    rw [cup_other (fun e2 => by have := k.inj i h (by omega) g2 (Nat.le_refl _) hq.2 (e2.trans hq.1.symm); omega)]
    exact k.nx i g1 g2
  · rw [csum_same fun i _ => hb i]; exact k.cnt
/-- What stands in line, and which place is free, when hand p has done its line. -/
def cgq (s : CS) (p : Nat) (q : Nat → Nat) (e : Nat) : Nat → Nat := if s.a p = 2 then cup q e p else q
def cge (s : CS) (p e : Nat) : Nat := if s.a p = 2 then e + 1 else e
def cgh (s : CS) (p h : Nat) : Nat := if s.a p = 5 then h + 1 else h
def cgf (s : CS) (p f : Nat) : Nat := if s.a p = 5 then s.m p else f
theorem COk.step (k : COk n s q h e f) {p : Nat} (hp : p < n) : COk n (cstep s p) (cgq s p q e) (cgh s p h) (cge s p e) (cgf s p f) := by
  have hr := k.rng p hp
  unfold cstep cgq cge cgh cgf
  by_cases a1 : s.a p = 1
  · rw [if_pos a1, if_neg (by omega), if_neg (by omega), if_neg (by omega), if_neg (by omega)]
    have hno : ∀ i, h ≤ i → i < e → q i ≠ p := fun i g1 g2 g3 => by have := k.ins i g1 g2; rw [g3] at this; omega
    have hb : cbusy { s with B := cup s.B (s.m p) 1, a := cup s.a p 2 } = cup (cbusy s) p 1 := by
      funext r
      show bz (cup s.a p 2 r) = cup (cbusy s) p 1 r
      by_cases e2 : r = p
      · rw [e2, cup_same, cup_same]; rfl
      · rw [cup_other e2, cup_other e2]; rfl
    have hb0 : cbusy s p = 0 := by unfold cbusy; rw [a1]; rfl
    refine ⟨k.he, k.low, k.inj, fun r hr h3 => ?_, fun i g1 g2 => ?_, fun r hr => ?_, k.md, k.ml, k.fl, k.fm, ?_, fun r hr => ?_, k.tl, k.hd, fun i g1 g2 => ?_, ?_⟩
    · dsimp only at h3
      by_cases e2 : r = p
      · rw [e2, cup_same] at h3; omega
      · rw [cup_other e2] at h3; exact k.mem r hr h3
    · dsimp only; rw [cup_other (hno i g1 g2)]; exact k.ins i g1 g2
    · dsimp only
      by_cases e2 : r = p
      · rw [e2, cup_same]; omega
      · rw [cup_other e2]; exact k.rng r hr
    · dsimp only; rw [cup_other (fun e2 => k.fm p hp e2.symm)]; exact k.bf
    · rw [hb]; dsimp only
      by_cases e2 : r = p
      · rw [e2, cup_same, cup_same]
      · rw [cup_other e2, cup_other (fun e3 => e2 (k.md r p hr hp e3))]; exact k.bm r hr
    · dsimp only; rw [cup_other (hno i (by omega) g2)]; exact k.nx i g1 g2
    · rw [hb]; dsimp only
      have h1 := csum_up (B := s.B) (y := 1) (show s.m p < n + 1 by have := k.ml p hp; omega)
      have h2 := csum_up (B := cbusy s) (y := 1) hp
      have h3 := k.bm p hp
      have := k.cnt
      omega
  rw [if_neg a1]
  by_cases a2 : s.a p = 2
  · rw [if_pos a2, if_pos a2, if_neg (by omega), if_pos a2, if_neg (by omega)]
    have hno : ∀ i, h ≤ i → i < e → q i ≠ p := fun i g1 g2 g3 => by have := k.ins i g1 g2; rw [g3] at this; omega
    have hq : ∀ i, i < e → cup q e p i = q i := fun i g => cup_other (by omega)
    have hqe : cup q e p e = p := cup_same _ _ _
    have hb : ∀ r, cbusy { s with r := cup s.r p s.T, T := s.m p, a := cup s.a p 3 } r = cbusy s r := fun r => by
      show bz (cup s.a p 3 r) = bz (s.a r)
      by_cases e2 : r = p
      · rw [e2, cup_same, bz_more (by omega), bz_more (by omega)]
      · rw [cup_other e2]
    have htl := k.tl
    have hhe := k.he
    refine ⟨by omega, fun i g1 g2 => ?_, fun i j g1 g2 g3 g4 g5 => ?_, fun r hr h3 => ?_, fun i g1 g2 => ?_, fun r hr => ?_, k.md, k.ml, k.fl, k.fm, k.bf, fun r hr => ?_, Or.inr ⟨by omega, ?_⟩, fun g => ?_, fun i g1 g2 => ?_, ?_⟩
    · by_cases e2 : i = e
      · rw [e2, hqe]; exact hp
      · rw [hq i (by omega)]; exact k.low i g1 (by omega)
    · by_cases e2 : i = e
      · by_cases e3 : j = e
        · omega
        · rw [e2, hqe, hq j (by omega)] at g5; exact absurd g5.symm (hno j g3 (by omega))
      · by_cases e3 : j = e
        · rw [e3, hqe, hq i (by omega)] at g5; exact absurd g5 (hno i g1 (by omega))
        · rw [hq i (by omega), hq j (by omega)] at g5; exact k.inj i j g1 (by omega) g3 (by omega) g5
    · dsimp only at h3
      by_cases e2 : r = p
      · exact ⟨e, hhe, by omega, by rw [hqe, e2]⟩
      · rw [cup_other e2] at h3
        obtain ⟨i, g1, g2, g3⟩ := k.mem r hr h3
        exact ⟨i, g1, by omega, by rw [hq i g2]; exact g3⟩
    · dsimp only
      by_cases e2 : i = e
      · rw [e2, hqe, cup_same]; omega
      · rw [hq i (by omega), cup_other (hno i g1 (by omega))]; exact k.ins i g1 (by omega)
    · dsimp only
      by_cases e2 : r = p
      · rw [e2, cup_same]; omega
      · rw [cup_other e2]; exact k.rng r hr
    · rw [hb]; exact k.bm r hr
    · dsimp only; rw [show e + 1 - 1 = e by omega, hqe]
    · dsimp only
      by_cases e2 : h = e
      · rw [e2, hqe, cup_same]; omega
      · rw [hq h (by omega), cup_other (hno h (Nat.le_refl _) (by omega))]; exact k.hd (by omega)
    · dsimp only
      by_cases e2 : i = e
      · rw [e2, hqe, cup_same, cup_same, hq (e - 1) (by omega)]
        exact ⟨by omega, rfl⟩
      · rw [hq i (by omega), hq (i - 1) (by omega), cup_other (hno i (by omega) (by omega)), cup_other (hno i (by omega) (by omega))]
        exact k.nx i g1 (by omega)
    · rw [csum_same fun i _ => hb i]; exact k.cnt
  rw [if_neg a2, if_neg a2, if_neg a2]
  obtain ⟨i, g1, g2, g3⟩ := k.mem p hp (by omega)
  by_cases a3 : s.a p = 3
  · rw [if_pos a3, if_neg (show ¬ s.a p = 5 by omega), if_neg (show ¬ s.a p = 5 by omega)]
    split
    · rename_i hw
      have hi : i = h := by
        rcases Nat.lt_or_ge h i with hi | hi
        · have h1 := (k.nx i hi g2).1
          rw [g3] at h1
          have h2 := k.low (i - 1) (by omega) (by omega)
          have h3 := k.bm _ h2
          have h4 := k.ins (i - 1) (by omega) (by omega)
          rw [← h1, hw] at h3
          unfold cbusy at h3
          rw [bz_more (by omega)] at h3
          omega
        · omega
      subst hi
      exact k.local_ (by omega) ⟨g3, g2⟩ 4 (by omega)
    · exact k
  rw [if_neg a3]
  have hp4 := k.place hp (by omega)
  by_cases a4 : s.a p = 4
  · rw [if_pos a4, if_neg (show ¬ s.a p = 5 by omega), if_neg (show ¬ s.a p = 5 by omega)]
    exact k.local_ (by omega) ⟨hp4.2, hp4.1⟩ 5 (by omega)
  rw [if_neg a4, if_pos (show s.a p = 5 by omega), if_pos (show s.a p = 5 by omega)]
  have hlt := hp4.1
  have hrf : s.r p = f := by have := k.hd hlt; rwa [hp4.2] at this
  rw [hrf]
  have ne : ∀ j, h < j → j < e → q j ≠ p := fun j f1 f2 f4 => by
    have := k.inj j h (by omega) f2 (Nat.le_refl _) hlt (f4.trans hp4.2.symm)
    omega
  have hb : cbusy { s with B := cup s.B (s.m p) 0, m := cup s.m p f, a := cup s.a p 1 } = cup (cbusy s) p 0 := by
    funext r
    show bz (cup s.a p 1 r) = cup (cbusy s) p 0 r
    by_cases e2 : r = p
    · rw [e2, cup_same, cup_same]; rfl
    · rw [cup_other e2, cup_other e2]; rfl
  have hb1 : cbusy s p = 1 := bz_more a1
  refine ⟨hlt, fun i f1 f2 => k.low i (by omega) f2, fun i j f1 f2 f3 f4 f5 => k.inj i j (by omega) f2 (by omega) f4 f5, fun r hr h3 => ?_, fun i f1 f2 => ?_, fun r hr => ?_, fun r x hr hx h3 => ?_, fun r hr => ?_, k.ml p hp, fun r hr => ?_, ?_, fun r hr => ?_, ?_, fun g => ?_, fun i f1 f2 => ?_, ?_⟩
  · dsimp only at h3
    by_cases e2 : r = p
    · rw [e2, cup_same] at h3; omega
    · rw [cup_other e2] at h3
      obtain ⟨j, f1, f2, f3⟩ := k.mem r hr h3
      refine ⟨j, ?_, f2, f3⟩
      rcases Nat.lt_or_ge h j with h4 | h4
      · exact h4
      · have : j = h := by omega
        subst this; exact absurd (f3.symm.trans hp4.2) e2
  · dsimp only; rw [cup_other (ne i f1 f2)]; exact k.ins i (by omega) f2
  · dsimp only
    by_cases e2 : r = p
    · rw [e2, cup_same]; omega
    · rw [cup_other e2]; exact k.rng r hr
  · dsimp only at h3
    by_cases e2 : r = p
    · by_cases e3 : x = p
      · rw [e2, e3]
      · rw [e2, cup_same, cup_other e3] at h3; exact absurd h3.symm (k.fm x hx)
    · by_cases e3 : x = p
      · rw [e3, cup_same, cup_other e2] at h3; exact absurd h3 (k.fm r hr)
      · rw [cup_other e2, cup_other e3] at h3; exact k.md r x hr hx h3
  · dsimp only
    by_cases e2 : r = p
    · rw [e2, cup_same]; exact k.fl
    · rw [cup_other e2]; exact k.ml r hr
  · dsimp only
    by_cases e2 : r = p
    · rw [e2, cup_same]; exact fun e3 => k.fm p hp e3.symm
    · rw [cup_other e2]; exact fun e3 => e2 (k.md r p hr hp e3)
  · dsimp only; exact cup_same _ _ _
  · rw [hb]; dsimp only
    by_cases e2 : r = p
    · rw [e2, cup_same, cup_same, cup_other (fun e3 => k.fm p hp e3.symm)]; exact k.bf
    · rw [cup_other e2, cup_other e2, cup_other (fun e3 => e2 (k.md r p hr hp e3))]; exact k.bm r hr
  · dsimp only
    have htl := k.tl
    by_cases e2 : h + 1 = e
    · refine Or.inl ⟨e2, ?_⟩
      rcases htl with h1 | h1
      · omega
      · rw [h1.2, show e - 1 = h by omega, hp4.2]
    · refine Or.inr ⟨by omega, ?_⟩
      rw [cup_other (ne (e - 1) (by omega) (by omega))]
      omega
  · dsimp only
    have := (k.nx (h + 1) (by omega) g).1
    rw [show h + 1 - 1 = h by omega, hp4.2] at this
    exact this
  · dsimp only
    rw [cup_other (ne i (by omega) f2), cup_other (ne (i - 1) (by omega) (by omega))]
    exact k.nx i (by omega) f2
  · rw [hb]; dsimp only
    have h1 := csum_up (B := s.B) (y := 0) (show s.m p < n + 1 by have := k.ml p hp; omega)
    have h2 := csum_up (B := cbusy s) (y := 0) hp
    have h3 := k.bm p hp
    have := k.cnt
    omega
/-- One hand is in. -/
theorem COk.alone (k : COk n s q h e f) {p x : Nat} (hp : p < n) (hx : x < n) (ap : 4 ≤ s.a p) (ax : 4 ≤ s.a x) : p = x := (k.place hp ap).2.symm.trans (k.place hx ax).2
/-- The tail is a place. -/
theorem COk.tail (k : COk n s q h e f) : s.T ≤ n := by
  rcases k.tl with ⟨_, h2⟩ | ⟨h1, h2⟩
  · rw [h2]; exact k.fl
  · rw [h2]; exact k.ml _ (k.low (e - 1) (by omega) (by omega))
/-- All places that a hand reads or writes are places. -/
theorem COk.rl (k : COk n s q h e f) {p : Nat} (hp : p < n) (ha : 3 ≤ s.a p) : s.r p ≤ n := by
  obtain ⟨i, g1, g2, g3⟩ := k.mem p hp ha
  rcases Nat.lt_or_ge h i with hi | hi
  · have h1 := (k.nx i hi g2).1
    rw [g3] at h1
    rw [h1]; exact k.ml _ (k.low (i - 1) (by omega) (by omega))
  · have : i = h := by omega
    subst this
    have h1 := k.hd g2
    rw [g3] at h1
    rw [h1]; exact k.fl
end
end Go.Proofs.Ytobfaohcadmopaa
