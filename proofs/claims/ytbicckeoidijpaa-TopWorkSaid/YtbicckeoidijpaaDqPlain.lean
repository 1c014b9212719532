/-
  Chapter 18 as plain mathematics, with any values: what the document's machine has, line by line. It imports nothing of the translation.
-/
import Derived.Test.YtbicckeoidijpaaDqStep
namespace Go.Proofs.Ytbicckeoidijpaa
/-- Of each hand its line, t, b, v; Top, Bottom, the places. -/
structure DV where
  a : Nat → Nat
  t : Nat → Nat
  b : Nat → Int
  v : Nat → Int
  T : Nat
  B : Int
  pl : Nat → Int
def dvnew : DV := ⟨fun _ => 0, fun _ => 0, fun _ => 0, fun _ => 0, 0, 0, fun _ => 0⟩
/-- A hand begins at a line, with a value. -/
def dvbeg (s : DV) (p l : Nat) (x : Int) : DV := { s with a := dput s.a p l, v := dput s.v p x }
def dvto (s : DV) (p l : Nat) : DV := { s with a := dput s.a p l }
/-- A hand does its line. -/
def dvstp (s : DV) (p : Nat) : DV :=
  if s.a p = 1 then dvto s p (if (s.T : Int) + 8 ≤ s.B then 0 else 2)
  else if s.a p = 2 then dvto { s with pl := dput s.pl (s.B.toNat % 8) (s.v p) } p 3
  else if s.a p = 3 then dvto { s with B := s.B + 1 } p 0
  else if s.a p = 4 then dvto { s with B := s.B - 1, b := dput s.b p (s.B - 1) } p 5
  else if s.a p = 5 then dvto { s with t := dput s.t p s.T } p (if (s.T : Int) < s.b p then 0 else if s.b p = s.T then 7 else 6)
  else if s.a p = 6 then dvto { s with B := s.t p } p 0
  else if s.a p = 7 then (if s.T = s.t p then dvto { s with T := s.t p + 1, v := dput s.v p (s.pl ((s.b p).toNat % 8)) } p 8 else dvto { s with v := dput s.v p (-1) } p 8)
  else if s.a p = 8 then dvto { s with B := s.t p + 1 } p 0
  else if s.a p = 9 then dvto { s with t := dput s.t p s.T } p 10
  else if s.a p = 10 then dvto s p (if s.B ≤ s.t p then 0 else 11)
  else if s.a p = 11 then dvto { s with v := dput s.v p (s.pl (s.t p % 8)) } p 12
  else (if s.T = s.t p then dvto { s with T := s.t p + 1 } p 0 else dvto s p 0)
/-- Whether that is the last line; what it tells. -/
def dvfin (s : DV) (p : Nat) : Bool :=
  if s.a p = 1 then decide ((s.T : Int) + 8 ≤ s.B) else if s.a p = 3 then true else if s.a p = 5 then decide ((s.T : Int) < s.b p) else if s.a p = 6 then true else if s.a p = 8 then true
  else if s.a p = 10 then decide (s.B ≤ s.t p) else if s.a p = 12 then true else false
def dvtold (s : DV) (p : Nat) : Int :=
  if s.a p = 1 then (if (s.T : Int) + 8 ≤ s.B then -2 else 0) else if s.a p = 3 then -1 else if s.a p = 5 then (if (s.T : Int) < s.b p then s.pl ((s.b p).toNat % 8) else 0) else if s.a p = 6 then -1 else if s.a p = 8 then s.v p
  else if s.a p = 10 then (if s.B ≤ s.t p then -1 else 0) else if s.a p = 12 then (if s.T = s.t p then s.v p else -2) else 0
/-- Bottom, one more at lines 5 to 8. -/
def dvE (s : DV) : Int := if 5 ≤ s.a 0 then s.B + 1 else s.B
/-- What is always so. -/
structure DVOk (s : DV) : Prop where
  ln : s.a 0 ≤ 8
  te : (s.T : Int) ≤ dvE s
  e8 : dvE s ≤ (s.T : Int) + 8
  room : s.a 0 = 2 ∨ s.a 0 = 3 → s.B < (s.T : Int) + 8
  five : s.a 0 = 5 ∨ s.a 0 = 7 → s.b 0 = s.B
  six : s.a 0 = 6 → (s.t 0 : Int) = s.B + 1 ∧ (s.T : Int) = s.B + 1
  seven : s.a 0 = 7 → (s.t 0 : Int) = s.B ∧ s.t 0 ≤ s.T
  eight : s.a 0 = 8 → (s.t 0 : Int) = s.B ∧ (s.T : Int) = s.B + 1
  th : ∀ p, 1 ≤ p → (s.a p = 0 ∨ (9 ≤ s.a p ∧ s.a p ≤ 12)) ∧ (10 ≤ s.a p → s.t p ≤ s.T) ∧ (11 ≤ s.a p → s.t p = s.T → (s.T : Int) < dvE s)
theorem dvnew_ok : DVOk dvnew := by
  refine ⟨Nat.zero_le _, Int.le_refl _, by decide, fun h => ?_, fun h => ?_, fun h => ?_, fun h => ?_, fun h => ?_, fun p _ => ⟨.inl rfl, fun h => ?_, fun h => ?_⟩⟩
  · have : (0 : Nat) = 2 ∨ (0 : Nat) = 3 := h
    omega
  · have : (0 : Nat) = 5 ∨ (0 : Nat) = 7 := h
    omega
  · have : (0 : Nat) = 6 := h
    omega
  · have : (0 : Nat) = 7 := h
    omega
  · have : (0 : Nat) = 8 := h
    omega
  · have : 10 ≤ 0 := h
    omega
  · have : 11 ≤ 0 := h
    omega
/-- The bottom, by hand 0's line. -/
def dvEl (l : Nat) (B : Int) : Int := if 5 ≤ l then B + 1 else B
theorem dput_self {α : Type} (f : Nat → α) (i : Nat) : dput f i (f i) = f := funext fun j => by
  unfold dput; split
  · rename_i e; rw [e]
  · rfl
section
variable {s : DV} (k : DVOk s)
include k
/-- Hand 0's own line, and the words, are others. -/
theorem DVOk.own {s' : DV} {l t' T' : Nat} {b' B' : Int} (ha : s'.a = dput s.a 0 l) (ht : s'.t = dput s.t 0 t') (hb : s'.b = dput s.b 0 b') (hT : s'.T = T') (hB : s'.B = B') (hl : l ≤ 8)
    (te : (T' : Int) ≤ dvEl l B') (e8 : dvEl l B' ≤ (T' : Int) + 8) (room : l = 2 ∨ l = 3 → B' < (T' : Int) + 8) (five : l = 5 ∨ l = 7 → b' = B') (six : l = 6 → (t' : Int) = B' + 1 ∧ (T' : Int) = B' + 1)
    (seven : l = 7 → (t' : Int) = B' ∧ t' ≤ T') (eight : l = 8 → (t' : Int) = B' ∧ (T' : Int) = B' + 1) (hTT : s.T ≤ T') (hE : T' = s.T → (s.T : Int) < dvE s → (s.T : Int) < dvEl l B') : DVOk s' := by
  have a0 : s'.a 0 = l := by rw [ha]; exact dput_same _ _ _
  have t0 : s'.t 0 = t' := by rw [ht]; exact dput_same _ _ _
  have b0 : s'.b 0 = b' := by rw [hb]; exact dput_same _ _ _
  have hEE : dvE s' = dvEl l B' := by unfold dvE dvEl; rw [a0, hB]
  refine ⟨by rw [a0]; exact hl, by rw [hEE, hT]; exact te, by rw [hEE, hT]; exact e8, by rw [a0, hB, hT]; exact room, by rw [a0, b0, hB]; exact five, by rw [a0, t0, hB, hT]; exact six, by rw [a0, t0, hB, hT]; exact seven, by rw [a0, t0, hB, hT]; exact eight, fun p hp => ?_⟩
  have ap : s'.a p = s.a p := by rw [ha]; exact dput_other (by omega)
  have tp : s'.t p = s.t p := by rw [ht]; exact dput_other (by omega)
  obtain ⟨h1, h2, h3⟩ := k.th p hp
  rw [ap, tp, hT, hEE]
  refine ⟨h1, fun h => Nat.le_trans (h2 h) hTT, fun h e => ?_⟩
  have h4 := h2 (by omega)
  have e1 : T' = s.T := by omega
  have := hE e1 (h3 h (by omega))
  omega
/-- Another hand is another one; Top may be one more. -/
theorem DVOk.other {s' : DV} {p l t' T' : Nat} (hp : 1 ≤ p) (ha : s'.a = dput s.a p l) (ht : s'.t = dput s.t p t') (hb : s'.b 0 = s.b 0) (hT : s'.T = T') (hB : s'.B = s.B) (hl : l = 0 ∨ (9 ≤ l ∧ l ≤ 12))
    (h10 : 10 ≤ l → t' ≤ T') (h11 : 11 ≤ l → t' = T' → (T' : Int) < dvE s) (hTT : T' = s.T ∨ (T' = s.T + 1 ∧ (s.T : Int) < dvE s)) : DVOk s' := by
  have a0 : s'.a 0 = s.a 0 := by rw [ha]; exact dput_other (by omega)
  have t0 : s'.t 0 = s.t 0 := by rw [ht]; exact dput_other (by omega)
  have hEE : dvE s' = dvE s := by unfold dvE; rw [a0, hB]
  have te := k.te
  have e8 := k.e8
  have ln := k.ln
  have hEd : dvE s = if 5 ≤ s.a 0 then s.B + 1 else s.B := rfl
  refine ⟨by rw [a0]; exact k.ln, by rw [hEE, hT]; omega, by rw [hEE, hT]; omega, by rw [a0, hB, hT]; intro h; have := k.room h; omega, by rw [a0, hb, hB]; exact k.five, ?_, ?_, ?_, fun q hq => ?_⟩
  · rw [a0, t0, hB, hT]; intro h
    have := k.six h
    rw [if_pos (by omega)] at hEd
    omega
  · rw [a0, t0, hB, hT]; intro h
    have := k.seven h
    omega
  · rw [a0, t0, hB, hT]; intro h
    have := k.eight h
    rw [if_pos (by omega)] at hEd
    omega
  · by_cases e : q = p
    · subst e
      have ap : s'.a q = l := by rw [ha]; exact dput_same _ _ _
      have tp : s'.t q = t' := by rw [ht]; exact dput_same _ _ _
      rw [ap, tp, hT, hEE]
      exact ⟨hl, h10, h11⟩
    · have ap : s'.a q = s.a q := by rw [ha]; exact dput_other e
      have tp : s'.t q = s.t q := by rw [ht]; exact dput_other e
      obtain ⟨h1, h2, h3⟩ := k.th q hq
      rw [ap, tp, hT, hEE]
      refine ⟨h1, fun h => by have := h2 h; omega, fun h e2 => ?_⟩
      have h4 := h2 (by omega)
      have e1 : T' = s.T := by omega
      have := h3 h (by omega)
      omega
theorem DVOk.push (x : Int) (h0 : s.a 0 = 0) : DVOk (dvbeg s 0 1 x) := by
  have te := k.te
  have e8 := k.e8
  have hE : dvE s = s.B := if_neg (by omega)
  have hl : dvEl 1 s.B = s.B := if_neg (by decide)
  exact k.own (t' := s.t 0) (b' := s.b 0) (T' := s.T) (B' := s.B) rfl (dput_self _ _).symm (dput_self _ _).symm rfl rfl (by omega) (by omega) (by omega) (fun h => by omega) (fun h => by omega) (fun h => by omega) (fun h => by omega) (fun h => by omega) (Nat.le_refl _) (fun _ _ => by omega)
theorem DVOk.pop (x : Int) (h0 : s.a 0 = 0) : DVOk (dvbeg s 0 4 x) := by
  have te := k.te
  have e8 := k.e8
  have hE : dvE s = s.B := if_neg (by omega)
  have hl : dvEl 4 s.B = s.B := if_neg (by decide)
  exact k.own (t' := s.t 0) (b' := s.b 0) (T' := s.T) (B' := s.B) rfl (dput_self _ _).symm (dput_self _ _).symm rfl rfl (by omega) (by omega) (by omega) (fun h => by omega) (fun h => by omega) (fun h => by omega) (fun h => by omega) (fun h => by omega) (Nat.le_refl _) (fun _ _ => by omega)
theorem DVOk.steal (x : Int) {p : Nat} (hp : 1 ≤ p) : DVOk (dvbeg s p 9 x) :=
  k.other (t' := s.t p) hp rfl (dput_self _ _).symm rfl rfl rfl (.inr ⟨by omega, by omega⟩) (fun h => by omega) (fun h => by omega) (.inl rfl)
/-- Hand 0 does a line. -/
theorem DVOk.step0 (h0 : s.a 0 ≠ 0) : DVOk (dvstp s 0) := by
  have te := k.te
  have e8 := k.e8
  have ln := k.ln
  have hEd : dvE s = if 5 ≤ s.a 0 then s.B + 1 else s.B := rfl
  unfold dvstp
  obtain h | h | h | h | h | h | h | h : s.a 0 = 1 ∨ s.a 0 = 2 ∨ s.a 0 = 3 ∨ s.a 0 = 4 ∨ s.a 0 = 5 ∨ s.a 0 = 6 ∨ s.a 0 = 7 ∨ s.a 0 = 8 := by omega
  · rw [if_pos h]
    rw [if_neg (by omega)] at hEd
    by_cases hf : (s.T : Int) + 8 ≤ s.B
    · rw [if_pos hf]
      have hl : dvEl 0 (s.B) = s.B := if_neg (by decide)
      exact k.own (l := 0) (t' := s.t 0) (b' := s.b 0) (T' := s.T) (B' := s.B) rfl (dput_self _ _).symm (dput_self _ _).symm rfl rfl (by omega) (by omega) (by omega) (fun h => by omega) (fun h => by omega) (fun h => by omega) (fun h => by omega) (fun h => by omega) (by omega) (fun _ _ => by omega)
    · rw [if_neg hf]
      have hl : dvEl 2 (s.B) = s.B := if_neg (by decide)
      exact k.own (l := 2) (t' := s.t 0) (b' := s.b 0) (T' := s.T) (B' := s.B) rfl (dput_self _ _).symm (dput_self _ _).symm rfl rfl (by omega) (by omega) (by omega) (fun h => by omega) (fun h => by omega) (fun h => by omega) (fun h => by omega) (fun h => by omega) (by omega) (fun _ _ => by omega)
  · rw [if_neg (show ¬ s.a 0 = 1 by omega), if_pos h]
    rw [if_neg (by omega)] at hEd
    have hr := k.room (.inl h)
    have hl : dvEl 3 (s.B) = s.B := if_neg (by decide)
    exact k.own (l := 3) (t' := s.t 0) (b' := s.b 0) (T' := s.T) (B' := s.B) rfl (dput_self _ _).symm (dput_self _ _).symm rfl rfl (by omega) (by omega) (by omega) (fun h => by omega) (fun h => by omega) (fun h => by omega) (fun h => by omega) (fun h => by omega) (by omega) (fun _ _ => by omega)
  · rw [if_neg (show ¬ s.a 0 = 1 by omega), if_neg (show ¬ s.a 0 = 2 by omega), if_pos h]
    rw [if_neg (by omega)] at hEd
    have hr := k.room (.inr h)
    have hl : dvEl 0 (s.B + 1) = s.B + 1 := if_neg (by decide)
    exact k.own (l := 0) (t' := s.t 0) (b' := s.b 0) (T' := s.T) (B' := s.B + 1) rfl (dput_self _ _).symm (dput_self _ _).symm rfl rfl (by omega) (by omega) (by omega) (fun h => by omega) (fun h => by omega) (fun h => by omega) (fun h => by omega) (fun h => by omega) (by omega) (fun _ _ => by omega)
  · rw [if_neg (show ¬ s.a 0 = 1 by omega), if_neg (show ¬ s.a 0 = 2 by omega), if_neg (show ¬ s.a 0 = 3 by omega), if_pos h]
    rw [if_neg (by omega)] at hEd
    have hl : dvEl 5 (s.B - 1) = s.B - 1 + 1 := if_pos (by decide)
    exact k.own (l := 5) (t' := s.t 0) (b' := s.B - 1) (T' := s.T) (B' := s.B - 1) rfl (dput_self _ _).symm rfl rfl rfl (by omega) (by omega) (by omega) (fun h => by omega) (fun h => by omega) (fun h => by omega) (fun h => by omega) (fun h => by omega) (by omega) (fun _ _ => by omega)
  · rw [if_neg (show ¬ s.a 0 = 1 by omega), if_neg (show ¬ s.a 0 = 2 by omega), if_neg (show ¬ s.a 0 = 3 by omega), if_neg (show ¬ s.a 0 = 4 by omega), if_pos h]
    rw [if_pos (by omega)] at hEd
    have h5 := k.five (.inl h)
    by_cases hf : (s.T : Int) < s.b 0
    · rw [if_pos hf]
      have hl : dvEl 0 (s.B) = s.B := if_neg (by decide)
      exact k.own (l := 0) (t' := s.T) (b' := s.b 0) (T' := s.T) (B' := s.B) rfl rfl (dput_self _ _).symm rfl rfl (by omega) (by omega) (by omega) (fun h => by omega) (fun h => by omega) (fun h => by omega) (fun h => by omega) (fun h => by omega) (by omega) (fun _ _ => by omega)
    · rw [if_neg hf]
      by_cases he : s.b 0 = s.T
      · rw [if_pos he]
        have hl : dvEl 7 (s.B) = s.B + 1 := if_pos (by decide)
        exact k.own (l := 7) (t' := s.T) (b' := s.b 0) (T' := s.T) (B' := s.B) rfl rfl (dput_self _ _).symm rfl rfl (by omega) (by omega) (by omega) (fun h => by omega) (fun h => by omega) (fun h => by omega) (fun h => by omega) (fun h => by omega) (by omega) (fun _ _ => by omega)
      · rw [if_neg he]
        have hl : dvEl 6 (s.B) = s.B + 1 := if_pos (by decide)
        exact k.own (l := 6) (t' := s.T) (b' := s.b 0) (T' := s.T) (B' := s.B) rfl rfl (dput_self _ _).symm rfl rfl (by omega) (by omega) (by omega) (fun h => by omega) (fun h => by omega) (fun h => by omega) (fun h => by omega) (fun h => by omega) (by omega) (fun _ _ => by omega)
  · rw [if_neg (show ¬ s.a 0 = 1 by omega), if_neg (show ¬ s.a 0 = 2 by omega), if_neg (show ¬ s.a 0 = 3 by omega), if_neg (show ¬ s.a 0 = 4 by omega), if_neg (show ¬ s.a 0 = 5 by omega), if_pos h]
    rw [if_pos (by omega)] at hEd
    have h6 := k.six h
    have hl : dvEl 0 ((s.t 0 : Int)) = (s.t 0 : Int) := if_neg (by decide)
    exact k.own (l := 0) (t' := s.t 0) (b' := s.b 0) (T' := s.T) (B' := (s.t 0 : Int)) rfl (dput_self _ _).symm (dput_self _ _).symm rfl rfl (by omega) (by omega) (by omega) (fun h => by omega) (fun h => by omega) (fun h => by omega) (fun h => by omega) (fun h => by omega) (by omega) (fun _ _ => by omega)
  · rw [if_neg (show ¬ s.a 0 = 1 by omega), if_neg (show ¬ s.a 0 = 2 by omega), if_neg (show ¬ s.a 0 = 3 by omega), if_neg (show ¬ s.a 0 = 4 by omega), if_neg (show ¬ s.a 0 = 5 by omega), if_neg (show ¬ s.a 0 = 6 by omega), if_pos h]
    rw [if_pos (by omega)] at hEd
    have h7 := k.seven h
    have h5 := k.five (.inr h)
    by_cases hf : s.T = s.t 0
    · rw [if_pos hf]
      have hl : dvEl 8 (s.B) = s.B + 1 := if_pos (by decide)
      exact k.own (l := 8) (t' := s.t 0) (b' := s.b 0) (T' := s.t 0 + 1) (B' := s.B) rfl (dput_self _ _).symm (dput_self _ _).symm rfl rfl (by omega) (by omega) (by omega) (fun h => by omega) (fun h => by omega) (fun h => by omega) (fun h => by omega) (fun h => by omega) (by omega) (fun _ _ => by omega)
    · rw [if_neg hf]
      have hl : dvEl 8 (s.B) = s.B + 1 := if_pos (by decide)
      exact k.own (l := 8) (t' := s.t 0) (b' := s.b 0) (T' := s.T) (B' := s.B) rfl (dput_self _ _).symm (dput_self _ _).symm rfl rfl (by omega) (by omega) (by omega) (fun h => by omega) (fun h => by omega) (fun h => by omega) (fun h => by omega) (fun h => by omega) (by omega) (fun _ _ => by omega)
  · rw [if_neg (show ¬ s.a 0 = 1 by omega), if_neg (show ¬ s.a 0 = 2 by omega), if_neg (show ¬ s.a 0 = 3 by omega), if_neg (show ¬ s.a 0 = 4 by omega), if_neg (show ¬ s.a 0 = 5 by omega), if_neg (show ¬ s.a 0 = 6 by omega), if_neg (show ¬ s.a 0 = 7 by omega), if_pos h]
    rw [if_pos (by omega)] at hEd
    have h8 := k.eight h
    have hl : dvEl 0 (((s.t 0 : Int) + 1)) = ((s.t 0 : Int) + 1) := if_neg (by decide)
    exact k.own (l := 0) (t' := s.t 0) (b' := s.b 0) (T' := s.T) (B' := ((s.t 0 : Int) + 1)) rfl (dput_self _ _).symm (dput_self _ _).symm rfl rfl (by omega) (by omega) (by omega) (fun h => by omega) (fun h => by omega) (fun h => by omega) (fun h => by omega) (fun h => by omega) (by omega) (fun _ _ => by omega)
/-- Another hand does a line. -/
theorem DVOk.stepT {p : Nat} (hp : 1 ≤ p) (h0 : s.a p ≠ 0) : DVOk (dvstp s p) := by
  obtain ⟨h1, h2, h3⟩ := k.th p hp
  have te := k.te
  have hle : s.B ≤ dvE s := by unfold dvE; split <;> omega
  unfold dvstp
  obtain h | h | h | h : s.a p = 9 ∨ s.a p = 10 ∨ s.a p = 11 ∨ s.a p = 12 := by omega
  · rw [if_neg (show ¬ s.a p = 1 by omega), if_neg (show ¬ s.a p = 2 by omega), if_neg (show ¬ s.a p = 3 by omega), if_neg (show ¬ s.a p = 4 by omega), if_neg (show ¬ s.a p = 5 by omega), if_neg (show ¬ s.a p = 6 by omega), if_neg (show ¬ s.a p = 7 by omega), if_neg (show ¬ s.a p = 8 by omega), if_pos h]
    exact k.other (l := 10) (t' := s.T) (T' := s.T) hp rfl rfl rfl rfl rfl (by omega) (fun h => by omega) (fun h e => by omega) (by omega)
  · rw [if_neg (show ¬ s.a p = 1 by omega), if_neg (show ¬ s.a p = 2 by omega), if_neg (show ¬ s.a p = 3 by omega), if_neg (show ¬ s.a p = 4 by omega), if_neg (show ¬ s.a p = 5 by omega), if_neg (show ¬ s.a p = 6 by omega), if_neg (show ¬ s.a p = 7 by omega), if_neg (show ¬ s.a p = 8 by omega), if_neg (show ¬ s.a p = 9 by omega), if_pos h]
    have h2 := h2 (by omega)
    by_cases hf : s.B ≤ s.t p
    · rw [if_pos hf]
      exact k.other (l := 0) (t' := s.t p) (T' := s.T) hp rfl (dput_self _ _).symm rfl rfl rfl (by omega) (fun h => by omega) (fun h e => by omega) (by omega)
    · rw [if_neg hf]
      exact k.other (l := 11) (t' := s.t p) (T' := s.T) hp rfl (dput_self _ _).symm rfl rfl rfl (by omega) (fun h => by omega) (fun h e => by omega) (by omega)
  · rw [if_neg (show ¬ s.a p = 1 by omega), if_neg (show ¬ s.a p = 2 by omega), if_neg (show ¬ s.a p = 3 by omega), if_neg (show ¬ s.a p = 4 by omega), if_neg (show ¬ s.a p = 5 by omega), if_neg (show ¬ s.a p = 6 by omega), if_neg (show ¬ s.a p = 7 by omega), if_neg (show ¬ s.a p = 8 by omega), if_neg (show ¬ s.a p = 9 by omega), if_neg (show ¬ s.a p = 10 by omega), if_pos h]
    have h2 := h2 (by omega)
    have h3 := h3 (by omega)
    exact k.other (l := 12) (t' := s.t p) (T' := s.T) hp rfl (dput_self _ _).symm rfl rfl rfl (by omega) (fun h => by omega) (fun h e => by omega) (by omega)
  · rw [if_neg (show ¬ s.a p = 1 by omega), if_neg (show ¬ s.a p = 2 by omega), if_neg (show ¬ s.a p = 3 by omega), if_neg (show ¬ s.a p = 4 by omega), if_neg (show ¬ s.a p = 5 by omega), if_neg (show ¬ s.a p = 6 by omega), if_neg (show ¬ s.a p = 7 by omega), if_neg (show ¬ s.a p = 8 by omega), if_neg (show ¬ s.a p = 9 by omega), if_neg (show ¬ s.a p = 10 by omega), if_neg (show ¬ s.a p = 11 by omega)]
    have h2 := h2 (by omega)
    have h3 := h3 (by omega)
    by_cases hf : s.T = s.t p
    · rw [if_pos hf]
      have h4 := h3 hf.symm
      exact k.other (l := 0) (t' := s.t p) (T' := s.t p + 1) hp rfl (dput_self _ _).symm rfl rfl rfl (by omega) (fun h => by omega) (fun h e => by omega) (by omega)
    · rw [if_neg hf]
      exact k.other (l := 0) (t' := s.t p) (T' := s.T) hp rfl (dput_self _ _).symm rfl rfl rfl (by omega) (fun h => by omega) (fun h e => by omega) (by omega)
theorem DVOk.step {p : Nat} (h0 : s.a p ≠ 0) : DVOk (dvstp s p) := by
  rcases Nat.eq_zero_or_pos p with rfl | hp
  · exact k.step0 h0
  · exact k.stepT hp h0
end
end Go.Proofs.Ytbicckeoidijpaa
