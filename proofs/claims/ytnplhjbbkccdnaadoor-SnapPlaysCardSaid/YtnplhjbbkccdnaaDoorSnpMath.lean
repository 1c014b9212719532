/-
  Chapter 14 as plain mathematics: many words at once. It imports nothing of the translation.
-/
namespace Go.Proofs.YtnplhjbbkccdnaaDoor

def nput {α : Type} (f : Nat → α) (i : Nat) (x : α) : Nat → α := fun j => if j = i then x else f j
theorem nput_same {α : Type} (f : Nat → α) (i : Nat) (x : α) : nput f i x i = x := by simp [nput]
theorem nput_other {α : Type} {f : Nat → α} {i j : Nat} {x : α} (h : j ≠ i) : nput f i x j = f j := by simp [nput, h]
/-- The least one below a bound that is so. -/
def sfind (P : Nat → Bool) : Nat → Option Nat
  | 0 => none
  | n + 1 => match sfind P n with
    | some q => some q
    | none => if P n then some n else none
theorem sfind_some {P : Nat → Bool} {q : Nat} : ∀ {n : Nat}, sfind P n = some q → q < n ∧ P q = true := by
  intro n
  induction n with
  | zero => intro h; cases h
  | succ n ih =>
    intro h
    unfold sfind at h
    cases e : sfind P n with
    | some r =>
      rw [e] at h ih
      have h1 := ih h
      exact ⟨by omega, h1.2⟩
    | none =>
      rw [e] at h
      have h : (if P n then some n else none) = some q := h
      split at h
      · rename_i hp; cases h; exact ⟨Nat.lt_succ_self _, hp⟩
      · cases h
theorem sfind_none {P : Nat → Bool} : ∀ {n : Nat}, sfind P n = none → ∀ q, q < n → P q = false := by
  intro n
  induction n with
  | zero => intro _ q hq; exact absurd hq (Nat.not_lt_zero _)
  | succ n ih =>
    intro h q hq
    unfold sfind at h
    cases e : sfind P n with
    | some r => rw [e] at h; cases h
    | none =>
      rw [e] at h ih
      have h : (if P n then some n else none) = none := h
      by_cases e2 : q = n
      · subst e2
        cases hp : P q with
        | false => rfl
        | true => rw [if_pos hp] at h; cases h
      · exact ih rfl q (by omega)

/-- A word: a value, a turn, what its hand saw. -/
structure SW where
  v : Nat
  t : Nat
  s : Nat → Nat
/-- Of a hand: its line, how many words it has read, what it writes, whether it does, the first words, the last ones, who moved how often, what it saw. -/
structure SB where
  a : Nat
  k : Nat
  x : Nat
  w : Bool
  f : Nat → SW
  l : Nat → SW
  mv : Nat → Nat
  sw : Nat → Nat
structure SS where
  h : Nat → SB
  wd : Nat → SW
def sw0 : SW := ⟨0, 0, fun _ => 0⟩
def ssnew : SS := ⟨fun _ => ⟨0, 0, 0, false, fun _ => sw0, fun _ => sw0, fun _ => 0, fun _ => 0⟩, fun _ => sw0⟩
def sbeg1 (b : SB) (w : Bool) (x : Nat) : SB := ⟨1, 0, x, w, b.f, b.l, fun _ => 0, b.sw⟩
def sbeg (v : SS) (p : Nat) (w : Bool) (x : Nat) : SS := ⟨nput v.h p (sbeg1 (v.h p) w x), v.wd⟩
/-- How often a hand moved, with these last words. -/
def smvd (b : SB) (l : Nat → SW) (q : Nat) : Nat := b.mv q + if (b.f q).t = (l q).t then 0 else 1
/-- What is seen, if anything. -/
def ssee (n : Nat) (b : SB) (l : Nat → SW) : Option (Nat → Nat) :=
  match sfind (fun q => decide (smvd b l q = 2)) n with
  | some q => some (l q).s
  | none => match sfind (fun q => decide ((b.f q).t ≠ (l q).t)) n with
    | some _ => none
    | none => some fun q => (l q).v
def slast (v : SS) (p : Nat) : Nat → SW := nput (v.h p).l (v.h p).k (v.wd (v.h p).k)
def sone (n : Nat) (v : SS) (p : Nat) : SB :=
  if (v.h p).a = 1 then
    (if (v.h p).k + 1 = n then ⟨2, 0, (v.h p).x, (v.h p).w, nput (v.h p).f (v.h p).k (v.wd (v.h p).k), (v.h p).l, (v.h p).mv, (v.h p).sw⟩
     else ⟨1, (v.h p).k + 1, (v.h p).x, (v.h p).w, nput (v.h p).f (v.h p).k (v.wd (v.h p).k), (v.h p).l, (v.h p).mv, (v.h p).sw⟩)
  else if (v.h p).a = 2 then
    (if (v.h p).k + 1 = n then
      (match ssee n (v.h p) (slast v p) with
       | some s => if (v.h p).w then ⟨3, 0, (v.h p).x, (v.h p).w, (v.h p).f, slast v p, (v.h p).mv, s⟩ else ⟨0, 0, (v.h p).x, (v.h p).w, (v.h p).f, slast v p, (v.h p).mv, (v.h p).sw⟩
       | none => ⟨2, 0, (v.h p).x, (v.h p).w, slast v p, slast v p, smvd (v.h p) (slast v p), (v.h p).sw⟩)
     else ⟨2, (v.h p).k + 1, (v.h p).x, (v.h p).w, (v.h p).f, slast v p, (v.h p).mv, (v.h p).sw⟩)
  else ⟨0, (v.h p).k, (v.h p).x, (v.h p).w, (v.h p).f, (v.h p).l, (v.h p).mv, (v.h p).sw⟩
def swd (v : SS) (p : Nat) : Nat → SW := if (v.h p).a = 3 then nput v.wd p ⟨(v.h p).x, (v.wd p).t + 1, (v.h p).sw⟩ else v.wd
def sstep (n : Nat) (v : SS) (p : Nat) : SS := ⟨nput v.h p (sone n v p), swd v p⟩
/-- What who looks is told. -/
def stold (n : Nat) (v : SS) (p : Nat) : Option (Nat → Nat) :=
  if (v.h p).a = 2 ∧ (v.h p).k + 1 = n ∧ (v.h p).w = false then ssee n (v.h p) (slast v p) else none

/-- A word as it was read by one who began at some time. -/
def SGood (n : Nat) (H : Nat → Nat → Nat) (T b q : Nat) (w : SW) : Prop :=
  w.v = w.t ∧ w.t ≤ H T q ∧ H b q ≤ w.t ∧ ∃ t, t ≤ T ∧ w.t ≤ H t q + 1 ∧ ∀ r, r < n → w.s r = H t r
/-- What was there at some time. -/
def SWas (n : Nat) (H : Nat → Nat → Nat) (T b : Nat) (s : Nat → Nat) : Prop := ∃ t, b ≤ t ∧ t ≤ T ∧ ∀ r, r < n → s r = H t r
def SMid (n : Nat) (H : Nat → Nat → Nat) (T b tm : Nat) (x : SB) : Prop :=
  b ≤ tm ∧ tm ≤ T ∧ (∀ q, q < n → SGood n H T b q (x.f q) ∧ (x.f q).t ≤ H tm q ∧ x.mv q ≤ 1 ∧ H b q + x.mv q ≤ (x.f q).t) ∧ ∀ q, q < x.k → SGood n H T b q (x.l q) ∧ H tm q ≤ (x.l q).t
/-- What is always so of a hand: it began at some time, its word has some turn. -/
structure SHk (n : Nat) (H : Nat → Nat → Nat) (T b p t : Nat) (x : SB) : Prop where
  ln : x.a ≤ 3
  on : x.a ≠ 0 → b ≤ T ∧ H b p = t ∧ (x.w = true → x.x = t + 1)
  one : x.a = 1 → x.k < n ∧ (∀ q, x.mv q = 0) ∧ ∀ q, q < x.k → SGood n H T b q (x.f q)
  two : x.a = 2 → x.k < n ∧ ∃ tm, SMid n H T b tm x
  three : x.a = 3 → x.w = true ∧ SWas n H T b x.sw
structure SnOk (n : Nat) (H : Nat → Nat → Nat) (T : Nat) (b : Nat → Nat) (v : SS) : Prop where
  hn : ∀ q, q < n → H T q = (v.wd q).t
  hm : ∀ t q, t < T → q < n → H t q ≤ H (t + 1) q
  vt : ∀ q, q < n → (v.wd q).v = (v.wd q).t
  ws : ∀ q, q < n → ∃ t, t ≤ T ∧ (v.wd q).t ≤ H t q + 1 ∧ ∀ r, r < n → (v.wd q).s r = H t r
  hk : ∀ p, p < n → SHk n H T (b p) p (v.wd p).t (v.h p)
theorem ssnew_ok (n : Nat) : SnOk n (fun _ _ => 0) 0 (fun _ => 0) ssnew := by
  refine ⟨fun q _ => rfl, fun t q _ _ => Nat.le_refl _, fun q _ => rfl, fun q _ => ⟨0, Nat.le_refl _, Nat.zero_le _, fun r _ => rfl⟩, fun p _ => ⟨Nat.zero_le _, fun h => absurd rfl h, fun h => ?_, fun h => ?_, fun h => ?_⟩⟩
  · have : (0 : Nat) = 1 := h
    omega
  · have : (0 : Nat) = 2 := h
    omega
  · have : (0 : Nat) = 3 := h
    omega
/-- What was, with what is now. -/
def hnext (H : Nat → Nat → Nat) (T : Nat) (x : Nat → Nat) : Nat → Nat → Nat := nput H (T + 1) x
section
variable {n T : Nat} {H : Nat → Nat → Nat} {b : Nat → Nat} {v : SS} (k : SnOk n H T b v)
include k
theorem SnOk.mono {t u q : Nat} (hq : q < n) (h : t ≤ u) (hu : u ≤ T) : H t q ≤ H u q := by
  induction u with
  | zero => rw [show t = 0 by omega]; exact Nat.le_refl _
  | succ u ih =>
    by_cases e : t = u + 1
    · rw [e]; exact Nat.le_refl _
    · have h1 := ih (by omega) (by omega)
      have h2 := k.hm u q (by omega) hq
      omega
/-- A word is read. -/
theorem SnOk.read {q c : Nat} (hq : q < n) (hc : c ≤ T) : SGood n H T c q (v.wd q) := by
  refine ⟨k.vt q hq, by rw [k.hn q hq]; exact Nat.le_refl _, ?_, k.ws q hq⟩
  rw [← k.hn q hq]; exact k.mono hq hc (Nat.le_refl _)
/-- What is seen at the end of a pass was there at some time since one began. -/
theorem SnOk.see {c tm : Nat} {x : SB} {l : Nat → SW} {s : Nat → Nat} (h1 : c ≤ tm) (h2 : tm ≤ T)
    (hf : ∀ q, q < n → SGood n H T c q (x.f q) ∧ (x.f q).t ≤ H tm q ∧ x.mv q ≤ 1 ∧ H c q + x.mv q ≤ (x.f q).t)
    (hl : ∀ q, q < n → SGood n H T c q (l q) ∧ H tm q ≤ (l q).t) (hs : ssee n x l = some s) : SWas n H T c s := by
  unfold ssee at hs
  cases e : sfind (fun q => decide (smvd x l q = 2)) n with
  | some q =>
    rw [e] at hs
    have hs : some (l q).s = some s := hs
    cases hs
    obtain ⟨hq, hd⟩ := sfind_some e
    have hd : smvd x l q = 2 := of_decide_eq_true hd
    have a1 := hf q hq
    have a2 := hl q hq
    obtain ⟨t, b1, b2, b3⟩ := a2.1.2.2.2
    have hne : (x.f q).t ≠ (l q).t := fun e => by unfold smvd at hd; rw [if_pos e] at hd; omega
    have hmv : x.mv q = 1 := by unfold smvd at hd; rw [if_neg hne] at hd; omega
    refine ⟨t, ?_, b1, b3⟩
    rcases Nat.lt_or_ge t c with h | h
    · have := k.mono hq (Nat.le_of_lt h) (by omega : c ≤ T)
      omega
    · exact h
  | none =>
    rw [e] at hs
    cases e2 : sfind (fun q => decide ((x.f q).t ≠ (l q).t)) n with
    | some q =>
      rw [e2] at hs
      have hs : none = some s := hs
      cases hs
    | none =>
      rw [e2] at hs
      have hs : some (fun q => (l q).v) = some s := hs
      cases hs
      refine ⟨tm, h1, h2, fun r hr => ?_⟩
      have a1 := hf r hr
      have a2 := hl r hr
      have a3 : (x.f r).t = (l r).t := Decidable.of_not_not (of_decide_eq_false (sfind_none e2 r hr))
      have a4 := a2.1.1
      show (l r).v = _
      omega
omit k in
/-- If nothing is seen nobody moved twice. -/
theorem SnOk.unseen {c tm : Nat} {x : SB} {l : Nat → SW}
    (hf : ∀ q, q < n → SGood n H T c q (x.f q) ∧ (x.f q).t ≤ H tm q ∧ x.mv q ≤ 1 ∧ H c q + x.mv q ≤ (x.f q).t)
    (hl : ∀ q, q < n → SGood n H T c q (l q) ∧ H tm q ≤ (l q).t) (hs : ssee n x l = none) :
    (∀ q, q < n → smvd x l q ≤ 1 ∧ H c q + smvd x l q ≤ (l q).t) ∧ ∃ q, q < n ∧ smvd x l q = x.mv q + 1 := by
  unfold ssee at hs
  cases e : sfind (fun q => decide (smvd x l q = 2)) n with
  | some q => rw [e] at hs; cases hs
  | none =>
    rw [e] at hs
    cases e2 : sfind (fun q => decide ((x.f q).t ≠ (l q).t)) n with
    | none => rw [e2] at hs; cases hs
    | some q =>
      refine ⟨fun r hr => ?_, q, (sfind_some e2).1, ?_⟩
      · have a1 : smvd x l r ≠ 2 := of_decide_eq_false (sfind_none e r hr)
        have a2 := hf r hr
        have a3 := hl r hr
        unfold smvd at a1 ⊢
        split at a1 <;> rename_i e3
        · rw [if_pos e3]; omega
        · rw [if_neg e3]; omega
      · have : (x.f q).t ≠ (l q).t := of_decide_eq_true (sfind_some e2).2
        unfold smvd; rw [if_neg this]
end
end Go.Proofs.YtnplhjbbkccdnaaDoor
