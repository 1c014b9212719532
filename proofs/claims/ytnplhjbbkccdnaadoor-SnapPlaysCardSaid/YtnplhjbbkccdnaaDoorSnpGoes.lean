/-
  Chapter 14 as plain mathematics: whoever steps is done by so many steps.
-/
import Derived.Test.YtnplhjbbkccdnaaDoorSnpMath
namespace Go.Proofs.YtnplhjbbkccdnaaDoor
def smv (mv : Nat → Nat) : Nat → Nat
  | 0 => 0
  | n + 1 => smv mv n + mv n
theorem smv_le {mv : Nat → Nat} : ∀ n, (∀ q, q < n → mv q ≤ 1) → smv mv n ≤ n := by
  intro n
  induction n with
  | zero => intro _; exact Nat.le_refl _
  | succ n ih =>
    intro h
    have h1 := ih fun q hq => h q (by omega)
    have h2 := h n (by omega)
    unfold smv; omega
theorem smv_mono {mv mv' : Nat → Nat} : ∀ n, (∀ q, q < n → mv q ≤ mv' q) → smv mv n ≤ smv mv' n := by
  intro n
  induction n with
  | zero => intro _; exact Nat.le_refl _
  | succ n ih =>
    intro h
    have h1 := ih fun q hq => h q (by omega)
    have h2 := h n (by omega)
    unfold smv; omega
theorem smv_more {mv mv' : Nat → Nat} {r : Nat} : ∀ n, (∀ q, q < n → mv q ≤ mv' q) → r < n → mv' r = mv r + 1 → smv mv n + 1 ≤ smv mv' n := by
  intro n
  induction n with
  | zero => intro _ h; exact absurd h (Nat.not_lt_zero _)
  | succ n ih =>
    intro h hr e
    unfold smv
    by_cases e2 : r = n
    · subst e2
      have := smv_mono r fun q hq => h q (by omega)
      omega
    · have h1 := ih (fun q hq => h q (by omega)) (by omega) e
      have h2 := h n (by omega)
      omega
theorem smv_zero {mv : Nat → Nat} (h : ∀ q, mv q = 0) : ∀ n, smv mv n = 0 := by
  intro n
  induction n with
  | zero => rfl
  | succ n ih => unfold smv; rw [ih, h n]
/-- What is always so of a hand, whatever others do. -/
structure SMk (n : Nat) (x : SB) : Prop where
  ln : x.a ≤ 3
  mv : ∀ q, q < n → x.mv q ≤ 1
  z : x.a = 1 → ∀ q, x.mv q = 0
  kn : x.a = 1 ∨ x.a = 2 → x.k < n
theorem ssnew_mk (n p : Nat) : SMk n (ssnew.h p) := by
  refine ⟨Nat.zero_le _, fun q _ => Nat.zero_le _, fun h => ?_, fun h => ?_⟩
  · have : (0 : Nat) = 1 := h
    omega
  · have : (0 : Nat) = 1 ∨ (0 : Nat) = 2 := h
    omega
theorem SMk.beg {n x : Nat} {b : SB} {w : Bool} (hn : 0 < n) : SMk n (sbeg1 b w x) :=
  ⟨(by omega : 1 ≤ 3), fun q _ => Nat.zero_le _, fun _ _ => rfl, fun _ => hn⟩
/-- How many steps it needs at most. -/
def sleft (n : Nat) (x : SB) : Nat :=
  if x.a = 1 then (n - x.k) + n * (n + 1) + 1 else if x.a = 2 then (n - x.k) + n * (n - smv x.mv n) + 1 else if x.a = 3 then 1 else 0
theorem sleft_beg {n x : Nat} {b : SB} {w : Bool} : sleft n (sbeg1 b w x) = n * (n + 2) + 1 := by
  unfold sleft
  rw [if_pos (show (sbeg1 b w x).a = 1 from rfl)]
  show n - 0 + _ + 1 = _
  rw [Nat.mul_add n n 1, Nat.mul_add n n 2]
  omega
theorem sleft_pos {n : Nat} {x : SB} (k : SMk n x) (h : x.a ≠ 0) : 0 < sleft n x := by
  have := k.ln
  unfold sleft
  split
  · omega
  · split
    · omega
    · split <;> omega
/-- It keeps so, and needs one less. -/
theorem SMk.step {n p : Nat} {v : SS} (k : SMk n (v.h p)) (h0 : (v.h p).a ≠ 0) : SMk n (sone n v p) ∧ sleft n (sone n v p) + 1 ≤ sleft n (v.h p) := by
  have hln := k.ln
  by_cases h1 : (v.h p).a = 1
  · have hk := k.kn (.inl h1)
    have hz := k.z h1
    have eL : sleft n (v.h p) = (n - (v.h p).k) + n * (n + 1) + 1 := by unfold sleft; rw [if_pos h1]
    rw [eL]
    unfold sone
    rw [if_pos h1]
    by_cases e : (v.h p).k + 1 = n
    · rw [if_pos e]
      refine ⟨⟨(by omega : 2 ≤ 3), k.mv, fun h => by have : (2 : Nat) = 1 := h; omega, fun _ => by show 0 < n; omega⟩, ?_⟩
      unfold sleft
      rw [if_neg (show ¬ (2 : Nat) = 1 by omega), if_pos rfl]
      show (n - 0) + n * (n - smv (v.h p).mv n) + 1 + 1 ≤ _
      rw [smv_zero hz, Nat.sub_zero, Nat.mul_add n n 1]
      omega
    · rw [if_neg e]
      refine ⟨⟨(by omega : 1 ≤ 3), k.mv, fun _ => hz, fun _ => by show (v.h p).k + 1 < n; omega⟩, ?_⟩
      unfold sleft
      rw [if_pos rfl]
      show (n - ((v.h p).k + 1)) + n * (n + 1) + 1 + 1 ≤ _
      omega
  · by_cases h2 : (v.h p).a = 2
    · have hk := k.kn (.inr h2)
      have eL : sleft n (v.h p) = (n - (v.h p).k) + n * (n - smv (v.h p).mv n) + 1 := by unfold sleft; rw [if_neg h1, if_pos h2]
      rw [eL]
      unfold sone
      rw [if_neg h1, if_pos h2]
      by_cases e : (v.h p).k + 1 = n
      · rw [if_pos e]
        cases es : ssee n (v.h p) (slast v p) with
        | some s =>
          show SMk n (if (v.h p).w then _ else _) ∧ sleft n (if (v.h p).w then _ else _) + 1 ≤ _
          cases (v.h p).w with
          | true =>
            refine ⟨⟨Nat.le_refl _, k.mv, fun h => by have : (3 : Nat) = 1 := h; omega, fun h => by have : (3 : Nat) = 1 ∨ (3 : Nat) = 2 := h; omega⟩, ?_⟩
            show 1 + 1 ≤ _
            omega
          | false =>
            refine ⟨⟨Nat.zero_le _, k.mv, fun h => by have : (0 : Nat) = 1 := h; omega, fun h => by have : (0 : Nat) = 1 ∨ (0 : Nat) = 2 := h; omega⟩, ?_⟩
            show 0 + 1 ≤ _
            omega
        | none =>
          have hm : ∀ q, q < n → smvd (v.h p) (slast v p) q ≤ 1 ∧ (v.h p).mv q ≤ smvd (v.h p) (slast v p) q := fun q hq => by
            unfold ssee at es
            cases e1 : sfind (fun q => decide (smvd (v.h p) (slast v p) q = 2)) n with
            | some r => rw [e1] at es; cases es
            | none =>
              have a1 : smvd (v.h p) (slast v p) q ≠ 2 := of_decide_eq_false (sfind_none e1 q hq)
              have a2 := k.mv q hq
              unfold smvd at a1 ⊢
              split at a1 <;> rename_i e3
              · rw [if_pos e3]; omega
              · rw [if_neg e3]; omega
          have hr : ∃ r, r < n ∧ smvd (v.h p) (slast v p) r = (v.h p).mv r + 1 := by
            unfold ssee at es
            cases e1 : sfind (fun q => decide (smvd (v.h p) (slast v p) q = 2)) n with
            | some r => rw [e1] at es; cases es
            | none =>
              rw [e1] at es
              cases e2 : sfind (fun q => decide (((v.h p).f q).t ≠ (slast v p q).t)) n with
              | none => rw [e2] at es; cases es
              | some r =>
                have : ((v.h p).f r).t ≠ (slast v p r).t := of_decide_eq_true (sfind_some e2).2
                exact ⟨r, (sfind_some e2).1, by unfold smvd; rw [if_neg this]⟩
          obtain ⟨r, hr1, hr2⟩ := hr
          have b1 := smv_more n (fun q hq => (hm q hq).2) hr1 hr2
          have b2 := smv_le n fun q hq => (hm q hq).1
          refine ⟨⟨(by omega : 2 ≤ 3), fun q hq => (hm q hq).1, fun h => by have : (2 : Nat) = 1 := h; omega, fun _ => by show 0 < n; omega⟩, ?_⟩
          unfold sleft
          rw [if_neg (show ¬ (2 : Nat) = 1 by omega), if_pos rfl]
          show (n - 0) + n * (n - smv (smvd (v.h p) (slast v p)) n) + 1 + 1 ≤ _
          obtain ⟨d, hd⟩ : ∃ d, n - smv (v.h p).mv n = d + 1 := ⟨n - smv (v.h p).mv n - 1, by omega⟩
          have b3 : n * (n - smv (smvd (v.h p) (slast v p)) n) ≤ n * d := Nat.mul_le_mul_left n (by omega)
          rw [hd, Nat.mul_add n d 1]
          omega
      · rw [if_neg e]
        refine ⟨⟨(by omega : 2 ≤ 3), k.mv, fun h => by have : (2 : Nat) = 1 := h; omega, fun _ => by show (v.h p).k + 1 < n; omega⟩, ?_⟩
        unfold sleft
        rw [if_neg (show ¬ (2 : Nat) = 1 by omega), if_pos rfl]
        show (n - ((v.h p).k + 1)) + n * (n - smv (v.h p).mv n) + 1 + 1 ≤ _
        omega
    · have h3 : (v.h p).a = 3 := by omega
      have eL : sleft n (v.h p) = 1 := by unfold sleft; rw [if_neg h1, if_neg h2, if_pos h3]
      rw [eL]
      unfold sone
      rw [if_neg h1, if_neg h2]
      refine ⟨⟨Nat.zero_le _, k.mv, fun h => by have : (0 : Nat) = 1 := h; omega, fun h => by have : (0 : Nat) = 1 ∨ (0 : Nat) = 2 := h; omega⟩, ?_⟩
      show 0 + 1 ≤ _
      omega
end Go.Proofs.YtnplhjbbkccdnaaDoor
