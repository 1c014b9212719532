import Derived.Test.YthdfceoagjgbaaaTckNew
import Derived.Test.YthdfceoagjgbaaaTckFirst
/-
  Package ticket: the row of those who drew and are not yet in, of a state.
-/
namespace Go.Proofs.Ythdfceoagjgbaaa.Ticket

def lkGh (n : Nat) (s : LSt) (R : List Int) : Prop := ∃ Q, TOk n s Q ∧ R = (ttl s Q).map Int.ofNat
theorem lkGh_new (n : Nat) : lkGh n (lkNew n) [] := ⟨[], tnew_ok n, rfl⟩
theorem row_len {n : Nat} {s : LSt} {Q : List Nat} (k : TOk n s Q) : Q.length ≤ n := by
  rw [← k.cnt]
  have : ∀ m, tcnt (fun q => decide (s.a q ≠ 1)) m ≤ m := by
    intro m
    induction m with
    | zero => exact Nat.le_refl _
    | succ m ih => unfold tcnt; split <;> omega
  exact this n
theorem lkGh_len {n : Nat} {s : LSt} {R : List Int} (_hok : lkOk n s) (h : lkGh n s R) : R.length ≤ n := by
  obtain ⟨Q, k, rfl⟩ := h
  rw [List.length_map]
  exact Nat.le_trans (ttl_len k) (row_len k)
theorem lkGh_step {n : Nat} {s : LSt} {R : List Int} (_hok : lkOk n s) (h : lkGh n s R) {p : Nat} (hp : p < n) :
    (lkAt n s p ≠ 3 ∧ lkAt n (lkStep n s p) p = 3 → ∃ R2, (if lkAt n s p = 1 then R ++ [(p : Int)] else R) = (p : Int) :: R2 ∧ lkGh n (lkStep n s p) R2) ∧
    (¬ (lkAt n s p ≠ 3 ∧ lkAt n (lkStep n s p) p = 3) → lkGh n (lkStep n s p) (if lkAt n s p = 1 then R ++ [(p : Int)] else R)) := by
  obtain ⟨Q, k, rfl⟩ := h
  rw [lkStep_in hp, lkAt_in hp, lkAt_in hp]
  have h1 := tck_first k hp
  have e : (if s.a p = 1 then (ttl s Q).map Int.ofNat ++ [(p : Int)] else (ttl s Q).map Int.ofNat) = (if s.a p = 1 then ttl s Q ++ [p] else ttl s Q).map Int.ofNat := by
    split
    · simp
    · rfl
  rw [e]
  refine ⟨fun hc => ?_, fun hc => ⟨_, k.step hp, by rw [h1.2 hc]⟩⟩
  obtain ⟨R, hR, hR2⟩ := h1.1 hc
  exact ⟨R.map Int.ofNat, by rw [hR]; rfl, _, k.step hp, by rw [hR2]⟩
end Go.Proofs.Ythdfceoagjgbaaa.Ticket
