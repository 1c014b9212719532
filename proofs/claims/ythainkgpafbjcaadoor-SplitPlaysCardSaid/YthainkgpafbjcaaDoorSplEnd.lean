/-
  Chapter 12 as plain mathematics: names are small, no two are one, and who did enough has one.
-/
import Derived.Test.YthainkgpafbjcaaDoorSplNames
import Derived.Test.YthainkgpafbjcaaDoorSplStep
namespace Go.Proofs.YthainkgpafbjcaaDoor
/-- The number of a place. -/
def trn (s : Nat) : Nat := s * (s + 1) / 2
theorem trn_succ (s : Nat) : trn (s + 1) = trn s + s + 1 := by
  unfold trn
  have h : (s + 1) * (s + 1 + 1) = s * (s + 1) + 2 * (s + 1) := by
    rw [show s + 1 + 1 = s + 2 from rfl, Nat.mul_add (s + 1) s 2, Nat.mul_comm (s + 1) s]
    omega
  omega
theorem trn_mono {s t : Nat} (h : s ≤ t) : trn s ≤ trn t := by
  induction t with
  | zero => rw [show s = 0 by omega]; exact Nat.le_refl _
  | succ t ih =>
    by_cases e : s = t + 1
    · rw [e]; exact Nat.le_refl _
    · have := ih (by omega)
      rw [trn_succ]; omega
theorem trn_lt {s r k : Nat} (h : s + 1 ≤ k) (hr : r ≤ s) : trn s + r < trn k := by
  have h1 := trn_mono h
  rw [trn_succ] at h1
  omega
theorem trn_inj {s r s' r' : Nat} (hr : r ≤ s) (hr' : r' ≤ s') (e : trn s + r = trn s' + r') : s = s' ∧ r = r' := by
  rcases Nat.lt_trichotomy s s' with h | h | h
  · have := trn_mono (s := s + 1) (t := s') h
    rw [trn_succ] at this; omega
  · subst h; exact ⟨rfl, by omega⟩
  · have := trn_mono (s := s' + 1) (t := s) h
    rw [trn_succ] at this; omega
theorem scnt_le (P : Nat → Prop) [DecidablePred P] (n : Nat) : scnt P n ≤ n := by
  induction n with
  | zero => exact Nat.le_refl _
  | succ n ih => unfold scnt; split <;> omega
/-- The number of hands that did anything. -/
def sact (n : Nat) (g : SG) : Nat := scnt (fun q => 0 < g.d q) n
/-- A hand's name, one more; 0: it has none. -/
def spnam (v : SPS) (p : Nat) : Nat := if (v.s p).a = 5 then trn ((v.s p).r + (v.s p).c) + (v.s p).r + 1 else 0
section
variable {n : Nat} {g : SG} (k : SOk n g)
include k
theorem SOk.depth {p : Nat} (hp : p < n) : dep g p < n := by
  rcases Nat.eq_zero_or_pos (g.d p) with h | h
  · have : ¬ (2 ≤ (g.v.s p).a ∨ 0 < dep g p) := fun h1 => by have := k.act p hp h1; omega
    omega
  · have h1 := k.near hp h
    have h2 := scnt_le (fun q => 0 < g.d q) n
    omega
theorem SOk.name_lt {p : Nat} (hp : p < n) : spnam g.v p ≤ trn (sact n g) := by
  unfold spnam
  split
  · rename_i h
    have h1 : 0 < g.d p := k.act p hp (.inl (by omega))
    have h2 := k.near hp h1
    have := trn_lt (s := (g.v.s p).r + (g.v.s p).c) (r := (g.v.s p).r) (k := sact n g) h2 (by omega)
    omega
  · exact Nat.zero_le _
theorem SOk.name_one {p q : Nat} (hp : p < n) (hq : q < n) (hne : p ≠ q) (h : spnam g.v p = spnam g.v q) : spnam g.v p = 0 := by
  by_cases a1 : (g.v.s p).a = 5
  · by_cases a2 : (g.v.s q).a = 5
    · unfold spnam at h
      rw [if_pos a1, if_pos a2] at h
      have h1 := trn_inj (s := (g.v.s p).r + (g.v.s p).c) (r := (g.v.s p).r) (s' := (g.v.s q).r + (g.v.s q).c) (r' := (g.v.s q).r) (by omega) (by omega) (by omega)
      exact absurd a2 ((k.five p hp a1).2 q hq (fun e => hne e.symm) ⟨h1.2.symm, by omega⟩).1
    · unfold spnam at h ⊢
      rw [if_neg a2] at h
      exact h
  · unfold spnam; rw [if_neg a1]
/-- Who did 4 lines for each hand that did anything has a name. -/
theorem SOk.named {p : Nat} (hp : p < n) (h0 : 0 < sact n g) (h : 4 * sact n g ≤ g.d p) : 0 < spnam g.v p := by
  unfold spnam
  split
  · omega
  · rename_i h5
    have h1 := k.did p hp h5
    have h2 := k.near hp (by omega : 0 < g.d p)
    have h3 := k.rng p hp
    unfold sact at h h0
    omega
end
/-- Who has just done a line is one of those that did anything. -/
theorem sact_pos {n p : Nat} {g : SG} (hp : p < n) (h : 0 < g.d p) : 0 < sact n g := by
  have := scnt_ge (fun q => 0 < g.d q) n 1 (fun _ => p) (fun _ _ => ⟨hp, h⟩) (fun i j hi hj _ => by omega)
  exact this
end Go.Proofs.YthainkgpafbjcaaDoor
