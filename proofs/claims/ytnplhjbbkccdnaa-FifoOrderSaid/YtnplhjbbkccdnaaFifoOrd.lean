/-
  What the law FifoOrder writes down, and what of it is asked at the end: mathematics.
-/
import Derived.Test.YtnplhjbbkccdnaaFifoLkN
import Derived.Test.YtnplhjbbkccdnaaRounds
namespace Go.Proofs.Ytnplhjbbkccdnaa.Fif
open Go.RowKit

/-- Who put which value; what was got; who got it (any numbers). -/
structure OR (n : Nat) (s : FG) (vl : Nat → Int) (B G W : List Int) : Prop where
  ok : FOk n s
  k : s.v.k ≤ 40
  b : B = rowOf (s.v.k - 1) fun d => ((s.by' (d + 1) : Nat) : Int)
  g : G = rowOf s.i fun x => ((s.o (x + 1) : Nat) : Int) - 1
  w : W.length = s.i
  v : ∀ d, 1 ≤ d → d < s.v.k → vl d = (d : Int) - 1
theorem OR.new (n : Nat) : OR n fgnew (fun _ => 0) [] [] [] := ⟨fgnew_ok n, by decide, rfl, rfl, rfl, fun d h1 h2 => by have h2 : d < 1 := h2; omega⟩
section
variable {n : Nat} {s : FG} {vl : Nat → Int} {B G W : List Int}
theorem OR.lenB (r : OR n s vl B G W) : B.length = s.v.k - 1 := by rw [r.b, rowOf_len]
theorem OR.lenG (r : OR n s vl B G W) : G.length = s.i := by rw [r.g, rowOf_len]
theorem OR.i40 (r : OR n s vl B G W) : s.i < s.v.k := by
  have h1 := r.ok.ij
  have h2 := r.ok.jm
  have := pigeon s.v.k (s.i + 1) s.o (fun y hy => r.ok.ok y (by omega)) fun a b ha hb e => r.ok.oi a b (by omega) (by omega) e
  omega
theorem OR.get (r : OR n s vl B G W) (p : Nat) : OR n (fgget s p) vl B G W := ⟨r.ok.beginGet, r.k, r.b, r.g, r.w, r.v⟩
theorem OR.put (r : OR n s vl B G W) (p : Nat) (h4 : s.v.k < 40) : OR n (fgput s p) (rput vl s.v.k ((B.length : Nat) : Int)) (B ++ [(p : Int)]) G W := by
  have hk := r.ok.k1
  have hl := r.lenB
  refine ⟨r.ok.beginPut, by show s.v.k + 1 ≤ 40; omega, ?_, r.g, r.w, fun d h1 h2 => ?_⟩
  · rw [r.b]
    show _ = rowOf (s.v.k + 1 - 1) fun d => ((fput s.by' s.v.k p (d + 1) : Nat) : Int)
    rw [show s.v.k + 1 - 1 = s.v.k - 1 + 1 by omega]
    refine (rowOf_more (fun i hi => ?_) ?_).symm
    · rw [fput_other (by omega)]
    · rw [show s.v.k - 1 + 1 = s.v.k by omega, fput_same]
  · have h2 : d < s.v.k + 1 := h2
    by_cases e : d = s.v.k
    · rw [e, rput_same]; omega
    · rw [rput_other e]; exact r.v d h1 (by omega)
theorem OR.step (r : OR n s vl B G W) {p : Nat} (hp : p < n) (ha : (s.v.h p).a ≠ 0) :
    (∃ z, sfin s.v p = true ∧ stold s.v vl p = z ∧ 0 ≤ z ∧ ∀ x, OR n (fgstp s p) vl B (G ++ [z]) (W ++ [x])) ∨ (sfin s.v p = false ∨ stold s.v vl p = -1) ∧ OR n (fgstp s p) vl B G W := by
  have hok := r.ok.step hp ha
  have hij := r.ok.ij
  have hjm := r.ok.jm
  have ho : ∀ y, y ≤ s.i → (fgstp s p).o y = s.o y := fun y hy => by
    unfold fgstp
    dsimp only
    split
    · exact fput_other (by omega)
    · rfl
  by_cases h : (s.v.h p).a = 10 ∧ s.v.hd = (s.v.h p).h
  · obtain ⟨h1, h2⟩ := r.ok.got hp h.1 h.2
    have h0 : s.o (s.i + 1) ≠ 0 := fun e => by
      have := r.ok.oi (s.i + 1) 0 h1 (Nat.zero_le _) (by rw [e, r.ok.o0])
      omega
    have hz : stold s.v vl p = ((s.o (s.i + 1) : Nat) : Int) - 1 := by
      have hf : sfin s.v p = true := by unfold sfin; rw [if_neg (by omega), if_neg (by omega), if_pos h.1]; exact decide_eq_true h.2
      unfold stold; rw [if_pos hf, if_pos h.1, h2, Nat.add_sub_cancel]
      exact r.v _ (by omega) (r.ok.ok _ h1)
    have hi : (fgstp s p).i = s.i + 1 := if_pos h
    have ho' : (fgstp s p).o = s.o := by unfold fgstp; dsimp only; rw [if_neg fun e => by omega]
    refine .inl ⟨_, ?_, hz, by omega, fun x => ⟨hok, r.k, r.b, ?_, ?_, r.v⟩⟩
    · unfold sfin; rw [if_neg (by omega), if_neg (by omega), if_pos h.1]; exact decide_eq_true h.2
    · rw [r.g, hi, ho']
      exact (rowOf_more (fun i hi => rfl) rfl).symm
    · rw [hi, List.length_append, r.w]; rfl
  · have hi : (fgstp s p).i = s.i := if_neg h
    refine .inr ⟨?_, ⟨hok, r.k, r.b, ?_, by rw [hi]; exact r.w, r.v⟩⟩
    · unfold stold
      cases hf : sfin s.v p with
      | false => exact .inl rfl
      | true =>
        refine .inr ?_
        rw [if_pos rfl]
        by_cases h10 : (s.v.h p).a = 10
        · unfold sfin at hf
          rw [if_neg (by omega), if_neg (by omega), if_pos h10] at hf
          exact absurd ⟨h10, of_decide_eq_true hf⟩ h
        · rw [if_neg h10]
    · rw [r.g, hi]
      exact (rowOf_congr fun i hi => by rw [ho (i + 1) (by omega)]).symm
/-- What is asked at the end. -/
structure Ord (B G W : List Int) : Prop where
  w : W.length = G.length
  b40 : B.length ≤ 40
  g40 : G.length ≤ 40
  in' : ∀ (x : Nat) (z : Int), G[x]? = some z → ∃ d : Nat, z = (d : Int) ∧ d < B.length
  two : ∀ (x y a b : Nat), y < x → G[x]? = some (a : Int) → G[y]? = some (b : Int) → a ≠ b ∧ (B[a]? = B[b]? → b < a)
theorem OR.fin (r : OR n s vl B G W) : Ord B G W := by
  have hk := r.ok.k1
  have hl := r.lenB
  have hij := r.ok.ij
  have hjm := r.ok.jm
  have h0 : ∀ y, 1 ≤ y → y ≤ s.m → 1 ≤ s.o y := fun y h1 h2 => by
    rcases Nat.eq_zero_or_pos (s.o y) with e | e
    · have := r.ok.oi y 0 h2 (Nat.zero_le _) (by rw [e, r.ok.o0]); omega
    · exact e
  have hg : ∀ (x : Nat) (z : Int), G[x]? = some z → x < s.i ∧ z = ((s.o (x + 1) : Nat) : Int) - 1 := fun x z hx => by
    have hx1 := (List.getElem?_eq_some_iff.1 hx).1
    rw [r.lenG] at hx1
    rw [r.g, rowOf_get hx1] at hx
    exact ⟨hx1, (Option.some.inj hx).symm⟩
  have hi := r.i40
  refine ⟨by rw [r.w, r.lenG], by have := r.k; omega, by rw [r.lenG]; have := r.k; omega, fun x z hx => ?_, fun x y a b hxy hx hy => ?_⟩
  · obtain ⟨h1, h2⟩ := hg x z hx
    have h3 := h0 (x + 1) (by omega) (by omega)
    have h4 := r.ok.ok (x + 1) (by omega)
    exact ⟨s.o (x + 1) - 1, by omega, by omega⟩
  · obtain ⟨h1, h2⟩ := hg x a hx
    obtain ⟨h3, h4⟩ := hg y b hy
    have p1 := h0 (x + 1) (by omega) (by omega)
    have p2 := h0 (y + 1) (by omega) (by omega)
    have q1 := r.ok.ok (x + 1) (by omega)
    have q2 := r.ok.ok (y + 1) (by omega)
    refine ⟨fun e => ?_, fun e => ?_⟩
    · have := r.ok.oi (x + 1) (y + 1) (by omega) (by omega) (by omega)
      omega
    · rw [r.b, rowOf_get (by omega), rowOf_get (by omega)] at e
      have e2 := Option.some.inj e
      rw [show a + 1 = s.o (x + 1) by omega, show b + 1 = s.o (y + 1) by omega] at e2
      have := r.ok.sb (y + 1) (x + 1) (by omega) (by omega) (by omega) (by omega)
      omega
end
end Go.Proofs.Ytnplhjbbkccdnaa.Fif
