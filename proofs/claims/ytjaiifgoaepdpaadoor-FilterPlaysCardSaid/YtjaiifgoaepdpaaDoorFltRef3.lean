/-
  The reference's step of the lock of several doors: it is fstep.
-/
import Derived.Test.YtjaiifgoaepdpaaDoorFltRef2
import Derived.Test.YtjaiifgoaepdpaaDoorRangeMap
namespace Go.Proofs.YtjaiifgoaepdpaaDoor.Filter
open Go.RowKit

/-- At which line each hand is; what each has of its own. -/
def lkLines (n : Nat) (s : LSt) : List Int := (List.range n).map fun p => ((s.a p : Nat) : Int)
def lkOwns (n : Nat) (s : LSt) : List (List Int) := (List.range n).map fun p => [((s.j p : Nat) : Int), ((s.k p : Nat) : Int)]
theorem cast_fup (f : Nat → Nat) (p z q : Nat) : ((fup f p z q : Nat) : Int) = if q = p then (z : Int) else ((f q : Nat) : Int) := by unfold fup; split <;> rfl
theorem words_setL {n : Nat} (s : LSt) {p : Nat} (hp : p < n) (z : Nat) : (lkWords n s).set p z = lkWords n { s with l := fup s.l p z } := by
  unfold lkWords
  rw [List.set_append_left _ _ (by simpa using hp)]
  rw [range_set _ (fun q => ((fup s.l p z q : Nat) : Int)) n p z (by rw [fup_same]) (fun q hq => by rw [fup_other hq])]
theorem words_setV {n : Nat} (s : LSt) {d e : Nat} (hd : n + d = e + 1) (h1 : 1 ≤ d) (z : Nat) : (lkWords n s).set e z = lkWords n { s with v := fup s.v d z } := by
  unfold lkWords
  rw [List.set_append_right _ _ (by simp; omega)]
  rw [range_set _ (fun q => ((fup s.v d z (q + 1) : Nat) : Int)) n (e - ((List.range n).map fun p => ((s.l p : Nat) : Int)).length) z (by rw [List.length_map, List.length_range, show e - n + 1 = d by omega, fup_same]) (fun q hq => by rw [List.length_map, List.length_range] at hq; rw [fup_other (by omega)])]
theorem lines_set {n : Nat} (s : LSt) {p : Nat} (z : Nat) : (lkLines n s).set p z = lkLines n { s with a := fup s.a p z } :=
  range_set _ _ n p _ (by dsimp only; rw [fup_same]) (fun q hq => by dsimp only; rw [fup_other hq])
theorem owns_set {n : Nat} (s : LSt) {p : Nat} (z y : Nat) : (lkOwns n s).set p [(z : Int), (y : Int)] = lkOwns n { s with j := fup s.j p z, k := fup s.k p y } :=
  range_set _ _ n p _ (by dsimp only; rw [fup_same, fup_same]) (fun q hq => by dsimp only; rw [fup_other hq, fup_other hq])
theorem fup_id {α : Type} (f : Nat → α) (p : Nat) : fup f p (f p) = f := by
  funext q; unfold fup; split
  · rename_i e; rw [e]
  · rfl
theorem words_lows {n : Nat} (s : LSt) {q : Nat} (hq : q < n) : (lkWords n s)[q]? = some ((s.l q : Nat) : Int) := by
  rw [lkWords, List.getElem?_append_left (by simpa using hq)]
  simp [hq]
theorem words_highs {n : Nat} (s : LSt) {d e : Nat} (hd : n + d = e + 1) (h1 : 1 ≤ d) (h2 : d ≤ n) : (lkWords n s)[e]? = some ((s.v d : Nat) : Int) := by
  rw [lkWords, List.getElem?_append_right (by simp; omega)]
  rw [List.length_map, List.length_range, range_get _ (by omega), show e - n + 1 = d by omega]
theorem words_len (n : Nat) (s : LSt) : (lkWords n s).length = 2 * n := by simp [lkWords]; omega

theorem ref_any {n : Nat} {s : LSt} (hok : lkOk n s) (hn : n ≤ 4) {p : Nat} (hp : p < n) (v : Value) (w : World) {P : Nat → Prop} (hP : ∀ b, P b → b < w.heap.size) (h : Mc w P n v (lkWords n s) (lkLines n s) (lkOwns n s)) :
    Calls Tryd.prog 8 #[v, .int .i64 p] w fun e w' => ∃ v', e = .returned v' ∧ Mc w' (New P w w') n v' (lkWords n (fstep n s p)) (lkLines n (fstep n s p)) (lkOwns n (fstep n s p)) ∧ Below w.heap.size w w' := by
  have hjr := hok.jr p hp
  have har := hok.ar p hp
  have hkr := hok.kr p hp
  have hwl := words_len n s
  have hll : (lkLines n s).length = n := by simp [lkLines]
  have hol : (lkOwns n s).length = n := by simp [lkOwns]
  have hl : (lkLines n s)[p]? = some ((s.a p : Nat) : Int) := range_get _ hp
  have ho : (lkOwns n s)[p]? = some [((s.j p : Nat) : Int), ((s.k p : Nat) : Int)] := range_get _ hp
  have hh : RefAt n p (lkWords n s) (lkLines n s) (lkOwns n s) := ⟨hn, hp, by omega, by omega, by omega, by omega⟩
  have hj : s.j p ≤ 100 := by omega
  have hpass : ∀ t : Int, (t = if (n : Int) ≤ ((s.j p + 1 : Nat) : Int) then 5 else 1) → (lkLines n s).set p t = lkLines n (fpass n s p) ∧ (lkOwns n s).set p [((s.j p + 1 : Nat) : Int), 0] = lkOwns n (fpass n s p) ∧ lkWords n (fpass n s p) = lkWords n s := by
    intro t ht
    have e : t = ((if n ≤ s.j p + 1 then 5 else 1 : Nat) : Int) := by rw [ht]; split <;> split <;> omega
    exact ⟨by rw [e, lines_set]; rfl, (owns_set s (s.j p + 1) 0).trans rfl, rfl⟩
  obtain h1 | h2 | h3 | h4 | h5 | h6 : s.a p = 1 ∨ s.a p = 2 ∨ s.a p = 3 ∨ s.a p = 4 ∨ s.a p = 5 ∨ s.a p = 6 := by omega
  · have e0 : fstep n s p = { s with l := fup s.l p (s.j p), a := fup s.a p 2 } := by simp [fstep, h1]
    rw [h1] at hl
    refine (ref1 n p (s.j p) (s.k p) v _ _ _ w hP h hh hl ho (by omega)).mono ?_
    rintro e w' ⟨v', rfl, hm, hb⟩
    refine ⟨v', rfl, ?_, hb⟩
    have := hm
    rw [words_setL s hp, show (2 : Int) = ((2 : Nat) : Int) from rfl, lines_set] at this
    rw [e0]
    exact this
  · have e0 : fstep n s p = { s with v := fup s.v (s.j p) (p + 1), a := fup s.a p 3 } := by simp [fstep, h2]
    rw [h2] at hl
    refine (ref2 n p (s.j p) (s.k p) (n + s.j p - 1) (p + 1) v _ _ _ w hP h hh hl ho hj (by omega) (by omega) rfl).mono ?_
    rintro e w' ⟨v', rfl, hm, hb⟩
    refine ⟨v', rfl, ?_, hb⟩
    have := hm
    rw [words_setV (n := n) s (e := n + s.j p - 1) (d := s.j p) (by omega) hjr.1, show (3 : Int) = ((3 : Nat) : Int) from rfl, lines_set] at this
    rw [e0]
    exact this
  · rw [h3] at hl
    have hx := words_highs (n := n) s (d := s.j p) (e := n + s.j p - 1) (by omega) hjr.1 (by omega)
    by_cases hv : s.v (s.j p) = p + 1
    · have e0 : fstep n s p = { s with a := fup s.a p 4 } := by simp [fstep, h3, hv]
      refine (ref3 n p (s.j p) (s.k p) (n + s.j p - 1) (p + 1) _ v _ _ _ w hP h hh hl ho hj (by omega) hx (by omega) rfl hv).mono ?_
      rintro e w' ⟨v', rfl, hm, hb⟩
      refine ⟨v', rfl, ?_, hb⟩
      have := hm
      rw [show (4 : Int) = ((4 : Nat) : Int) from rfl, lines_set] at this
      rw [e0]
      exact this
    · have e0 : fstep n s p = fpass n s p := by simp [fstep, h3, hv]
      refine (ref3p n p (s.j p) (s.k p) (n + s.j p - 1) (p + 1) _ v _ _ _ w hP h hh hl ho hj (by omega) hx (by omega) rfl hv _ rfl).mono ?_
      rintro e w' ⟨v', rfl, hm, hb⟩
      obtain ⟨q1, q2, q3⟩ := hpass _ rfl
      refine ⟨v', rfl, ?_, hb⟩
      rw [e0, q3, ← q1, ← q2]
      exact hm
  · rw [h4] at hl
    have e0 : fstep n s p = if s.k p ≠ p ∧ s.j p ≤ s.l (s.k p) then { s with k := fup s.k p 0, a := fup s.a p 3 } else if s.k p + 1 = n then fpass n s p else { s with k := fup s.k p (s.k p + 1) } := by
      simp [fstep, h4]
    have hx := words_lows s hkr.1
    have hks : (lkOwns n s).set p [((s.j p : Nat) : Int), ((s.k p + 1 : Nat) : Int)] = lkOwns n { s with k := fup s.k p (s.k p + 1) } := by
      rw [owns_set, fup_id]
    by_cases hkp : s.k p = p
    · rw [if_neg (fun h => h.1 hkp)] at e0
      by_cases hkn : s.k p + 1 = n
      · rw [if_pos hkn] at e0
        refine (ref4ep n p (s.j p) (s.k p) (s.k p + 1) v _ _ _ w hP h hh hl ho hkp hj (by omega) rfl hkn _ rfl).mono ?_
        rintro e w' ⟨v', rfl, hm, hb⟩
        obtain ⟨q1, q2, q3⟩ := hpass _ rfl
        refine ⟨v', rfl, ?_, hb⟩
        rw [e0, q3, ← q1, ← q2]
        exact hm
      · rw [if_neg hkn] at e0
        refine (ref4es n p (s.j p) (s.k p) (s.k p + 1) v _ _ _ w hP h hh hl ho hkp (by omega) rfl hkn).mono ?_
        rintro e w' ⟨v', rfl, hm, hb⟩
        refine ⟨v', rfl, ?_, hb⟩
        rw [e0, ← hks]
        exact hm
    · by_cases hb4 : s.j p ≤ s.l (s.k p)
      · rw [if_pos ⟨hkp, hb4⟩] at e0
        refine (ref4w n p (s.j p) (s.k p) _ v _ _ _ w hP h hh hl ho (by omega) hx hkp hb4).mono ?_
        rintro e w' ⟨v', rfl, hm, hb⟩
        refine ⟨v', rfl, ?_, hb⟩
        have := hm
        rw [show (3 : Int) = ((3 : Nat) : Int) from rfl, lines_set, show (0 : Int) = ((0 : Nat) : Int) from rfl, owns_set, fup_id] at this
        rw [e0]
        exact this
      · rw [if_neg (fun h => hb4 h.2)] at e0
        by_cases hkn : s.k p + 1 = n
        · rw [if_pos hkn] at e0
          refine (ref4np n p (s.j p) (s.k p) (s.k p + 1) _ v _ _ _ w hP h hh hl ho (by omega) hx hkp hb4 hj (by omega) rfl hkn _ rfl).mono ?_
          rintro e w' ⟨v', rfl, hm, hb⟩
          obtain ⟨q1, q2, q3⟩ := hpass _ rfl
          refine ⟨v', rfl, ?_, hb⟩
          rw [e0, q3, ← q1, ← q2]
          exact hm
        · rw [if_neg hkn] at e0
          refine (ref4ns n p (s.j p) (s.k p) (s.k p + 1) _ v _ _ _ w hP h hh hl ho (by omega) hx hkp hb4 (by omega) rfl hkn).mono ?_
          rintro e w' ⟨v', rfl, hm, hb⟩
          refine ⟨v', rfl, ?_, hb⟩
          rw [e0, ← hks]
          exact hm
  · have e0 : fstep n s p = { s with a := fup s.a p 6 } := by simp [fstep, h5]
    rw [h5] at hl
    refine (ref5 n p (s.j p) (s.k p) v _ _ _ w hP h hh hl ho).mono ?_
    rintro e w' ⟨v', rfl, hm, hb⟩
    refine ⟨v', rfl, ?_, hb⟩
    have := hm
    rw [show (6 : Int) = ((6 : Nat) : Int) from rfl, lines_set] at this
    rw [e0]
    exact this
  · have e0 : fstep n s p = { s with l := fup s.l p 0, j := fup s.j p 1, k := fup s.k p 0, a := fup s.a p 1 } := by simp [fstep, h6]
    rw [h6] at hl
    refine (ref6 n p (s.j p) (s.k p) v _ _ _ w hP h hh hl ho (by omega)).mono ?_
    rintro e w' ⟨v', rfl, hm, hb⟩
    refine ⟨v', rfl, ?_, hb⟩
    have := hm
    rw [show (0 : Int) = ((0 : Nat) : Int) from rfl, words_setL s hp, show (1 : Int) = ((1 : Nat) : Int) from rfl, lines_set, owns_set] at this
    rw [e0]
    exact this
end Go.Proofs.YtjaiifgoaepdpaaDoor.Filter
