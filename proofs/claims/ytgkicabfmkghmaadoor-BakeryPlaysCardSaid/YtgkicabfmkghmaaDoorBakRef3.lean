/-
  The reference's step of the lock for which one takes a number: it is bstep.
-/
import Derived.Test.YtgkicabfmkghmaaDoorBakRef2
import Derived.Test.YtgkicabfmkghmaaDoorRangeMap
namespace Go.Proofs.YtgkicabfmkghmaaDoor.Bakery
open Go.RowKit

/-- At which line each hand is; what each has of its own. -/
def lkLines (n : Nat) (s : LSt) : List Int := (List.range n).map fun p => (((s p).a : Nat) : Int)
def lkOwns (n : Nat) (s : LSt) : List (List Int) := (List.range n).map fun p => [(((s p).k : Nat) : Int), (((s p).m : Nat) : Int)]
theorem set_same {α : Type} {l : List α} {i : Nat} {z : α} (h : l[i]? = some z) : l.set i z = l := by
  apply List.ext_getElem?
  intro j
  by_cases e : i = j
  · subst e; rw [List.getElem?_set_self (List.getElem?_eq_some_iff.1 h).1, h]
  · rw [List.getElem?_set_ne e]
theorem lines_step (n : Nat) (s : LSt) (p : Nat) : lkLines n (bstep n s p) = (lkLines n s).set p (((bone n s p).a : Nat) : Int) :=
  (range_set _ _ n p _ (by rw [bstep, bup_same]) (fun q hq => by rw [bstep, bup_other hq])).symm
theorem owns_step (n : Nat) (s : LSt) (p : Nat) : lkOwns n (bstep n s p) = (lkOwns n s).set p [(((bone n s p).k : Nat) : Int), (((bone n s p).m : Nat) : Int)] :=
  (range_set _ _ n p _ (by rw [bstep, bup_same]) (fun q hq => by rw [bstep, bup_other hq])).symm
theorem words_step {n : Nat} (s : LSt) {p : Nat} (hp : p < n) : lkWords n (bstep n s p) = ((lkWords n s).set p (((bone n s p).c : Nat) : Int)).set (n + p) (((bone n s p).w : Nat) : Int) := by
  unfold lkWords
  rw [List.set_append_left _ _ (by simpa using hp), range_set _ (fun q => (((bstep n s p q).c : Nat) : Int)) n p _ (by rw [bstep, bup_same]) (fun q hq => by rw [bstep, bup_other hq]),
    List.set_append_right _ _ (by simp), show n + p - ((List.range n).map fun q => (((bstep n s p q).c : Nat) : Int)).length = p by simp,
    range_set _ (fun q => (((bstep n s p q).w : Nat) : Int)) n p _ (by rw [bstep, bup_same]) (fun q hq => by rw [bstep, bup_other hq])]

theorem ref_any {n A : Nat} {s : LSt} (hok : lkOk n s) (hn : n ≤ 4) (hf : lkFit n s A) (hA : A ≤ 100000) {p : Nat} (hp : p < n) (v : Value) (w : World) {P : Nat → Prop} (hP : ∀ b, P b → b < w.heap.size) (h : Mc w P n v (lkWords n s) (lkLines n s) (lkOwns n s)) :
    Calls Tryd.prog 9 #[v, .int .i64 p] w fun e w' => ∃ v', e = .returned v' ∧ Mc w' (New P w w') n v' (lkWords n (bstep n s p)) (lkLines n (bstep n s p)) (lkOwns n (bstep n s p)) ∧ Below w.heap.size w w' := by
  have hloc := hok.loc p hp
  unfold BLoc at hloc
  have hwl := lkWords_len n s
  have hll : (lkLines n s).length = n := by simp [lkLines]
  have hol : (lkOwns n s).length = n := by simp [lkOwns]
  have hl : (lkLines n s)[p]? = some (((s p).a : Nat) : Int) := range_get _ hp
  have ho : (lkOwns n s)[p]? = some [(((s p).k : Nat) : Int), (((s p).m : Nat) : Int)] := range_get _ hp
  have hh : RefAt n p (lkWords n s) (lkLines n s) (lkOwns n s) := ⟨hn, hp, by omega, by omega, by omega, by omega⟩
  have hm := (hf p hp).2
  have hwc := lkWords_low s hp
  have hww := lkWords_high s hp
  have hws : ((lkWords n s).set p (((s p).c : Nat) : Int)).set (n + p) (((s p).w : Nat) : Int) = lkWords n s := by rw [set_same hwc, set_same hww]
  have hwN : ∀ z : Int, (n + p = p → False) := fun z => by omega
  have hcomm : ∀ x y : Int, ((lkWords n s).set p x).set (n + p) y = ((lkWords n s).set (n + p) y).set p x := fun x y => List.set_comm _ _ (by omega)
  have key : ∀ (ws : List Int) (ls : List Int) (os : List (List Int)), ws = ((lkWords n s).set p (((bone n s p).c : Nat) : Int)).set (n + p) (((bone n s p).w : Nat) : Int) → ls = (lkLines n s).set p (((bone n s p).a : Nat) : Int) → os = (lkOwns n s).set p [(((bone n s p).k : Nat) : Int), (((bone n s p).m : Nat) : Int)] →
      Calls Tryd.prog 9 #[v, .int .i64 p] w (fun e w' => ∃ v', e = .returned v' ∧ Mc w' (New P w w') n v' ws ls os ∧ Below w.heap.size w w') →
      Calls Tryd.prog 9 #[v, .int .i64 p] w fun e w' => ∃ v', e = .returned v' ∧ Mc w' (New P w w') n v' (lkWords n (bstep n s p)) (lkLines n (bstep n s p)) (lkOwns n (bstep n s p)) ∧ Below w.heap.size w w' := by
    intro ws ls os e1 e2 e3 hc
    rw [words_step s hp, lines_step, owns_step, ← e1, ← e2, ← e3]
    exact hc
  obtain a1 | a2 | a3 | a4 | a5 | a6 | a7 | a8 : (s p).a = 1 ∨ (s p).a = 2 ∨ (s p).a = 3 ∨ (s p).a = 4 ∨ (s p).a = 5 ∨ (s p).a = 6 ∨ (s p).a = 7 ∨ (s p).a = 8 := by omega
  · have e : bone n s p = ⟨2, 0, 0, 1, (s p).w⟩ := by simp [bone, a1]
    rw [a1] at hl
    refine key _ _ _ ?_ ?_ ?_ (ref1 n p (s p).k (s p).m v _ _ _ w hP h hh hl ho (by omega))
    · rw [e, hcomm, set_same hww]; rfl
    · rw [e]; rfl
    · rw [e]; rfl
  · have hkn := hloc.2.2.1 (Or.inl a2)
    have hx := lkWords_high s hkn
    have e : bone n s p = ⟨if (s p).k + 1 = n then 3 else 2, (s p).k + 1, if (s p).m < (s (s p).k).w then (s (s p).k).w else (s p).m, (s p).c, (s p).w⟩ := by simp [bone, a2]
    rw [a2] at hl
    by_cases hb : (s p).m < (s (s p).k).w
    · by_cases hk : (s p).k + 1 = n
      · rw [if_pos hb, if_pos hk] at e
        refine key _ _ _ ?_ ?_ ?_ (ref2gn n p (s p).k (s p).m (n + (s p).k) ((s p).k + 1) _ v _ _ _ w hP h hh hl ho (by omega) rfl rfl hx (by omega) hk hb)
        · rw [e, hws]
        · rw [e]; rfl
        · rw [e]
      · rw [if_pos hb, if_neg hk] at e
        refine key _ _ _ ?_ ?_ ?_ (ref2gs n p (s p).k (s p).m (n + (s p).k) ((s p).k + 1) _ v _ _ _ w hP h hh hl ho (by omega) rfl rfl hx (by omega) hk hb)
        · rw [e, hws]
        · rw [e]; rfl
        · rw [e]
    · by_cases hk : (s p).k + 1 = n
      · rw [if_neg hb, if_pos hk] at e
        refine key _ _ _ ?_ ?_ ?_ (ref2sn n p (s p).k (s p).m (n + (s p).k) ((s p).k + 1) _ v _ _ _ w hP h hh hl ho (by omega) rfl rfl hx (by omega) hk hb)
        · rw [e, hws]
        · rw [e]; rfl
        · rw [e]
      · rw [if_neg hb, if_neg hk] at e
        refine key _ _ _ ?_ ?_ ?_ (ref2ss n p (s p).k (s p).m (n + (s p).k) ((s p).k + 1) _ v _ _ _ w hP h hh hl ho (by omega) rfl rfl hx (by omega) hk hb)
        · rw [e, hws]
        · rw [e]; rfl
        · rw [e]
  · have e : bone n s p = ⟨4, (s p).k, (s p).m, (s p).c, (s p).m + 1⟩ := by simp [bone, a3]
    rw [a3] at hl
    refine key _ _ _ ?_ ?_ ?_ (ref3 n p (s p).k (s p).m (n + p) ((s p).m + 1) v _ _ _ w hP h hh hl ho (by omega) rfl rfl (by omega))
    · rw [e, hcomm, set_same (i := p) (by rw [List.getElem?_set_ne (by omega)]; exact hwc)]
    · rw [e]; rfl
    · rw [e, set_same ho]
  · have e : bone n s p = ⟨5, 0, (s p).m, 0, (s p).w⟩ := by simp [bone, a4]
    rw [a4] at hl
    refine key _ _ _ ?_ ?_ ?_ (ref4 n p (s p).k (s p).m v _ _ _ w hP h hh hl ho (by omega))
    · rw [e, hcomm, set_same hww]; rfl
    · rw [e]; rfl
    · rw [e]; rfl
  · have hkn := hloc.2.2.1 (Or.inr (Or.inl a5))
    have hx := lkWords_low s hkn
    rw [a5] at hl
    by_cases hc : (s (s p).k).c = 0
    · have e : bone n s p = ⟨6, (s p).k, (s p).m, (s p).c, (s p).w⟩ := by simp [bone, a5, hc]
      refine key _ _ _ ?_ ?_ ?_ (ref5g n p (s p).k (s p).m _ v _ _ _ w hP h hh hl ho (by omega) hx hc)
      · rw [e, hws]
      · rw [e]; rfl
      · rw [e, set_same ho]
    · have e : bone n s p = ⟨5, (s p).k, (s p).m, (s p).c, (s p).w⟩ := by simp [bone, a5, hc]; exact (bh_at a5).symm
      refine key _ _ _ ?_ ?_ ?_ (ref5s n p (s p).k (s p).m _ v _ _ _ w hP h hh hl ho (by omega) hx hc)
      · rw [e, hws]
      · rw [e]; rfl
      · rw [e, set_same ho]
  · have hkn := hloc.2.2.1 (Or.inr (Or.inr a6))
    have hx := lkWords_high s hkn
    rw [a6] at hl
    by_cases hb : BBehind p (s p).k (s p) (s (s p).k)
    · have e : bone n s p = ⟨if (s p).k + 1 = n then 7 else 5, (s p).k + 1, (s p).m, (s p).c, (s p).w⟩ := by simp [bone, a6, hb]
      unfold BBehind at hb
      by_cases hk : (s p).k + 1 = n
      · rw [if_pos hk] at e
        by_cases c0 : (s (s p).k).w = 0
        · refine key _ _ _ ?_ ?_ ?_ (ref6an n p (s p).k (s p).m (n + (s p).k) (n + p) ((s p).k + 1) _ _ v _ _ _ w hP h hh hl ho (by omega) rfl rfl hx hww (by omega) (by omega) rfl c0 hk)
          · rw [e, hws]
          · rw [e]; rfl
          · rw [e]
        · by_cases c1 : (s p).w < (s (s p).k).w
          · refine key _ _ _ ?_ ?_ ?_ (ref6bn n p (s p).k (s p).m (n + (s p).k) (n + p) ((s p).k + 1) _ _ v _ _ _ w hP h hh hl ho (by omega) rfl rfl hx hww (by omega) (by omega) rfl c0 c1 hk)
            · rw [e, hws]
            · rw [e]; rfl
            · rw [e]
          · refine key _ _ _ ?_ ?_ ?_ (ref6cn n p (s p).k (s p).m (n + (s p).k) (n + p) ((s p).k + 1) _ _ v _ _ _ w hP h hh hl ho (by omega) rfl rfl hx hww (by omega) (by omega) rfl c0 (by omega) (by omega) hk)
            · rw [e, hws]
            · rw [e]; rfl
            · rw [e]
      · rw [if_neg hk] at e
        by_cases c0 : (s (s p).k).w = 0
        · refine key _ _ _ ?_ ?_ ?_ (ref6as n p (s p).k (s p).m (n + (s p).k) (n + p) ((s p).k + 1) _ _ v _ _ _ w hP h hh hl ho (by omega) rfl rfl hx hww (by omega) (by omega) rfl c0 hk)
          · rw [e, hws]
          · rw [e]; rfl
          · rw [e]
        · by_cases c1 : (s p).w < (s (s p).k).w
          · refine key _ _ _ ?_ ?_ ?_ (ref6bs n p (s p).k (s p).m (n + (s p).k) (n + p) ((s p).k + 1) _ _ v _ _ _ w hP h hh hl ho (by omega) rfl rfl hx hww (by omega) (by omega) rfl c0 c1 hk)
            · rw [e, hws]
            · rw [e]; rfl
            · rw [e]
          · refine key _ _ _ ?_ ?_ ?_ (ref6cs n p (s p).k (s p).m (n + (s p).k) (n + p) ((s p).k + 1) _ _ v _ _ _ w hP h hh hl ho (by omega) rfl rfl hx hww (by omega) (by omega) rfl c0 (by omega) (by omega) hk)
            · rw [e, hws]
            · rw [e]; rfl
            · rw [e]
    · have e : bone n s p = ⟨6, (s p).k, (s p).m, (s p).c, (s p).w⟩ := by simp [bone, a6, hb]; exact (bh_at a6).symm
      unfold BBehind at hb
      by_cases c1 : (s (s p).k).w < (s p).w
      · refine key _ _ _ ?_ ?_ ?_ (ref6d n p (s p).k (s p).m (n + (s p).k) (n + p) _ _ v _ _ _ w hP h hh hl ho (by omega) rfl rfl hx hww (by omega) (by omega) (by omega) c1)
        · rw [e, hws]
        · rw [e, set_same hl]
        · rw [e, set_same ho]
      · refine key _ _ _ ?_ ?_ ?_ (ref6e n p (s p).k (s p).m (n + (s p).k) (n + p) _ _ v _ _ _ w hP h hh hl ho (by omega) rfl rfl hx hww (by omega) (by omega) (by omega) (by omega) (by omega))
        · rw [e, hws]
        · rw [e, set_same hl]
        · rw [e, set_same ho]
  · have e : bone n s p = ⟨8, (s p).k, (s p).m, (s p).c, (s p).w⟩ := by simp [bone, a7]
    rw [a7] at hl
    refine key _ _ _ ?_ ?_ ?_ (ref7 n p (s p).k (s p).m v _ _ _ w hP h hh hl ho)
    · rw [e, hws]
    · rw [e]; rfl
    · rw [e, set_same ho]
  · have e : bone n s p = ⟨1, 0, 0, (s p).c, 0⟩ := by simp [bone, a8]
    rw [a8] at hl
    refine key _ _ _ ?_ ?_ ?_ (ref8 n p (s p).k (s p).m (n + p) v _ _ _ w hP h hh hl ho rfl (by omega))
    · rw [e, set_same hwc]; rfl
    · rw [e]; rfl
    · rw [e]; rfl
theorem lkRef_any {n A : Nat} {s : LSt} (hok : lkOk n s) (hn : n ≤ 4) (hf : lkFit n s A) (hA : A ≤ 100000) {p : Nat} (hp : p < n) (v : Value) (w : World) {P : Nat → Prop} (hP : ∀ b, P b → b < w.heap.size) (h : Mc w P n v (lkWords n s) (lkLines n s) (lkOwns n s)) :
    Calls Tryd.prog 9 #[v, .int .i64 p] w fun e w' => ∃ v', e = .returned v' ∧ Mc w' (New P w w') n v' (lkWords n (bstep n s p)) (lkLines n (bstep n s p)) (lkOwns n (bstep n s p)) ∧ Below w.heap.size w w' := ref_any hok hn hf hA hp v w hP h
end Go.Proofs.YtgkicabfmkghmaaDoor.Bakery
