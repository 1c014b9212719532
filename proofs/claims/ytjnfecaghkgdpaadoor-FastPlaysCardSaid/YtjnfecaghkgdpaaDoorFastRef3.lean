/-
  The reference's step of the lock that who is alone has soon: it is vstep.
-/
import Derived.Test.YtjnfecaghkgdpaaDoorFastRef2
import Derived.Test.YtjnfecaghkgdpaaDoorRangeMap
namespace Go.Proofs.YtjnfecaghkgdpaaDoor.Fast
open Go.RowKit

/-- At which line each hand is; what each has of its own. -/
def lkLines (n : Nat) (s : LSt) : List Int := (List.range n).map fun p => (((s.s p).a : Nat) : Int)
def lkOwns (n : Nat) (s : LSt) : List (List Int) := (List.range n).map fun p => [(((s.s p).k : Nat) : Int)]
theorem set_same {α : Type} {l : List α} {i : Nat} {z : α} (h : l[i]? = some z) : l.set i z = l := by
  apply List.ext_getElem?
  intro j
  by_cases e : i = j
  · subst e; rw [List.getElem?_set_self (List.getElem?_eq_some_iff.1 h).1, h]
  · rw [List.getElem?_set_ne e]
theorem vstep_oth {n : Nat} {s : LSt} {p q : Nat} (h : q ≠ p) : (vstep n s p).s q = s.s q := vup_other h
theorem vstep_own (n : Nat) (s : LSt) (p : Nat) : (vstep n s p).s p = vone n s p := vup_same _ _ _
theorem lines_step (n : Nat) (s : LSt) (p : Nat) : lkLines n (vstep n s p) = (lkLines n s).set p (((vone n s p).a : Nat) : Int) :=
  (range_set _ _ n p _ (by rw [vstep_own]) (fun q hq => by rw [vstep_oth hq])).symm
theorem owns_step (n : Nat) (s : LSt) (p : Nat) : lkOwns n (vstep n s p) = (lkOwns n s).set p [(((vone n s p).k : Nat) : Int)] :=
  (range_set _ _ n p _ (by rw [vstep_own]) (fun q hq => by rw [vstep_oth hq])).symm
theorem marks_same {n : Nat} {s : LSt} {p : Nat} (hb : (vone n s p).b = (s.s p).b) : (List.range n).map (fun q => ((((vstep n s p).s q).b : Nat) : Int)) = (List.range n).map fun q => (((s.s q).b : Nat) : Int) := by
  refine List.map_congr_left fun q _ => ?_
  by_cases e : q = p
  · subst e; rw [vstep_own, hb]
  · rw [vstep_oth e]
/-- What the words are: nothing turned; X, Y, B of a hand. -/
theorem words_S {n : Nat} {s : LSt} {p : Nat} (hX : vX s p = s.X) (hY : vY s p = s.Y) (hb : (vone n s p).b = (s.s p).b) : lkWords n s = lkWords n (vstep n s p) := by
  unfold lkWords
  rw [marks_same hb, show (vstep n s p).X = vX s p from rfl, show (vstep n s p).Y = vY s p from rfl, hX, hY]
theorem words_X {n : Nat} {s : LSt} {p z : Nat} (hX : vX s p = z) (hY : vY s p = s.Y) (hb : (vone n s p).b = (s.s p).b) : (lkWords n s).set 0 (z : Int) = lkWords n (vstep n s p) := by
  unfold lkWords
  rw [marks_same hb, show (vstep n s p).X = vX s p from rfl, show (vstep n s p).Y = vY s p from rfl, hX, hY]; rfl
theorem words_Y {n : Nat} {s : LSt} {p z : Nat} (hX : vX s p = s.X) (hY : vY s p = z) (hb : (vone n s p).b = (s.s p).b) : (lkWords n s).set 1 (z : Int) = lkWords n (vstep n s p) := by
  unfold lkWords
  rw [marks_same hb, show (vstep n s p).X = vX s p from rfl, show (vstep n s p).Y = vY s p from rfl, hX, hY]; rfl
theorem words_B {n : Nat} {s : LSt} {p z : Nat} (hX : vX s p = s.X) (hY : vY s p = s.Y) (hb : (vone n s p).b = z) : (lkWords n s).set (2 + p) (z : Int) = lkWords n (vstep n s p) := by
  unfold lkWords
  rw [show (vstep n s p).X = vX s p from rfl, show (vstep n s p).Y = vY s p from rfl, hX, hY, show 2 + p = p + 1 + 1 by omega, List.set_cons_succ, List.set_cons_succ,
    range_set _ (fun q => ((((vstep n s p).s q).b : Nat) : Int)) n p _ (by rw [vstep_own, hb]) (fun q hq => by rw [vstep_oth hq])]

set_option maxHeartbeats 2000000 in
theorem ref_any {n A : Nat} {s : LSt} (hok : lkOk n s) (hn : n ≤ 4) (_hf : lkFit n s A) (_hA : A ≤ 100000) {p : Nat} (hp : p < n) (v : Value) (w : World) {P : Nat → Prop} (hP : ∀ b, P b → b < w.heap.size) (h : Mc w P n v (lkWords n s) (lkLines n s) (lkOwns n s)) :
    Calls Tryd.prog 9 #[v, .int .i64 p] w fun e w' => ∃ v', e = .returned v' ∧ Mc w' (New P w w') n v' (lkWords n (vstep n s p)) (lkLines n (vstep n s p)) (lkOwns n (vstep n s p)) ∧ Below w.heap.size w w' := by
  have hwl := lkWords_len n s
  have hll : (lkLines n s).length = n := by simp [lkLines]
  have hol : (lkOwns n s).length = n := by simp [lkOwns]
  have hl : (lkLines n s)[p]? = some (((s.s p).a : Nat) : Int) := range_get _ hp
  have ho : (lkOwns n s)[p]? = some [(((s.s p).k : Nat) : Int)] := range_get _ hp
  have hh : RefAt n p (lkWords n s) (lkLines n s) (lkOwns n s) := ⟨hn, hp, by omega, by omega, by omega, by omega⟩
  have hX : (lkWords n s)[0]? = some ((s.X : Nat) : Int) := rfl
  have hY : (lkWords n s)[1]? = some ((s.Y : Nat) : Int) := rfl
  have h2 : 1 < (lkWords n s).length := by omega
  have key : ∀ (ws : List Int) (ls : List Int) (os : List (List Int)), ws = lkWords n (vstep n s p) → ls = (lkLines n s).set p (((vone n s p).a : Nat) : Int) → os = (lkOwns n s).set p [(((vone n s p).k : Nat) : Int)] →
      Calls Tryd.prog 9 #[v, .int .i64 p] w (fun e w' => ∃ v', e = .returned v' ∧ Mc w' (New P w w') n v' ws ls os ∧ Below w.heap.size w w') →
      Calls Tryd.prog 9 #[v, .int .i64 p] w fun e w' => ∃ v', e = .returned v' ∧ Mc w' (New P w w') n v' (lkWords n (vstep n s p)) (lkLines n (vstep n s p)) (lkOwns n (vstep n s p)) ∧ Below w.heap.size w w' := by
    intro ws ls os e1 e2 e3 hc
    rw [lines_step, owns_step, ← e1, ← e2, ← e3]
    exact hc
  obtain ⟨hline, hb1, hb0, hk9, _⟩ := VOk.loc hok p hp
  obtain a1 | a2 | a3 | a4 | a5 | a6 | a7 | a8 | a9 | a10 | a11 | a12 | a13 | a14 : (s.s p).a = 1 ∨ (s.s p).a = 2 ∨ (s.s p).a = 3 ∨ (s.s p).a = 4 ∨ (s.s p).a = 5 ∨ (s.s p).a = 6 ∨ (s.s p).a = 7 ∨ (s.s p).a = 8 ∨ (s.s p).a = 9 ∨ (s.s p).a = 10 ∨ (s.s p).a = 11 ∨ (s.s p).a = 12 ∨ (s.s p).a = 13 ∨ (s.s p).a = 14 := by omega
  · rw [a1] at hl
    have e : vone n s p = ⟨2, (s.s p).k, 1⟩ := by simp [vone, a1]
    have eX : vX s p = s.X := by simp [vX, a1]
    have eY : vY s p = s.Y := by simp [vY, a1]
    refine key _ _ _ ?_ ?_ ?_ (ref1 n p (s.s p).k (2 + p) v _ _ _ w hP h hh hl ho rfl (by omega))
    · exact words_B eX eY (by rw [e])
    · rw [e]; rfl
    · rw [e]; exact (set_same ho).symm
  · rw [a2] at hl
    have e : vone n s p = ⟨3, (s.s p).k, (s.s p).b⟩ := by simp [vone, a2]
    have eX : vX s p = p + 1 := by simp [vX, a2]
    have eY : vY s p = s.Y := by simp [vY, a2]
    refine key _ _ _ ?_ ?_ ?_ (ref2 n p (s.s p).k (p + 1) v _ _ _ w hP h hh hl ho rfl)
    · exact words_X eX eY (by rw [e])
    · rw [e]; rfl
    · rw [e]; exact (set_same ho).symm
  · rw [a3] at hl
    by_cases hb : s.Y = 0
    · have e : vone n s p = ⟨6, (s.s p).k, (s.s p).b⟩ := by simp [vone, a3, hb]
      have eX : vX s p = s.X := by simp [vX, a3]
      have eY : vY s p = s.Y := by simp [vY, a3]
      refine key _ _ _ ?_ ?_ ?_ (ref3s n p (s.s p).k s.Y v _ _ _ w hP h hh hl ho hY h2 hb)
      · exact words_S eX eY (by rw [e])
      · rw [e]; rfl
      · rw [e]; exact (set_same ho).symm
    · have e : vone n s p = ⟨4, (s.s p).k, (s.s p).b⟩ := by simp [vone, a3, hb]
      have eX : vX s p = s.X := by simp [vX, a3]
      have eY : vY s p = s.Y := by simp [vY, a3]
      refine key _ _ _ ?_ ?_ ?_ (ref3g n p (s.s p).k s.Y v _ _ _ w hP h hh hl ho hY h2 hb)
      · exact words_S eX eY (by rw [e])
      · rw [e]; rfl
      · rw [e]; exact (set_same ho).symm
  · rw [a4] at hl
    have e : vone n s p = ⟨5, (s.s p).k, 0⟩ := by simp [vone, a4]
    have eX : vX s p = s.X := by simp [vX, a4]
    have eY : vY s p = s.Y := by simp [vY, a4]
    refine key _ _ _ ?_ ?_ ?_ (ref4 n p (s.s p).k (2 + p) v _ _ _ w hP h hh hl ho rfl (by omega))
    · exact words_B eX eY (by rw [e])
    · rw [e]; rfl
    · rw [e]; exact (set_same ho).symm
  · rw [a5] at hl
    by_cases hb : s.Y = 0
    · have e : vone n s p = ⟨1, (s.s p).k, (s.s p).b⟩ := by simp [vone, a5, hb]
      have eX : vX s p = s.X := by simp [vX, a5]
      have eY : vY s p = s.Y := by simp [vY, a5]
      refine key _ _ _ ?_ ?_ ?_ (ref5g n p (s.s p).k s.Y v _ _ _ w hP h hh hl ho hY h2 hb)
      · exact words_S eX eY (by rw [e])
      · rw [e]; rfl
      · rw [e]; exact (set_same ho).symm
    · have e : vone n s p = ⟨5, (s.s p).k, (s.s p).b⟩ := by simp [vone, a5, hb]
      have eX : vX s p = s.X := by simp [vX, a5]
      have eY : vY s p = s.Y := by simp [vY, a5]
      refine key _ _ _ ?_ ?_ ?_ (ref5s n p (s.s p).k s.Y v _ _ _ w hP h hh hl ho hY h2 hb)
      · exact words_S eX eY (by rw [e])
      · rw [e]; exact (set_same hl).symm
      · rw [e]; exact (set_same ho).symm
  · rw [a6] at hl
    have e : vone n s p = ⟨7, (s.s p).k, (s.s p).b⟩ := by simp [vone, a6]
    have eX : vX s p = s.X := by simp [vX, a6]
    have eY : vY s p = p + 1 := by simp [vY, a6]
    refine key _ _ _ ?_ ?_ ?_ (ref6 n p (s.s p).k (p + 1) v _ _ _ w hP h hh hl ho rfl h2)
    · exact words_Y eX eY (by rw [e])
    · rw [e]; rfl
    · rw [e]; exact (set_same ho).symm
  · rw [a7] at hl
    by_cases hb : s.X = p + 1
    · have e : vone n s p = ⟨12, (s.s p).k, (s.s p).b⟩ := by simp [vone, a7, hb]
      have eX : vX s p = s.X := by simp [vX, a7]
      have eY : vY s p = s.Y := by simp [vY, a7]
      refine key _ _ _ ?_ ?_ ?_ (ref7s n p (s.s p).k s.X (p + 1) v _ _ _ w hP h hh hl ho hX rfl hb)
      · exact words_S eX eY (by rw [e])
      · rw [e]; rfl
      · rw [e]; exact (set_same ho).symm
    · have e : vone n s p = ⟨8, (s.s p).k, (s.s p).b⟩ := by simp [vone, a7, hb]
      have eX : vX s p = s.X := by simp [vX, a7]
      have eY : vY s p = s.Y := by simp [vY, a7]
      refine key _ _ _ ?_ ?_ ?_ (ref7g n p (s.s p).k s.X (p + 1) v _ _ _ w hP h hh hl ho hX rfl hb)
      · exact words_S eX eY (by rw [e])
      · rw [e]; rfl
      · rw [e]; exact (set_same ho).symm
  · rw [a8] at hl
    have e : vone n s p = ⟨9, 0, 0⟩ := by simp [vone, a8]
    have eX : vX s p = s.X := by simp [vX, a8]
    have eY : vY s p = s.Y := by simp [vY, a8]
    refine key _ _ _ ?_ ?_ ?_ (ref8 n p (s.s p).k (2 + p) v _ _ _ w hP h hh hl ho rfl (by omega))
    · exact words_B eX eY (by rw [e])
    · rw [e]; rfl
    · rw [e]; rfl
  · rw [a9] at hl
    have hkl := hk9 a9
    by_cases hb : (s.s (s.s p).k).b = 0
    · by_cases hg : (s.s p).k + 1 = n
      · have e : vone n s p = ⟨10, (s.s p).k + 1, (s.s p).b⟩ := by simp [vone, a9, hb, hg]
        have eX : vX s p = s.X := by simp [vX, a9]
        have eY : vY s p = s.Y := by simp [vY, a9]
        refine key _ _ _ ?_ ?_ ?_ (ref9n n p (s.s p).k (2 + (s.s p).k) (s.s (s.s p).k).b ((s.s p).k + 1) v _ _ _ w hP h hh hl ho rfl (by omega) (lkWords_mark s (hk9 a9)) hb rfl hg)
        · exact words_S eX eY (by rw [e])
        · rw [e]; rfl
        · rw [e]
      · have e : vone n s p = ⟨9, (s.s p).k + 1, (s.s p).b⟩ := by simp [vone, a9, hb, hg]
        have eX : vX s p = s.X := by simp [vX, a9]
        have eY : vY s p = s.Y := by simp [vY, a9]
        refine key _ _ _ ?_ ?_ ?_ (ref9m n p (s.s p).k (2 + (s.s p).k) (s.s (s.s p).k).b ((s.s p).k + 1) v _ _ _ w hP h hh hl ho rfl (by omega) (lkWords_mark s (hk9 a9)) hb rfl hg)
        · exact words_S eX eY (by rw [e])
        · rw [e]; rfl
        · rw [e]
    · have e : vone n s p = ⟨9, (s.s p).k, (s.s p).b⟩ := (show vone n s p = s.s p by simp [vone, a9, hb]).trans (vh_ext a9 rfl rfl)
      have eX : vX s p = s.X := by simp [vX, a9]
      have eY : vY s p = s.Y := by simp [vY, a9]
      refine key _ _ _ ?_ ?_ ?_ (ref9s n p (s.s p).k (2 + (s.s p).k) (s.s (s.s p).k).b v _ _ _ w hP h hh hl ho rfl (by omega) (lkWords_mark s (hk9 a9)) hb)
      · exact words_S eX eY (by rw [e])
      · rw [e]; exact (set_same hl).symm
      · rw [e]; exact (set_same ho).symm
  · rw [a10] at hl
    by_cases hb : s.Y = p + 1
    · have e : vone n s p = ⟨12, (s.s p).k, (s.s p).b⟩ := by simp [vone, a10, hb]
      have eX : vX s p = s.X := by simp [vX, a10]
      have eY : vY s p = s.Y := by simp [vY, a10]
      refine key _ _ _ ?_ ?_ ?_ (ref10s n p (s.s p).k s.Y (p + 1) v _ _ _ w hP h hh hl ho hY h2 rfl hb)
      · exact words_S eX eY (by rw [e])
      · rw [e]; rfl
      · rw [e]; exact (set_same ho).symm
    · have e : vone n s p = ⟨11, (s.s p).k, (s.s p).b⟩ := by simp [vone, a10, hb]
      have eX : vX s p = s.X := by simp [vX, a10]
      have eY : vY s p = s.Y := by simp [vY, a10]
      refine key _ _ _ ?_ ?_ ?_ (ref10g n p (s.s p).k s.Y (p + 1) v _ _ _ w hP h hh hl ho hY h2 rfl hb)
      · exact words_S eX eY (by rw [e])
      · rw [e]; rfl
      · rw [e]; exact (set_same ho).symm
  · rw [a11] at hl
    by_cases hb : s.Y = 0
    · have e : vone n s p = ⟨1, (s.s p).k, (s.s p).b⟩ := by simp [vone, a11, hb]
      have eX : vX s p = s.X := by simp [vX, a11]
      have eY : vY s p = s.Y := by simp [vY, a11]
      refine key _ _ _ ?_ ?_ ?_ (ref11g n p (s.s p).k s.Y v _ _ _ w hP h hh hl ho hY h2 hb)
      · exact words_S eX eY (by rw [e])
      · rw [e]; rfl
      · rw [e]; exact (set_same ho).symm
    · have e : vone n s p = ⟨11, (s.s p).k, (s.s p).b⟩ := by simp [vone, a11, hb]
      have eX : vX s p = s.X := by simp [vX, a11]
      have eY : vY s p = s.Y := by simp [vY, a11]
      refine key _ _ _ ?_ ?_ ?_ (ref11s n p (s.s p).k s.Y v _ _ _ w hP h hh hl ho hY h2 hb)
      · exact words_S eX eY (by rw [e])
      · rw [e]; exact (set_same hl).symm
      · rw [e]; exact (set_same ho).symm
  · rw [a12] at hl
    have e : vone n s p = ⟨13, (s.s p).k, (s.s p).b⟩ := by simp [vone, a12]
    have eX : vX s p = s.X := by simp [vX, a12]
    have eY : vY s p = s.Y := by simp [vY, a12]
    refine key _ _ _ ?_ ?_ ?_ (ref12 n p (s.s p).k v _ _ _ w hP h hh hl ho)
    · exact words_S eX eY (by rw [e])
    · rw [e]; rfl
    · rw [e]; exact (set_same ho).symm
  · rw [a13] at hl
    have e : vone n s p = ⟨14, (s.s p).k, (s.s p).b⟩ := by simp [vone, a13]
    have eX : vX s p = s.X := by simp [vX, a13]
    have eY : vY s p = 0 := by simp [vY, a13]
    refine key _ _ _ ?_ ?_ ?_ (ref13 n p (s.s p).k v _ _ _ w hP h hh hl ho h2)
    · exact words_Y eX eY (by rw [e])
    · rw [e]; rfl
    · rw [e]; exact (set_same ho).symm
  · rw [a14] at hl
    have e : vone n s p = ⟨1, (s.s p).k, 0⟩ := by simp [vone, a14]
    have eX : vX s p = s.X := by simp [vX, a14]
    have eY : vY s p = s.Y := by simp [vY, a14]
    refine key _ _ _ ?_ ?_ ?_ (ref14 n p (s.s p).k (2 + p) v _ _ _ w hP h hh hl ho rfl (by omega))
    · exact words_B eX eY (by rw [e])
    · rw [e]; rfl
    · rw [e]; exact (set_same ho).symm
theorem lkRef_any {n A : Nat} {s : LSt} (hok : lkOk n s) (hn : n ≤ 4) (hf : lkFit n s A) (hA : A ≤ 100000) {p : Nat} (hp : p < n) (v : Value) (w : World) {P : Nat → Prop} (hP : ∀ b, P b → b < w.heap.size) (h : Mc w P n v (lkWords n s) (lkLines n s) (lkOwns n s)) :
    Calls Tryd.prog 9 #[v, .int .i64 p] w fun e w' => ∃ v', e = .returned v' ∧ Mc w' (New P w w') n v' (lkWords n (vstep n s p)) (lkLines n (vstep n s p)) (lkOwns n (vstep n s p)) ∧ Below w.heap.size w w' := ref_any hok hn hf hA hp v w hP h
end Go.Proofs.YtjnfecaghkgdpaaDoor.Fast
