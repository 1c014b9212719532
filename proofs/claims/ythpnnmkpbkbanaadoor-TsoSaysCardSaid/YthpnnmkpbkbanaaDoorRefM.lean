/-
  Texts merged: RefMath, RefSt, RefFind, RefQ.
-/
import Derived.Test.YthpnnmkpbkbanaaDoorFinMath
import Derived.Test.YthpnnmkpbkbanaaDoorTsoGl
/-
  The document's answer's state, all in one row, beside the program's: plain mathematics.
-/
namespace Go.Proofs.YthpnnmkpbkbanaaDoor

/-- The next line of a hand, and whether there is one. -/
def nextOf (hs : List (List Ln)) (ys : List Int) (h : Nat) : Ln × Bool :=
  let ls := hs.getD h []
  let pc := ys.getD (h * 3) 0
  if (ls.length : Int) ≤ pc then (⟨0, 0, 0, 0⟩, false) else (ls.getD pc.toNat ⟨0, 0, 0, 0⟩, true)
/-- A line, done. -/
def refDone (ys : List Int) (h : Nat) (l : Ln) : List Int :=
  let n := ys.getD (h * 3) 0
  let y := ys.set (h * 3) (n + 1)
  let r := h * 3 + 1 + l.r.toNat
  let d := 9 + l.d.toNat
  if l.k = 0 then y.set r l.v
  else if l.k = 1 then y.set r (y.getD d 0)
  else if l.k = 2 then y.set d (y.getD r 0)
  else if l.k = 3 then (y.set r (y.getD d 0)).set d (y.getD r 0)
  else if l.k = 5 then (if y.getD r 0 = 0 then y.set (h * 3) (n + 1 + l.v) else y)
  else y
def refStep (hs : List (List Ln)) (ys : List Int) (h : Nat) : List Int := if (nextOf hs ys h).2 then refDone ys h (nextOf hs ys h).1 else ys

/-- The two states go together. -/
structure Sim (hs : List (List Ln)) (zs ys : List Int) : Prop where
  lz : zs.length = 16
  ly : ys.length = 46
  reg : ∀ p r, p < 3 → r < 2 → zs.getD (p * 4 + r) 0 = ys.getD (p * 3 + 1 + r) 0
  word : ∀ i, i < 4 → zs.getD (12 + i) 0 = ys.getD (9 + i) 0
  line : ∀ p, p < hs.length → ∃ n m : Nat, zs[p * 4 + 2]? = some (n : Int) ∧ ys[p * 3]? = some (m : Int) ∧ m ≤ 20 ∧ (n = m ∨ (hs.getD p []).length ≤ n ∧ (hs.getD p []).length ≤ m)

theorem getD_set {l : List Int} {i j : Nat} {v : Int} (h : i < l.length) : (l.set i v).getD j 0 = if i = j then v else l.getD j 0 := by
  simp only [List.getD_eq_getElem?_getD, List.getElem?_set]
  split
  · rfl
  · rfl
theorem Sim.setReg {hs : List (List Ln)} {zs ys : List Int} (h : Sim hs zs ys) (p r : Nat) (hp : p < 3) (hr : r < 2) (v : Int) : Sim hs (zs.set (p * 4 + r) v) (ys.set (p * 3 + 1 + r) v) := by
  have hz := h.lz
  have hy := h.ly
  refine ⟨by simp [hz], by simp [hy], fun q s hq hs2 => ?_, fun i hi => ?_, fun q hq => ?_⟩
  · rw [getD_set (by omega), getD_set (by omega)]
    by_cases e : p * 4 + r = q * 4 + s
    · rw [if_pos e, if_pos (by omega)]
    · rw [if_neg e, if_neg (by omega)]; exact h.reg q s hq hs2
  · rw [getD_set (by omega), getD_set (by omega), if_neg (by omega), if_neg (by omega)]; exact h.word i hi
  · obtain ⟨n, m, h1, h2, h4⟩ := h.line q hq
    exact ⟨n, m, by rw [List.getElem?_set_ne (by omega)]; exact h1, by rw [List.getElem?_set_ne (by omega)]; exact h2, h4⟩
theorem Sim.setWord {hs : List (List Ln)} {zs ys : List Int} (h : Sim hs zs ys) (h3 : hs.length ≤ 3) (d : Nat) (hd : d < 4) (v : Int) : Sim hs (zs.set (12 + d) v) (ys.set (9 + d) v) := by
  have hz := h.lz
  have hy := h.ly
  refine ⟨by simp [hz], by simp [hy], fun q s hq hs2 => ?_, fun i hi => ?_, fun q hq => ?_⟩
  · rw [getD_set (by omega), getD_set (by omega), if_neg (by omega), if_neg (by omega)]; exact h.reg q s hq hs2
  · rw [getD_set (by omega), getD_set (by omega)]
    by_cases e : d = i
    · rw [if_pos (by omega), if_pos (by omega)]
    · rw [if_neg (by omega), if_neg (by omega)]; exact h.word i hi
  · obtain ⟨n, m, h1, h2, h4⟩ := h.line q hq
    exact ⟨n, m, by rw [List.getElem?_set_ne (by omega)]; exact h1, by rw [List.getElem?_set_ne (by omega)]; exact h2, h4⟩
theorem Sim.setLine {hs : List (List Ln)} {zs ys : List Int} (h : Sim hs zs ys) (h3 : hs.length ≤ 3) (p n m : Nat) (hp : p < hs.length) (hm : m ≤ 20) (hnm : n = m ∨ (hs.getD p []).length ≤ n ∧ (hs.getD p []).length ≤ m) : Sim hs (zs.set (p * 4 + 2) n) (ys.set (p * 3) m) := by
  have hz := h.lz
  have hy := h.ly
  refine ⟨by simp [hz], by simp [hy], fun q s hq hs2 => ?_, fun i hi => ?_, fun q hq => ?_⟩
  · rw [getD_set (by omega), getD_set (by omega), if_neg (by omega), if_neg (by omega)]; exact h.reg q s hq hs2
  · rw [getD_set (by omega), getD_set (by omega), if_neg (by omega), if_neg (by omega)]; exact h.word i hi
  · by_cases e : q = p
    · subst e
      exact ⟨n, m, by rw [List.getElem?_set_self (by omega)], by rw [List.getElem?_set_self (by omega)], hm, hnm⟩
    · obtain ⟨n', m', h1, h2, h4⟩ := h.line q hq
      exact ⟨n', m', by rw [List.getElem?_set_ne (by omega)]; exact h1, by rw [List.getElem?_set_ne (by omega)]; exact h2, h4⟩

theorem nextOf_some {hs : List (List Ln)} {ys : List Int} {p m : Nat} {ls : List Ln} {l : Ln} (hl : hs[p]? = some ls) (hm : ys[p * 3]? = some (m : Int)) (hln : ls[m]? = some l) : nextOf hs ys p = (l, true) := by
  have hlt := (List.getElem?_eq_some_iff.1 hln).1
  simp only [nextOf, List.getD_eq_getElem?_getD, hl, hm, Option.getD_some]
  rw [if_neg (by omega), Int.toNat_natCast, hln]; rfl
theorem nextOf_none {hs : List (List Ln)} {ys : List Int} {p m : Nat} {ls : List Ln} (hl : hs[p]? = some ls) (hm : ys[p * 3]? = some (m : Int)) (hge : ls.length ≤ m) : nextOf hs ys p = (⟨0, 0, 0, 0⟩, false) := by
  simp only [nextOf, List.getD_eq_getElem?_getD, hl, hm, Option.getD_some]
  rw [if_pos (by omega)]

theorem sim_step {words : Int} {hs : List (List Ln)} {zs ys : List Int} {p : Nat} (hW : Well words hs) (h : Sim hs zs ys) (hp : p < hs.length) : Sim hs (stp hs zs p) (refStep hs ys p) := by
  have h3 := hW.few
  obtain ⟨n, m, hn, hm, hm20, hnm⟩ := h.line p hp
  have hl : hs[p]? = some hs[p] := List.getElem?_eq_getElem hp
  generalize hs[p] = ls at hl
  have hgl : hs.getD p [] = ls := by rw [List.getD_eq_getElem?_getD, hl]; rfl
  rw [hgl] at hnm
  have h5 := hW.short p ls hl
  have hall := hW.okay p ls hl
  rcases Nat.lt_or_ge m ls.length with hlt | hge
  · obtain rfl : n = m := by omega
    have hl1 : ls[n]? = some ls[n] := List.getElem?_eq_getElem hlt
    have hk := List.all_eq_true.1 hall _ (List.mem_of_getElem? hl1)
    generalize ls[n] = l at hl1 hk
    have hx := nextOf_some hl hm hl1
    rw [stp_go hs zs p ls n l hl hn hl1, refStep, hx, if_pos rfl]
    have hg : ys.getD (p * 3) 0 = (n : Int) := by rw [List.getD_eq_getElem?_getD, hm]; rfl
    simp only [refDone, hg]
    have base : Sim hs (zs.set (p * 4 + 2) ((n : Int) + 1)) (ys.set (p * 3) ((n : Int) + 1)) := h.setLine h3 p (n + 1) (n + 1) hp (by omega) (Or.inl rfl)
    generalize zs.set (p * 4 + 2) ((n : Int) + 1) = z at base
    generalize ys.set (p * 3) ((n : Int) + 1) = y at base
    simp only [okLn] at hk
    obtain ⟨k, r, d, v⟩ := l
    simp only at hk ⊢
    have hp3 : p < 3 := by omega
    by_cases k0 : k = 0
    · simp only [if_pos k0]
      rw [if_pos k0, Bool.and_eq_true] at hk
      have hr := inR_true.1 hk.1
      exact base.setReg p r.toNat hp3 (by omega) v
    simp only [if_neg k0]
    rw [if_neg k0] at hk
    have hw4 := hW.hi
    by_cases k1 : k = 1
    · simp only [if_pos k1]
      rw [if_pos (Or.inl k1), Bool.and_eq_true] at hk
      have hr := inR_true.1 hk.1
      have hd := inR_true.1 hk.2
      rw [base.word d.toNat (by omega)]
      exact base.setReg p r.toNat hp3 (by omega) _
    simp only [if_neg k1]
    by_cases k2 : k = 2
    · simp only [if_pos k2]
      rw [if_pos (Or.inr (Or.inl k2)), Bool.and_eq_true] at hk
      have hr := inR_true.1 hk.1
      have hd := inR_true.1 hk.2
      rw [base.reg p r.toNat hp3 (by omega)]
      exact base.setWord h3 d.toNat (by omega) _
    simp only [if_neg k2]
    by_cases k3 : k = 3
    · simp only [if_pos k3]
      rw [if_pos (Or.inr (Or.inr k3)), Bool.and_eq_true] at hk
      have hr := inR_true.1 hk.1
      have hd := inR_true.1 hk.2
      rw [base.reg p r.toNat hp3 (by omega), base.word d.toNat (by omega)]
      exact (base.setReg p r.toNat hp3 (by omega) _).setWord h3 d.toNat (by omega) _
    simp only [if_neg k3]
    by_cases k5 : k = 5
    · simp only [if_pos k5]
      rw [if_neg (by omega), if_neg (by omega), if_pos k5, Bool.and_eq_true] at hk
      have hr := inR_true.1 hk.1
      have hv := inR_true.1 hk.2
      rw [base.reg p r.toNat hp3 (by omega)]
      split
      · obtain ⟨v, rfl⟩ := Int.eq_ofNat_of_zero_le hv.1
        have e1 : min ((n : Int) + 1 + (v : Int)) (ls.length : Int) = ((min (n + 1 + v) ls.length : Nat) : Int) := by omega
        have e2 : (n : Int) + 1 + (v : Int) = ((n + 1 + v : Nat) : Int) := by omega
        rw [e1, e2]
        refine base.setLine h3 p _ _ hp (by omega) ?_
        rw [hgl]; omega
      · exact base
    · simp only [if_neg k5]
      exact base
  · rw [stp_stay hs zs p ls n hl hn (by omega), refStep, nextOf_none hl hm hge, if_neg (by simp)]
    exact h
theorem sim_iter {words : Int} {hs : List (List Ln)} {zs ys : List Int} {p : Nat} (hW : Well words hs) (h : Sim hs zs ys) (hp : p < hs.length) (k : Nat) : Sim hs (iter (fun z => stp hs z p) k zs) (iter (fun y => refStep hs y p) k ys) := by
  induction k with
  | zero => exact h
  | succ k ih => rw [iter_succ, iter_succ]; exact sim_step hW ih hp
def refFin (hs : List (List Ln)) : Nat → List Int → List Int
  | 0, ys => ys
  | k + 1, ys => iter (fun y => refStep hs y k) 6 (refFin hs k ys)
theorem sim_fin {words : Int} {hs : List (List Ln)} {zs ys : List Int} (hW : Well words hs) (h : Sim hs zs ys) : ∀ k, k ≤ hs.length → Sim hs (finN hs k zs) (refFin hs k ys)
  | 0, _ => h
  | k + 1, hk => sim_iter hW (sim_fin hW h k (by omega)) (by omega) 6
def refScripted (hs : List (List Ln)) (ys : List Int) (script : List Int) : List Int := script.foldl (fun y h => refStep hs y h.toNat) ys
theorem refScripted_snoc (hs : List (List Ln)) (ys : List Int) (s : List Int) (h : Int) : refScripted hs ys (s ++ [h]) = refStep hs (refScripted hs ys s) h.toNat := by simp [refScripted, List.foldl_append]
theorem sim_scripted {words : Int} {hs : List (List Ln)} (hW : Well words hs) : ∀ (script : List Int) (zs ys : List Int), Sim hs zs ys → (∀ h ∈ script, 0 ≤ h ∧ h < hs.length) → Sim hs (scripted hs zs script) (refScripted hs ys script)
  | [], _, _, h, _ => h
  | x :: r, zs, ys, h, hm => by
    have := hm x (by simp)
    exact sim_scripted hW r _ _ (sim_step hW h (by omega)) fun y hy => hm y (by simp [hy])
theorem sim_zero (hs : List (List Ln)) (h3 : hs.length ≤ 3) : Sim hs zero16 (List.replicate 46 0) := by
  refine ⟨rfl, rfl, fun p r hp hr => ?_, fun i hi => ?_, fun p hp => ⟨0, 0, ?_, ?_, by omega, Or.inl rfl⟩⟩
  · rw [List.getD_eq_getElem?_getD, List.getD_eq_getElem?_getD, zero16, List.getElem?_replicate, List.getElem?_replicate, if_pos (by omega), if_pos (by omega)]
  · rw [List.getD_eq_getElem?_getD, List.getD_eq_getElem?_getD, zero16, List.getElem?_replicate, List.getElem?_replicate, if_pos (by omega), if_pos (by omega)]
  · rw [zero16, List.getElem?_replicate, if_pos (by omega)]; rfl
  · rw [List.getElem?_replicate, if_pos (by omega)]; rfl

/-- What is told of a row. -/
def refRegs (ys : List Int) (k : Nat) : List Int := (List.range k).flatMap fun p => [ys.getD (p * 3 + 1) 0, ys.getD (p * 3 + 2) 0]
def refWords (ys : List Int) (k : Nat) : List Int := (List.range k).map fun i => ys.getD (9 + i) 0
theorem refRegs_succ (ys : List Int) (k : Nat) : refRegs ys (k + 1) = refRegs ys k ++ [ys.getD (k * 3 + 1) 0] ++ [ys.getD (k * 3 + 2) 0] := by
  unfold refRegs
  rw [List.range_succ, List.flatMap_append]
  simp
theorem refRegs_length (ys : List Int) (k : Nat) : (refRegs ys k).length = k * 2 := by
  induction k with
  | zero => rfl
  | succ k ih => rw [refRegs_succ]; simp [ih]; omega
theorem refWords_length (ys : List Int) (k : Nat) : (refWords ys k).length = k := by simp [refWords]
theorem sim_told {words : Int} {hs : List (List Ln)} {zs ys : List Int} (h3 : hs.length ≤ 3) (hw : words ≤ 4) (h : Sim hs zs ys) : toldOf hs words zs = refRegs ys hs.length ++ refWords ys words.toNat := by
  have e1 : ∀ k, k ≤ hs.length → regsOf zs k = refRegs ys k := by
    intro k hk
    induction k with
    | zero => rfl
    | succ k ih =>
      have r0 := h.reg k 0 (by omega) (by omega)
      have r1 := h.reg k 1 (by omega) (by omega)
      rw [regsOf_succ, refRegs_succ, ih (by omega)]
      simp only [Nat.add_zero] at r0
      rw [r0, r1]
      simp
  have e2 : wordsOf zs words.toNat = refWords ys words.toNat := List.map_congr_left fun i hi => h.word i (by have := List.mem_range.1 hi; omega)
  rw [toldOf, e1 _ (Nat.le_refl _), e2]
/-- THE TWO TELL THE SAME. -/
theorem run_same {words : Int} {hs : List (List Ln)} {script : List Int} (he : runErr words hs script = 0) :
    runTold words hs script = refRegs (refFin hs hs.length (refScripted hs (List.replicate 46 0) script)) hs.length ++ refWords (refFin hs hs.length (refScripted hs (List.replicate 46 0) script)) words.toNat := by
  have hc : check words hs = 0 := by
    apply Classical.byContradiction
    intro hc
    simp [runErr, hc] at he
  have hW := check_well hc
  have hs' : ∀ h ∈ script, 0 ≤ h ∧ h < (hs.length : Int) := by
    intro h hm
    unfold runErr at he
    rw [if_neg (by simp [hc])] at he
    split at he
    · simp at he
    · split at he
      · rename_i ha
        have := inR_true.1 (List.all_eq_true.1 ha h hm)
        omega
      · simp at he
  rw [runTold, if_pos he]
  exact sim_told hW.few hW.hi (sim_fin hW (sim_scripted hW script _ _ (sim_zero hs hW.few) hs') _ (Nat.le_refl _))
end Go.Proofs.YthpnnmkpbkbanaaDoor

/-
  The states of the document's answer, beside those of the program: plain mathematics. A line behind the last one is not drawn back to it; else all is the same.
-/
namespace Go.Proofs.YthpnnmkpbkbanaaDoor

/-- A row of the document's answer. -/
def r13 (s : TS) : List Int :=
  [(s.o 0).n, (s.o 0).a, (s.o 0).b, (s.o 1).n, (s.o 1).a, (s.o 1).b, (s.o 2).n, (s.o 2).a, (s.o 2).b, s.w 0, s.w 1, s.w 2, s.w 3]
def r46 (s : TS) : List Int := r13 s ++ (qrow (s.o 0).q ++ (qrow (s.o 1).q ++ qrow (s.o 2).q))
theorem r13_length (s : TS) : (r13 s).length = 13 := rfl
theorem r46_length {s : TS} (hq : ∀ p, p < 3 → (s.o p).q.length ≤ 5) : (r46 s).length = 46 := by
  simp only [r46, List.length_append, r13_length, qrow_length (hq 0 (by omega)), qrow_length (hq 1 (by omega)), qrow_length (hq 2 (by omega))]
theorem r46_13 (s : TS) {i : Nat} (hi : i < 13) : (r46 s)[i]? = (r13 s)[i]? := by rw [r46, List.getElem?_append_left (by rw [r13_length]; exact hi)]
theorem r46_n (s : TS) {p : Nat} (hp : p < 3) : (r46 s)[p * 3]? = some ((s.o p).n : Int) := by
  have h : p = 0 ∨ p = 1 ∨ p = 2 := by omega
  rw [r46_13 s (by omega)]
  rcases h with rfl | rfl | rfl <;> rfl
theorem r46_reg (s : TS) {p : Nat} (hp : p < 3) {r : Int} (h0 : 0 ≤ r) (h1 : r ≤ 1) : (r46 s).getD (p * 3 + 1 + r.toNat) 0 = (s.o p).reg r := by
  have h : p = 0 ∨ p = 1 ∨ p = 2 := by omega
  have hr : r = 0 ∨ r = 1 := by omega
  rw [List.getD_eq_getElem?_getD, r46_13 s (by omega)]
  rcases h with rfl | rfl | rfl <;> rcases hr with rfl | rfl <;> rfl
theorem r46_w (s : TS) {d : Nat} (hd : d < 4) : (r46 s).getD (9 + d) 0 = s.w d := by
  have h : d = 0 ∨ d = 1 ∨ d = 2 ∨ d = 3 := by omega
  rw [List.getD_eq_getElem?_getD, r46_13 s (by omega)]
  rcases h with rfl | rfl | rfl | rfl <;> rfl
theorem set_left {a b : List Int} {i : Nat} (h : i < a.length) (v : Int) : (a ++ b).set i v = a.set i v ++ b := List.set_append_left i v h
theorem r46_of {s t : TS} (h13 : r13 t = r13 s) (hq : ∀ p, p < 3 → (t.o p).q = (s.o p).q) : r46 t = r46 s := by
  rw [r46, r46, h13, hq 0 (by omega), hq 1 (by omega), hq 2 (by omega)]
theorem r46_set_n (s : TS) {p : Nat} (hp : p < 3) (n : Nat) : (r46 s).set (p * 3) (n : Int) = r46 ⟨upd s.o p ((s.o p).at_ n), s.w⟩ := by
  have h : p = 0 ∨ p = 1 ∨ p = 2 := by omega
  rw [r46, set_left (by rw [r13_length]; omega)]
  rcases h with rfl | rfl | rfl <;> rfl
theorem r46_set_w (s : TS) {d : Nat} (hd : d < 4) (v : Int) : (r46 s).set (9 + d) v = r46 ⟨s.o, upd s.w d v⟩ := by
  have h : d = 0 ∨ d = 1 ∨ d = 2 ∨ d = 3 := by omega
  rw [r46, set_left (by rw [r13_length]; omega)]
  rcases h with rfl | rfl | rfl | rfl <;> rfl
theorem setReg_q' (o : Own) (r v : Int) : (o.setReg r v).q = o.q := setReg_q o r v
theorem r46_set_reg (s : TS) {p : Nat} (hp : p < 3) {r : Int} (h0 : 0 ≤ r) (h1 : r ≤ 1) (v : Int) : (r46 s).set (p * 3 + 1 + r.toNat) v = r46 ⟨upd s.o p ((s.o p).setReg r v), s.w⟩ := by
  have h : p = 0 ∨ p = 1 ∨ p = 2 := by omega
  have hr : r = 0 ∨ r = 1 := by omega
  rw [r46, set_left (by rw [r13_length]; omega)]
  rcases h with rfl | rfl | rfl <;> rcases hr with rfl | rfl <;> rfl

theorem at_at (o : Own) (n m : Nat) : (o.at_ n).at_ m = o.at_ m := rfl
/-- A hand does a line, without waiting. -/
def rdo (s : TS) (p : Nat) (l : Ln) : TS :=
  let o := s.o p
  let y := o.at_ (o.n + 1)
  if l.k = 0 then ⟨upd s.o p (y.setReg l.r l.v), s.w⟩
  else if l.k = 1 then ⟨upd s.o p (y.setReg l.r (s.w l.d.toNat)), s.w⟩
  else if l.k = 2 then ⟨upd s.o p y, upd s.w l.d.toNat (o.reg l.r)⟩
  else if l.k = 3 then ⟨upd s.o p (y.setReg l.r (s.w l.d.toNat)), upd s.w l.d.toNat (o.reg l.r)⟩
  else if l.k = 5 then (if o.reg l.r = 0 then ⟨upd s.o p (o.at_ (o.n + 1 + l.v.toNat)), s.w⟩ else ⟨upd s.o p y, s.w⟩)
  else ⟨upd s.o p y, s.w⟩
theorem refDone_r46 {words : Int} {s : TS} {p : Nat} {l : Ln} (hp : p < 3) (hw : words ≤ 4) (hok : okLn words l = true) : refDone (r46 s) p l = r46 (rdo s p l) := by
  have hn : (r46 s).getD (p * 3) 0 = ((s.o p).n : Int) := by rw [List.getD_eq_getElem?_getD, r46_n s hp]; rfl
  have base : (r46 s).set (p * 3) ((s.o p).n + 1 : Int) = r46 ⟨upd s.o p ((s.o p).at_ ((s.o p).n + 1)), s.w⟩ := by
    rw [← r46_set_n s hp]; rfl
  simp only [refDone, hn, base]
  unfold rdo
  dsimp only
  by_cases k0 : l.k = 0
  · rw [if_pos k0, if_pos k0]
    have hr := okLn_reg hok (by omega)
    simp only [fun s => r46_set_reg s hp hr.1 hr.2, upd_same, upd_upd]
  rw [if_neg k0, if_neg k0]
  by_cases k1 : l.k = 1
  · rw [if_pos k1, if_pos k1]
    have hr := okLn_reg hok (by omega)
    have hd := okLn_word hok (by omega)
    simp only [fun s => r46_set_reg s hp hr.1 hr.2, upd_same, upd_upd, fun s => r46_w s (d := l.d.toNat) (by omega)]
  rw [if_neg k1, if_neg k1]
  by_cases k2 : l.k = 2
  · rw [if_pos k2, if_pos k2]
    have hr := okLn_reg hok (by omega)
    have hd := okLn_word hok (by omega)
    simp only [fun s => r46_set_w s (d := l.d.toNat) (by omega), fun s => r46_reg s hp hr.1 hr.2, upd_same, reg_at]
  rw [if_neg k2, if_neg k2]
  by_cases k3 : l.k = 3
  · rw [if_pos k3, if_pos k3]
    have hr := okLn_reg hok (by omega)
    have hd := okLn_word hok (by omega)
    simp only [fun s => r46_set_reg s hp hr.1 hr.2, upd_same, upd_upd, fun s => r46_w s (d := l.d.toNat) (by omega), fun s => r46_set_w s (d := l.d.toNat) (by omega), fun s => r46_reg s hp hr.1 hr.2, reg_at]
  rw [if_neg k3, if_neg k3]
  by_cases k5 : l.k = 5
  · rw [if_pos k5, if_pos k5]
    have hr := okLn_reg hok (by omega)
    have hv := okLn_leave hok k5
    simp only [fun s => r46_reg s hp hr.1 hr.2, upd_same, reg_at]
    split
    · have e : ((s.o p).n : Int) + 1 + l.v = (((s.o p).n + 1 + l.v.toNat : Nat) : Int) := by omega
      rw [e, r46_set_n _ hp]
      simp only [upd_same, upd_upd, at_at]
    · rfl
  · rw [if_neg k5, if_neg k5]

/-- A hand does its next line; wait: what is stored waits. -/
def rstp (wait : Bool) (s : TS) (p : Nat) (l : Ln) : TS :=
  let o := s.o p
  if wait = true ∧ l.k = 2 then ⟨upd s.o p ⟨o.a, o.b, o.n + 1, o.q ++ [(l.d.toNat, o.reg l.r)]⟩, s.w⟩
  else if l.k = 1 then ⟨upd s.o p ((o.at_ (o.n + 1)).setReg l.r (over o.q s.w l.d.toNat)), s.w⟩
  else rdo s p l
def rnext (hs : List (List Ln)) (s : TS) (p : Nat) : Option Ln := (hs.getD p [])[(s.o p).n]?
def rmay (wait : Bool) (s : TS) (p : Nat) (l : Ln) : Bool := !wait || (s.o p).q.isEmpty || (decide (l.k ≠ 3) && decide (l.k ≠ 4))
/-- The line is drawn back to the end. -/
def cl (hs : List (List Ln)) (s : TS) : TS := ⟨fun p => (s.o p).at_ (min (s.o p).n (hs.getD p []).length), s.w⟩
inductive RR (wait : Bool) (hs : List (List Ln)) : TS → Prop
  | start : RR wait hs ts0
  | step {s : TS} {p : Nat} {l : Ln} : RR wait hs s → p < hs.length → rnext hs s p = some l → rmay wait s p l = true → RR wait hs (rstp wait s p l)
  | come {s : TS} {p : Nat} : RR wait hs s → p < hs.length → (s.o p).q ≠ [] → RR wait hs (tcom s p)

theorem at_setReg (o : Own) (r v : Int) (m : Nat) : (o.setReg r v).at_ m = (o.at_ m).setReg r v := by
  unfold Own.setReg; split <;> rfl
theorem cl_upd (hs : List (List Ln)) (s : TS) (p : Nat) (o' : Own) (w' : Nat → Int) : cl hs ⟨upd s.o p o', w'⟩ = ⟨upd (cl hs s).o p (o'.at_ (min o'.n (hs.getD p []).length)), w'⟩ := by
  simp only [cl, TS.mk.injEq, and_true]
  funext j
  unfold upd
  split
  · rename_i e; rw [e]
  · rfl
theorem cl_o {hs : List (List Ln)} {s : TS} {p : Nat} (h : (s.o p).n ≤ (hs.getD p []).length) : (cl hs s).o p = s.o p := by
  show (s.o p).at_ (min (s.o p).n (hs.getD p []).length) = s.o p
  rw [Nat.min_eq_left h]; rfl
theorem cl_q (hs : List (List Ln)) (s : TS) (p : Nat) : ((cl hs s).o p).q = (s.o p).q := rfl
theorem cl_come (hs : List (List Ln)) (s : TS) (p : Nat) : cl hs (tcom s p) = tcom (cl hs s) p := by
  unfold tcom
  rw [cl_q]
  split
  · rfl
  · rw [cl_upd]; rfl
theorem cl_stay {hs : List (List Ln)} {s : TS} {p : Nat} (h : rnext hs s p = none) : tstp hs (cl hs s) p = cl hs s := by
  have h1 : (hs.getD p [])[((cl hs s).o p).n]? = none := by
    have := List.getElem?_eq_none_iff.1 h
    refine List.getElem?_eq_none_iff.2 ?_
    show (hs.getD p []).length ≤ min (s.o p).n (hs.getD p []).length
    omega
  unfold tstp tsoLn
  rw [h1]
  show TS.mk (upd (cl hs s).o p ((cl hs s).o p)) (cl hs s).w = cl hs s
  rw [upd_id]
theorem cl_next {hs : List (List Ln)} {s : TS} {p : Nat} {l : Ln} (h : rnext hs s p = some l) : (cl hs s).o p = s.o p ∧ (hs.getD p [])[((cl hs s).o p).n]? = some l := by
  have := cl_o (hs := hs) (s := s) (p := p) (Nat.le_of_lt (lt_of_line h))
  exact ⟨this, by rw [this]; exact h⟩
theorem cl_block {hs : List (List Ln)} {s : TS} {p : Nat} {l : Ln} (h : rnext hs s p = some l) (hm : rmay true s p l = false) : tstp hs (cl hs s) p = cl hs s := by
  obtain ⟨h1, h2⟩ := cl_next h
  simp only [rmay, Bool.not_true, Bool.false_or, Bool.or_eq_false_iff, Bool.and_eq_false_iff, decide_eq_false_iff_not, ne_eq, Decidable.not_not] at hm
  have hq : (s.o p).q ≠ [] := by
    intro e
    rw [e] at hm
    simp at hm
  have e1 : tsoLn (hs.getD p []) ((cl hs s).o p) (cl hs s).w = ((cl hs s).o p, (cl hs s).w) := by
    unfold tsoLn
    rw [h2, h1]
    dsimp only
    rcases hm.2 with k3 | k4
    · rw [if_neg (by omega), if_pos k3, if_neg hq]
    · rw [if_neg (by omega), if_neg (by omega)]
      unfold locLn
      rw [if_neg (by omega), if_neg (by omega), if_pos k4, if_neg hq]
  unfold tstp
  rw [e1, upd_id]
theorem min_step {n m : Nat} (h : n < m) : min (n + 1) m = n + 1 := by omega
theorem cl_step {words : Int} {hs : List (List Ln)} {s : TS} {p : Nat} {l : Ln} (hok : okLn words l = true) (h : rnext hs s p = some l) (hm : rmay true s p l = true) : cl hs (rstp true s p l) = tstp hs (cl hs s) p := by
  obtain ⟨h1, h2⟩ := cl_next h
  have hlt := lt_of_line h
  have hms := min_step hlt
  unfold tstp
  rw [h1]
  unfold tsoLn
  rw [show (hs.getD p [])[(s.o p).n]? = some l from h]
  dsimp only
  unfold rstp
  dsimp only
  by_cases k2 : l.k = 2
  · rw [if_pos ⟨rfl, k2⟩, if_neg (by omega), if_neg (by omega), cl_upd]
    unfold locLn
    rw [if_neg (by omega), if_pos k2]
    dsimp only
    rw [hms]
    rfl
  rw [if_neg (fun h => k2 h.2)]
  by_cases k1 : l.k = 1
  · rw [if_pos k1, if_pos k1, cl_upd, setReg_n, at_setReg]
    show TS.mk (upd (cl hs s).o p (Own.setReg (Own.at_ _ (min ((s.o p).n + 1) _)) _ _)) _ = _
    rw [hms]
    rfl
  rw [if_neg k1, if_neg k1]
  unfold rdo
  dsimp only
  by_cases k0 : l.k = 0
  · rw [if_pos k0, if_neg (by omega), cl_upd, setReg_n, at_setReg]
    unfold locLn
    rw [if_pos k0]
    show TS.mk (upd (cl hs s).o p (Own.setReg (Own.at_ _ (min ((s.o p).n + 1) _)) _ _)) _ = _
    rw [hms]
    rfl
  rw [if_neg k0, if_neg k1, if_neg k2]
  by_cases k3 : l.k = 3
  · rw [if_pos k3, if_pos k3]
    have hq : (s.o p).q = [] := by simpa [rmay, k3] using hm
    rw [if_pos hq, cl_upd, setReg_n, at_setReg]
    show TS.mk (upd (cl hs s).o p (Own.setReg (Own.at_ _ (min ((s.o p).n + 1) _)) _ _)) _ = _
    rw [hms]
    rfl
  rw [if_neg k3, if_neg k3]
  unfold locLn
  rw [if_neg k0, if_neg k2]
  by_cases k5 : l.k = 5
  · rw [if_pos k5, if_neg (show ¬ l.k = 4 by omega)]
    by_cases hr : (s.o p).reg l.r = 0
    · rw [if_pos hr, if_pos ⟨k5, hr⟩, cl_upd]
      rfl
    · rw [if_neg hr, if_neg (fun h => hr h.2), cl_upd]
      show TS.mk (upd (cl hs s).o p (Own.at_ _ (min ((s.o p).n + 1) _))) _ = _
      rw [hms]
      rfl
  · rw [if_neg k5]
    have k4 : l.k = 4 := by
      unfold okLn at hok
      by_cases e : l.k = 4
      · exact e
      · rw [if_neg k0, if_neg (by omega), if_neg e, if_neg k5] at hok; cases hok
    have hq : (s.o p).q = [] := by simpa [rmay, k4] using hm
    rw [if_pos k4, if_pos hq, cl_upd]
    show TS.mk (upd (cl hs s).o p (Own.at_ _ (min ((s.o p).n + 1) _))) _ = _
    rw [hms]
    rfl
theorem rmay_false (s : TS) (p : Nat) (l : Ln) : rmay false s p l = true := rfl
/-- Where nothing waits, what would wait comes at once. -/
theorem rstp_false {s : TS} {p : Nat} {l : Ln} (hq : (s.o p).q = []) : rstp false s p l = tcom (rstp true s p l) p := by
  unfold rstp
  dsimp only
  by_cases k2 : l.k = 2
  · rw [if_neg (show ¬ (false = true ∧ l.k = 2) by simp), if_neg (by omega), if_pos (show true = true ∧ l.k = 2 from ⟨rfl, k2⟩), hq]
    unfold rdo tcom
    dsimp only
    rw [if_neg (by omega), if_neg (by omega), if_pos k2, upd_same]
    simp only [List.nil_append, upd_upd, Own.pop, List.tail_cons]
    rw [← hq]
    rfl
  rw [if_neg (show ¬ (false = true ∧ l.k = 2) by simp), if_neg (show ¬ (true = true ∧ l.k = 2) from fun h => k2 h.2)]
  have stay : ∀ t : TS, (t.o p).q = [] → t = tcom t p := fun t ht => by unfold tcom; rw [ht]
  by_cases k1 : l.k = 1
  · rw [if_pos k1]
    refine stay _ ?_
    simp [upd_same, setReg_q, Own.at_, hq]
  rw [if_neg k1]
  refine stay _ ?_
  unfold rdo
  dsimp only
  repeat' split
  all_goals simp [upd_same, setReg_q, Own.at_, hq]

/-! ### What it comes to is what the program comes to -/
theorem RR.cl_reach {words : Int} {hs : List (List Ln)} (hW : Well words hs) {s : TS} (h : RR true hs s) : TReach hs (cl hs s) := by
  induction h with
  | start =>
    have e : cl hs ts0 = ts0 := by
      simp only [cl, ts0, own0, Own.at_, TS.mk.injEq, and_true]
      funext p
      simp
    rw [e]; exact .start
  | @step s p l _ hp hl hm ih =>
    rw [cl_step (well_line hW hl).2.2 hl hm]
    exact .step ih hp
  | @come s p _ hp _ ih =>
    rw [cl_come]
    exact .come ih hp
theorem RR.q_nil {hs : List (List Ln)} {s : TS} (h : RR false hs s) : ∀ p, (s.o p).q = [] := by
  induction h with
  | start => exact fun _ => rfl
  | @step s p l _ hp hl hm ih =>
    intro j
    by_cases e : j = p
    · subst e
      rw [rstp_false (ih j)]
      unfold tcom
      unfold rstp
      dsimp only
      by_cases k2 : l.k = 2
      · rw [if_pos (show true = true ∧ l.k = 2 from ⟨rfl, k2⟩), ih j]
        simp [upd_same, Own.pop]
      rw [if_neg (show ¬ (true = true ∧ l.k = 2) from fun h => k2 h.2)]
      by_cases k1 : l.k = 1
      · rw [if_pos k1]
        simp [upd_same, setReg_q, Own.at_, ih j]
      rw [if_neg k1]
      have hq : ((rdo s j l).o j).q = [] := by
        unfold rdo
        dsimp only
        repeat' split
        all_goals simp [upd_same, setReg_q, Own.at_, ih j]
      rw [hq]; exact hq
    · have : ((rstp false s p l).o j) = s.o j := by
        rw [rstp_false (ih p)]
        rw [tcom_other e]
        unfold rstp rdo
        dsimp only
        repeat' split
        all_goals simp [upd_other e]
      rw [this]; exact ih j
  | @come s p _ _ hq ih => exact absurd (ih p) hq
theorem RR.cl_sreach {words : Int} {hs : List (List Ln)} (hW : Well words hs) {s : TS} (h : RR false hs s) : SReach hs (cl hs s) := by
  induction h with
  | start =>
    have e : cl hs ts0 = ts0 := by
      simp only [cl, ts0, own0, Own.at_, TS.mk.injEq, and_true]
      funext p
      simp
    rw [e]; exact .start
  | @step s p l h hp hl hm ih =>
    rw [rstp_false (h.q_nil p), cl_come, cl_step (well_line hW hl).2.2 hl (by simp [rmay, h.q_nil p])]
    exact .step ih hp
  | @come s p h _ hq _ => exact absurd (h.q_nil p) hq
theorem cl_ts0 (hs : List (List Ln)) : cl hs ts0 = ts0 := by
  simp only [cl, ts0, own0, Own.at_, TS.mk.injEq, and_true]
  funext p
  simp
theorem TReach.of_rr {words : Int} {hs : List (List Ln)} (hW : Well words hs) {t : TS} (h : TReach hs t) : ∃ s, RR true hs s ∧ cl hs s = t := by
  induction h with
  | start => exact ⟨ts0, .start, cl_ts0 hs⟩
  | @step t p _ hp ih =>
    obtain ⟨s, hs', rfl⟩ := ih
    cases hl : rnext hs s p with
    | none => exact ⟨s, hs', (cl_stay hl).symm⟩
    | some l =>
      cases hm : rmay true s p l with
      | true => exact ⟨_, .step hs' hp hl hm, cl_step (well_line hW hl).2.2 hl hm⟩
      | false => exact ⟨s, hs', (cl_block hl hm).symm⟩
  | @come t p _ hp ih =>
    obtain ⟨s, hs', rfl⟩ := ih
    by_cases hq : (s.o p).q = []
    · refine ⟨s, hs', ?_⟩
      unfold tcom
      rw [cl_q, hq]
    · exact ⟨_, .come hs' hp hq, cl_come hs s p⟩
theorem SReach.of_rr {words : Int} {hs : List (List Ln)} (hW : Well words hs) {t : TS} (h : SReach hs t) : ∃ s, RR false hs s ∧ cl hs s = t := by
  induction h with
  | start => exact ⟨ts0, .start, cl_ts0 hs⟩
  | @step t p _ hp ih =>
    obtain ⟨s, hs', rfl⟩ := ih
    have hq := hs'.q_nil p
    cases hl : rnext hs s p with
    | none =>
      refine ⟨s, hs', ?_⟩
      rw [cl_stay hl]
      unfold tcom
      rw [cl_q, hq]
    | some l => exact ⟨_, .step hs' hp hl rfl, by rw [rstp_false hq, cl_come, cl_step (well_line hW hl).2.2 hl (by simp [rmay, hq])]⟩

/-- All that may happen next. -/
def rEnd (hs : List (List Ln)) (s : TS) : Prop := ∀ p, p < hs.length → rnext hs s p = none ∧ (s.o p).q = []
theorem rEnd_cl {hs : List (List Ln)} {s : TS} : rEnd hs s ↔ TEnd hs (cl hs s) := by
  constructor
  · intro h p hp
    obtain ⟨h1, h2⟩ := h p hp
    have := List.getElem?_eq_none_iff.1 h1
    exact ⟨by show _ ≤ min (s.o p).n _; omega, h2⟩
  · intro h p hp
    obtain ⟨h1, h2⟩ := h p hp
    have h1' : (hs.getD p []).length ≤ min (s.o p).n (hs.getD p []).length := h1
    exact ⟨List.getElem?_eq_none_iff.2 (by omega), h2⟩
/-- What is told of a row. -/
def rTold (words : Int) (hs : List (List Ln)) (y : List Int) : List Int := refRegs y hs.length ++ refWords y words.toNat
theorem rTold_cl {words : Int} {hs : List (List Ln)} (hW : Well words hs) (s : TS) : rTold words hs (r46 s) = toldOf hs words (e16 (cl hs s)) := by
  have h3 := hW.few
  have hw4 := hW.hi
  have e1 : ∀ k, k ≤ hs.length → regsOf (e16 (cl hs s)) k = refRegs (r46 s) k := by
    intro k hk
    induction k with
    | zero => rfl
    | succ k ih =>
      have r0 := e16_reg (cl hs s) (p := k) (by omega) (r := 0) (by omega) (by omega)
      have r1 := e16_reg (cl hs s) (p := k) (by omega) (r := 1) (by omega) (by omega)
      have q0 := r46_reg s (p := k) (by omega) (r := 0) (by omega) (by omega)
      have q1 := r46_reg s (p := k) (by omega) (r := 1) (by omega) (by omega)
      simp only [Int.toNat_zero, Int.toNat_one, Nat.add_zero] at r0 r1 q0 q1
      rw [regsOf_succ, refRegs_succ, ih (by omega), r0, r1, q0, q1]
      rw [List.append_assoc]
      rfl
  have e2 : wordsOf (e16 (cl hs s)) words.toNat = refWords (r46 s) words.toNat := List.map_congr_left fun i hi => by
    have hi4 : i < 4 := by have := List.mem_range.1 hi; omega
    rw [e16_w _ hi4, r46_w _ hi4]
    rfl
  rw [rTold, toldOf, e1 _ (Nat.le_refl _), e2]
/-- How many rows there are at most. -/
theorem rows_few {words : Int} {hs : List (List Ln)} (hW : Well words hs) (wait : Bool) : ∃ R : List (List Int), R.length ≤ 4459118884992 ∧ ∀ s, RR wait hs s → (∀ p, (s.o p).n ≤ (hs.getD p []).length + 5) → r46 s ∈ R := by
  obtain ⟨L, h1, h2⟩ := few_states hW.few (fun ls hl => by
    obtain ⟨p, hp⟩ := List.getElem?_of_mem hl
    exact hW.short p ls hp)
  let f : TS → Nat → Nat → Nat → List Int := fun t a b c => r46 ⟨fun p => (t.o p).at_ ((t.o p).n + if p = 0 then a else if p = 1 then b else c), t.w⟩
  refine ⟨L.flatMap fun t => (List.range 6).flatMap fun a => (List.range 6).flatMap fun b => (List.range 6).map fun c => f t a b c, ?_, fun s hs' hn => ?_⟩
  · refine Nat.le_trans (flatMap_length_le L _ 216 fun t _ => ?_) (by omega)
    refine Nat.le_trans (flatMap_length_le _ _ 36 fun a _ => ?_) (by simp)
    refine Nat.le_trans (flatMap_length_le _ _ 6 fun b _ => ?_) (by simp)
    simp
  · have hr : TReach hs (cl hs s) := by
      cases wait with
      | true => exact hs'.cl_reach hW
      | false => exact (hs'.cl_sreach hW).treach
    have ex : ∀ p, (s.o p).n - min (s.o p).n (hs.getD p []).length < 6 := fun p => by have := hn p; omega
    have ad : ∀ p, min (s.o p).n (hs.getD p []).length + ((s.o p).n - min (s.o p).n (hs.getD p []).length) = (s.o p).n := fun p => by omega
    refine List.mem_flatMap.2 ⟨cl hs s, h2 _ hr, List.mem_flatMap.2 ⟨_, List.mem_range.2 (ex 0), List.mem_flatMap.2 ⟨_, List.mem_range.2 (ex 1), List.mem_map.2 ⟨_, List.mem_range.2 (ex 2), ?_⟩⟩⟩⟩
    show r46 _ = r46 s
    refine r46_of ?_ (fun p _ => rfl)
    unfold r13
    simp only [cl, Own.at_, if_true]
    rw [ad 0, if_neg (show ¬ (1 : Nat) = 0 by omega), if_neg (show ¬ (2 : Nat) = 0 by omega), if_neg (show ¬ (2 : Nat) = 1 by omega), ad 1, ad 2]
end Go.Proofs.YthpnnmkpbkbanaaDoor

/-
  The search of the document's answer: what is known, what is looked at, and what is told: plain mathematics.
-/
namespace Go.Proofs.YthpnnmkpbkbanaaDoor

theorem RR.tok {words : Int} {hs : List (List Ln)} (hW : Well words hs) {wait : Bool} {s : TS} (h : RR wait hs s) : TOk words hs (cl hs s) := by
  cases wait with
  | true => exact (h.cl_reach hW).ok hW
  | false => exact ((h.cl_sreach hW).treach).ok hW
theorem RR.idle {wait : Bool} {hs : List (List Ln)} {s : TS} (h : RR wait hs s) : ∀ p, hs.length ≤ p → s.o p = own0 := by
  induction h with
  | start => exact fun _ _ => rfl
  | @step s p l _ hp hl hm ih =>
    intro j hj
    have e : j ≠ p := by omega
    rw [← ih j hj]
    unfold rstp rdo
    dsimp only
    repeat' split
    all_goals simp [upd_other e]
  | @come s p _ hp _ ih =>
    intro j hj
    rw [tcom_other (by omega)]; exact ih j hj
theorem okLn_leave5 {words : Int} {l : Ln} (h : okLn words l = true) (hk : l.k = 5) : l.v ≤ 5 := by
  unfold okLn at h
  rw [if_neg (by omega), if_neg (by omega), if_neg (by omega), if_pos hk] at h
  exact (inR_true.1 (Bool.and_eq_true _ _ ▸ h).2).2
theorem RR.nle {words : Int} {hs : List (List Ln)} (hW : Well words hs) {wait : Bool} {s : TS} (h : RR wait hs s) : ∀ p, (s.o p).n ≤ (hs.getD p []).length + 5 := by
  induction h with
  | start => exact fun _ => Nat.zero_le _
  | @step s p l _ hp hl hm ih =>
    intro j
    by_cases e : j = p
    · subst e
      have hlt := lt_of_line hl
      have h5 := well_short hW j
      have hok := (well_line hW hl).2.2
      have hv : l.k = 5 → l.v.toNat ≤ 5 := fun k => by have := okLn_leave5 hok k; omega
      unfold rstp rdo
      dsimp only
      repeat' split
      all_goals simp only [upd_same, setReg_n, Own.at_]
      all_goals first | omega | (have := hv (by assumption); omega)
    · have e1 : ((rstp wait s p l).o j) = s.o j := by
        unfold rstp rdo
        dsimp only
        repeat' split
        all_goals simp [upd_other e]
      rw [e1]; exact ih j
  | @come s p _ hp _ ih =>
    intro j
    have : ((tcom s p).o j).n = (s.o j).n := by
      unfold tcom
      split
      · rfl
      · by_cases e : j = p
        · subst e; simp [upd_same, Own.pop]
        · simp [upd_other e]
    rw [this]; exact ih j
theorem RR.n10 {words : Int} {hs : List (List Ln)} (hW : Well words hs) {wait : Bool} {s : TS} (h : RR wait hs s) (p : Nat) : (s.o p).n ≤ 10 := by
  have h1 := h.nle hW p
  have h2 := well_short hW p
  omega
theorem RR.q5 {words : Int} {hs : List (List Ln)} (hW : Well words hs) {wait : Bool} {s : TS} (h : RR wait hs s) (p : Nat) : (s.o p).q.length ≤ 5 := (h.tok hW).q5 hW p
theorem RR.len {words : Int} {hs : List (List Ln)} (hW : Well words hs) {wait : Bool} {s : TS} (h : RR wait hs s) : (r46 s).length = 46 := r46_length fun p _ => h.q5 hW p
theorem r46_inj {words : Int} {hs : List (List Ln)} (hW : Well words hs) {wait : Bool} {s t : TS} (hs' : RR wait hs s) (ht : RR wait hs t) (h : r46 s = r46 t) : s = t := by
  have h4 := hW.hi
  have h3 := hW.few
  unfold r46 at h
  have h1 : r13 s = r13 t := List.append_inj_left h (by rw [r13_length, r13_length])
  have h2 := List.append_inj_right h (by rw [r13_length, r13_length])
  have q0 := List.append_inj_left h2 (by rw [qrow_length (hs'.q5 hW 0), qrow_length (ht.q5 hW 0)])
  have h2' := List.append_inj_right h2 (by rw [qrow_length (hs'.q5 hW 0), qrow_length (ht.q5 hW 0)])
  have q1 := List.append_inj_left h2' (by rw [qrow_length (hs'.q5 hW 1), qrow_length (ht.q5 hW 1)])
  have q2 := List.append_inj_right h2' (by rw [qrow_length (hs'.q5 hW 1), qrow_length (ht.q5 hW 1)])
  have q0 := qrow_inj q0
  have q1 := qrow_inj q1
  have q2 := qrow_inj q2
  unfold r13 at h1
  simp only [List.cons.injEq, and_true] at h1
  obtain ⟨n0, a0, b0, n1, a1, b1, n2, a2, b2, w0, w1, w2, w3⟩ := h1
  have own_ext : ∀ (x y : Own), x.a = y.a → x.b = y.b → x.n = y.n → x.q = y.q → x = y := fun x y e1 e2 e3 e4 => by
    obtain ⟨xa, xb, xn, xq⟩ := x
    obtain ⟨ya, yb, yn, yq⟩ := y
    simp only at e1 e2 e3 e4
    rw [e1, e2, e3, e4]
  have is := hs'.idle
  have it' := ht.idle
  have ws := (hs'.tok hW).wz
  have wt := (ht.tok hW).wz
  obtain ⟨so, sw⟩ := s
  obtain ⟨t_o, tw⟩ := t
  simp only [TS.mk.injEq]
  refine ⟨?_, ?_⟩
  · funext p
    have hp : p = 0 ∨ p = 1 ∨ p = 2 ∨ 3 ≤ p := by omega
    rcases hp with rfl | rfl | rfl | hp
    · exact own_ext _ _ a0 b0 (Int.ofNat.inj n0) q0
    · exact own_ext _ _ a1 b1 (Int.ofNat.inj n1) q1
    · exact own_ext _ _ a2 b2 (Int.ofNat.inj n2) q2
    · exact (is p (by omega)).trans (it' p (by omega)).symm
  · funext d
    have hd : d = 0 ∨ d = 1 ∨ d = 2 ∨ d = 3 ∨ 4 ≤ d := by omega
    rcases hd with rfl | rfl | rfl | rfl | hd
    · exact w0
    · exact w1
    · exact w2
    · exact w3
    · exact (ws d (by omega)).trans (wt d (by omega)).symm
/-- All numbers of a row are small. -/
theorem RR.small {words : Int} {hs : List (List Ln)} (hW : Well words hs) {wait : Bool} {s : TS} (h : RR wait hs s) : ∀ x ∈ r46 s, 0 ≤ x ∧ x ≤ 1000 := by
  have hok := h.tok hW
  have hn := h.n10 hW
  have h4 := hW.hi
  have hqs : ∀ p, ∀ x ∈ qrow (s.o p).q, 0 ≤ x ∧ x ≤ 1000 := fun p x hx => by
    have h5 := h.q5 hW p
    unfold qrow at hx
    rcases List.mem_cons.1 hx with rfl | hx
    · omega
    · rcases List.mem_append.1 hx with hx | hx
      · obtain ⟨e, he, hx⟩ := List.mem_flatMap.1 hx
        have := hok.rq p e he
        have h2 : In1000 e.2 := this.2
        unfold In1000 at h2
        rcases List.mem_cons.1 hx with rfl | hx
        · omega
        · rw [List.mem_singleton.1 hx]; exact h2
      · rw [List.eq_of_mem_replicate hx]; omega
  intro x hx
  unfold r46 at hx
  rcases List.mem_append.1 hx with hx | hx
  · have a0 : In1000 (s.o 0).a := hok.ra 0
    have a1 : In1000 (s.o 1).a := hok.ra 1
    have a2 : In1000 (s.o 2).a := hok.ra 2
    have b0 : In1000 (s.o 0).b := hok.rb 0
    have b1 : In1000 (s.o 1).b := hok.rb 1
    have b2 : In1000 (s.o 2).b := hok.rb 2
    have w0 : In1000 (s.w 0) := hok.rw_ 0
    have w1 : In1000 (s.w 1) := hok.rw_ 1
    have w2 : In1000 (s.w 2) := hok.rw_ 2
    have w3 : In1000 (s.w 3) := hok.rw_ 3
    have n0 := hn 0
    have n1 := hn 1
    have n2 := hn 2
    unfold In1000 at a0 a1 a2 b0 b1 b2 w0 w1 w2 w3
    unfold r13 at hx
    simp only [List.mem_cons, List.not_mem_nil, or_false] at hx
    rcases hx with rfl | rfl | rfl | rfl | rfl | rfl | rfl | rfl | rfl | rfl | rfl | rfl | rfl
    all_goals first | assumption | omega
  · rcases List.mem_append.1 hx with hx | hx
    · exact hqs 0 x hx
    · rcases List.mem_append.1 hx with hx | hx
      · exact hqs 1 x hx
      · exact hqs 2 x hx

/-- A known row, of which the hands below k have made their steps. -/
def RDone (wait : Bool) (hs : List (List Ln)) (known : List (List Int)) (s : TS) (k : Nat) : Prop :=
  ∀ p, p < k → (∀ l, rnext hs s p = some l → rmay wait s p l = true → r46 (rstp wait s p l) ∈ known) ∧ ((s.o p).q ≠ [] → r46 (tcom s p) ∈ known)
theorem RDone.more {wait : Bool} {hs : List (List Ln)} {known known' : List (List Int)} {s : TS} {k : Nat} (h : RDone wait hs known s k) (hk : ∀ y ∈ known, y ∈ known') : RDone wait hs known' s k :=
  fun p hp => ⟨fun l hl hm => hk _ ((h p hp).1 l hl hm), fun hq => hk _ ((h p hp).2 hq)⟩
structure RKnow (wait : Bool) (hs : List (List Ln)) (known : List (List Int)) (a : Nat) : Prop where
  nd : known.Nodup
  rch : ∀ y ∈ known, ∃ s, RR wait hs s ∧ r46 s = y
  st : r46 ts0 ∈ known
  cl : ∀ (j : Nat) (y : List Int), j < a → known[j]? = some y → ∃ s, RR wait hs s ∧ r46 s = y ∧ RDone wait hs known s hs.length
theorem RKnow.start (wait : Bool) (hs : List (List Ln)) : RKnow wait hs [r46 ts0] 0 :=
  ⟨by simp, fun _ hy => ⟨ts0, .start, (List.mem_singleton.1 hy).symm⟩, by simp, fun j y hj => by omega⟩
theorem RKnow.few {words : Int} {hs : List (List Ln)} (hW : Well words hs) {wait : Bool} {known : List (List Int)} {a : Nat} (h : RKnow wait hs known a) : known.length ≤ 4459118884992 := by
  obtain ⟨R, h1, h2⟩ := rows_few hW wait
  refine Nat.le_trans (nodup_le h.nd fun y hy => ?_) h1
  obtain ⟨s, hs', rfl⟩ := h.rch y hy
  exact h2 s hs' (hs'.nle hW)
theorem ins1_mem {l : List (List Int)} {x y : List Int} (h : y ∈ l) : y ∈ ins1 l x := mem_ins1.2 (Or.inl h)
theorem ins1_get {l : List (List Int)} {x : List Int} {j : Nat} (hj : j < l.length) : (ins1 l x)[j]? = l[j]? := by
  unfold ins1
  split
  · rfl
  · rw [List.getElem?_append_left hj]
theorem RKnow.put {wait : Bool} {hs : List (List Ln)} {known : List (List Int)} {a : Nat} (h : RKnow wait hs known a) (ha : a ≤ known.length) {t : TS} (ht : RR wait hs t) : RKnow wait hs (ins1 known (r46 t)) a := by
  refine ⟨?_, fun y hy => ?_, ins1_mem h.st, fun j y hj hy => ?_⟩
  · unfold ins1
    split
    · exact h.nd
    · rename_i hn; exact nodup_snoc h.nd hn
  · rcases mem_ins1.1 hy with hy | rfl
    · exact h.rch y hy
    · exact ⟨t, ht, rfl⟩
  · rw [ins1_get (by omega)] at hy
    obtain ⟨s, h1, h2, h3⟩ := h.cl j y hj hy
    exact ⟨s, h1, h2, h3.more fun _ => ins1_mem⟩
theorem RKnow.done {wait : Bool} {hs : List (List Ln)} {known : List (List Int)} {a : Nat} (h : RKnow wait hs known a) {s : TS} (hs' : RR wait hs s) (hy : known[a]? = some (r46 s)) (hd : RDone wait hs known s hs.length) : RKnow wait hs known (a + 1) := by
  refine ⟨h.nd, h.rch, h.st, fun j y hj hjy => ?_⟩
  rcases Nat.lt_or_ge j a with hlt | hge
  · exact h.cl j y hlt hjy
  · obtain rfl : j = a := by omega
    rw [hy] at hjy
    exact ⟨s, hs', Option.some.inj hjy, hd⟩
theorem RKnow.all {words : Int} {hs : List (List Ln)} (hW : Well words hs) {wait : Bool} {known : List (List Int)} {a : Nat} (h : RKnow wait hs known a) (ha : known.length ≤ a) {s : TS} (hs' : RR wait hs s) : r46 s ∈ known := by
  have key : ∀ t, RR wait hs t → r46 t ∈ known → RDone wait hs known t hs.length := fun t ht hm => by
    obtain ⟨j, hj⟩ := List.getElem?_of_mem hm
    have hjl := (List.getElem?_eq_some_iff.1 hj).1
    obtain ⟨u, h1, h2, h3⟩ := h.cl j _ (by omega) hj
    rwa [← r46_inj hW h1 ht h2]
  induction hs' with
  | start => exact h.st
  | @step s p l h1 hp hl hm ih => exact (key s h1 ih p hp).1 l hl hm
  | @come s p h1 hp hq ih => exact (key s h1 ih p hp).2 hq

/-- What is told so far. -/
structure ROut (wait : Bool) (words : Int) (hs : List (List Ln)) (known : List (List Int)) (a : Nat) (out : List (List Int)) : Prop where
  ris : Rises out
  len : ∀ z ∈ out, z.length = hs.length * 2 + words.toNat
  of_ : ∀ t ∈ out, ∃ s, RR wait hs s ∧ rEnd hs s ∧ rTold words hs (r46 s) = t
  has : ∀ (j : Nat) (s : TS), j < a → known[j]? = some (r46 s) → RR wait hs s → rEnd hs s → rTold words hs (r46 s) ∈ out
theorem rTold_length {words : Int} {hs : List (List Ln)} {y : List Int} : (rTold words hs y).length = hs.length * 2 + words.toNat := by rw [rTold, List.length_append, refRegs_length, refWords_length]
theorem ROut.start (wait : Bool) (words : Int) (hs : List (List Ln)) (known : List (List Int)) : ROut wait words hs known 0 [] :=
  ⟨List.Pairwise.nil, by simp, by simp, fun j s hj => by omega⟩
theorem ROut.put {wait : Bool} {words : Int} {hs : List (List Ln)} {known : List (List Int)} {a : Nat} {out : List (List Int)} (h : ROut wait words hs known a out) {s : TS} (hs' : RR wait hs s) (hy : known[a]? = some (r46 s)) (he : rEnd hs s) :
    ROut wait words hs known (a + 1) (putL out (rTold words hs (r46 s))) := by
  have hm : ∀ t, t ∈ putL out (rTold words hs (r46 s)) ↔ t ∈ out ∨ t = rTold words hs (r46 s) := fun t => mem_putL _ rTold_length h.len
  refine ⟨putL_rises h.ris, fun z hz => ?_, fun t ht => ?_, fun j t hj hjt ht het => ?_⟩
  · rcases (hm z).1 hz with hz | rfl
    · exact h.len z hz
    · exact rTold_length
  · rcases (hm t).1 ht with ht | rfl
    · exact h.of_ t ht
    · exact ⟨s, hs', he, rfl⟩
  · rcases Nat.lt_or_ge j a with hlt | hge
    · exact (hm _).2 (Or.inl (h.has j t hlt hjt ht het))
    · obtain rfl : j = a := by omega
      rw [hy] at hjt
      exact (hm _).2 (Or.inr (by rw [Option.some.inj hjt]))
theorem ROut.skip {wait : Bool} {words : Int} {hs : List (List Ln)} {known : List (List Int)} {a : Nat} {out : List (List Int)} (hW : Well words hs) (h : ROut wait words hs known a out) {s : TS} (hs' : RR wait hs s) (hy : known[a]? = some (r46 s)) (he : ¬ rEnd hs s) :
    ROut wait words hs known (a + 1) out := by
  refine ⟨h.ris, h.len, h.of_, fun j t hj hjt ht het => ?_⟩
  rcases Nat.lt_or_ge j a with hlt | hge
  · exact h.has j t hlt hjt ht het
  · obtain rfl : j = a := by omega
    rw [hy] at hjt
    rw [← r46_inj hW hs' ht (Option.some.inj hjt)] at het
    exact absurd het he
theorem ROut.more {wait : Bool} {words : Int} {hs : List (List Ln)} {known : List (List Int)} {a : Nat} {out : List (List Int)} (h : ROut wait words hs known a out) (ha : a ≤ known.length) (x : List Int) : ROut wait words hs (ins1 known x) a out :=
  ⟨h.ris, h.len, h.of_, fun j s hj hy => h.has j s hj (by rwa [ins1_get (by omega)] at hy)⟩
theorem ROut.mem {wait : Bool} {words : Int} {hs : List (List Ln)} {known : List (List Int)} {a : Nat} {out : List (List Int)} (hW : Well words hs) (h : ROut wait words hs known a out) (hk : RKnow wait hs known a) (ha : known.length ≤ a) (t : List Int) :
    t ∈ out ↔ ∃ s, RR wait hs s ∧ rEnd hs s ∧ rTold words hs (r46 s) = t := by
  refine ⟨h.of_ t, ?_⟩
  rintro ⟨s, h1, h2, rfl⟩
  obtain ⟨j, hj⟩ := List.getElem?_of_mem (hk.all hW ha h1)
  exact h.has j s (by have := (List.getElem?_eq_some_iff.1 hj).1; omega) hj h1 h2
/-- Where it waits it is what the program tells. -/
theorem ROut.tso {words : Int} {hs : List (List Ln)} {known : List (List Int)} {a : Nat} {out : List (List Int)} (hW : Well words hs) (h : ROut true words hs known a out) (hk : RKnow true hs known a) (ha : known.length ≤ a) : TsoOf words hs out := by
  refine ⟨h.ris, fun t => (h.mem hW hk ha t).trans ⟨?_, ?_⟩⟩
  · rintro ⟨s, h1, h2, rfl⟩
    exact ⟨cl hs s, h1.cl_reach hW, rEnd_cl.1 h2, (rTold_cl hW s).symm⟩
  · rintro ⟨t', h1, h2, rfl⟩
    obtain ⟨s, h3, rfl⟩ := TReach.of_rr hW h1
    exact ⟨s, h3, rEnd_cl.2 h2, rTold_cl hW s⟩
theorem tsoOf_ext {words : Int} {hs : List (List Ln)} {a b : List (List Int)} (ha : TsoOf words hs a) (hb : TsoOf words hs b) : a = b :=
  rises_ext ha.1 hb.1 fun x => (ha.2 x).trans (hb.2 x).symm
/-- Where nothing waits it is what the program tells. -/
theorem ROut.sc {words : Int} {hs : List (List Ln)} {known : List (List Int)} {a : Nat} {out : List (List Int)} (hW : Well words hs) (h : ROut false words hs known a out) (hk : RKnow false hs known a) (ha : known.length ≤ a) : out = scR words hs := by
  have h3 := hW.few
  refine rises_ext h.ris (scR_facts words hs).1 fun t => (h.mem hW hk ha t).trans (Iff.trans ?_ (mem_scR hW t).symm)
  constructor
  · rintro ⟨s, h1, h2, rfl⟩
    refine ⟨e16 (cl hs s), (h1.cl_sreach hW).reach hW, (end_e16 h3).2 fun p hp => ?_, (rTold_cl hW s).symm⟩
    exact ((rEnd_cl.1 h2) p hp).1
  · rintro ⟨z, h1, h2, rfl⟩
    obtain ⟨t, h4, rfl⟩ := Reach.sreach hW h1
    obtain ⟨s, h5, rfl⟩ := SReach.of_rr hW h4
    refine ⟨s, h5, rEnd_cl.2 fun p hp => ⟨(end_e16 h3).1 h2 p hp, ?_⟩, rTold_cl hW s⟩
    exact h5.q_nil p
end Go.Proofs.YthpnnmkpbkbanaaDoor

/-
  What waits, in a row of the document's answer: plain mathematics.
-/
namespace Go.Proofs.YthpnnmkpbkbanaaDoor

theorem preQ_length {s : TS} {p : Nat} (hp : p < 3) (hq : ∀ p, (s.o p).q.length ≤ 5) : (preQ s p).length = p * 11 := by
  have h3 : p = 0 ∨ p = 1 ∨ p = 2 := by omega
  rcases h3 with rfl | rfl | rfl
  · rfl
  · simp [preQ, qrow_length (hq 0)]
  · simp [preQ, qrow_length (hq 0), qrow_length (hq 1)]
theorem r46_mid (s : TS) {p : Nat} (hp : p < 3) : r46 s = (r13 s ++ preQ s p) ++ (qrow (s.o p).q ++ postQ s p) := by
  have h3 : p = 0 ∨ p = 1 ∨ p = 2 := by omega
  rcases h3 with rfl | rfl | rfl
  · simp [r46, preQ, postQ]
  · simp [r46, preQ, postQ]
  · simp [r46, preQ, postQ]
theorem r46_at {s : TS} {p : Nat} (hp : p < 3) (hq : ∀ p, (s.o p).q.length ≤ 5) {i : Nat} (hi : i < 11) : (r46 s)[13 + p * 11 + i]? = (qrow (s.o p).q)[i]? := by
  rw [r46_mid s hp]
  have hl : (r13 s ++ preQ s p).length = 13 + p * 11 := by rw [List.length_append, preQ_length hp hq, r13_length]
  rw [← hl]
  exact get_mid _ _ _ _ (by rw [qrow_length (hq p)]; exact hi)
theorem r46_cnt {s : TS} {p : Nat} (hp : p < 3) (hq : ∀ p, (s.o p).q.length ≤ 5) : (r46 s)[13 + p * 11]? = some (((s.o p).q.length : Nat) : Int) := by
  have := r46_at hp hq (i := 0) (by omega)
  rw [Nat.add_zero] at this
  rw [this]
  rfl
theorem rnext_some {words : Int} {hs : List (List Ln)} (hW : Well words hs) {s : TS} {p : Nat} {l : Ln} (h : rnext hs s p = some l) : nextOf hs (r46 s) p = (l, true) := by
  obtain ⟨hp, hl, _⟩ := well_line hW h
  exact nextOf_some hl (r46_n s (by have := hW.few; omega)) h
theorem rnext_none {words : Int} {hs : List (List Ln)} (hW : Well words hs) {s : TS} {p : Nat} (hp : p < hs.length) (h : rnext hs s p = none) : nextOf hs (r46 s) p = (⟨0, 0, 0, 0⟩, false) := by
  have hl : hs[p]? = some (hs.getD p []) := by rw [List.getD_eq_getElem?_getD, List.getElem?_eq_getElem hp]; rfl
  exact nextOf_none hl (r46_n s (by have := hW.few; omega)) (List.getElem?_eq_none_iff.1 h)
theorem rstp_rdo {s : TS} {p : Nat} {l : Ln} (hq : (s.o p).q = []) : rstp false s p l = rdo s p l := by
  unfold rstp
  dsimp only
  rw [if_neg (by simp)]
  by_cases k1 : l.k = 1
  · rw [if_pos k1, hq]
    unfold rdo
    dsimp only
    rw [if_neg (by omega), if_pos k1]
    rfl
  · rw [if_neg k1]
end Go.Proofs.YthpnnmkpbkbanaaDoor
