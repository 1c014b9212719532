/-
  The document's answer's state, all in one row, beside the program's: plain mathematics.
-/
import Derived.Test.YtkohobbjnafljaaDoorFinMath
namespace Go.Proofs.YtkohobbjnafljaaDoor

/-- The next line of a hand, and whether there is one. -/
def nextOf (hs : List (List Ln)) (ys : List Int) (h : Nat) : Ln × Bool :=
  let ls := hs.getD h []
  let pc := ys.getD (h * 3) 0
  if (ls.length : Int) ≤ pc then (⟨0, 0, 0, 0⟩, false) else (ls.getD pc.toNat ⟨0, 0, 0, 0⟩, true)
/-- A line, done. -/
def refDone (ys : List Int) (h : Nat) (l : Ln) : List Int :=
  let n := ys.getD (h * 3) 0
  let y := ys.set (h * 3) (n + 1)
  let r := h * 3 + 1 + l.r.toNat
  let d := 9 + l.d.toNat
  if l.k = 0 then y.set r l.v
  else if l.k = 1 then y.set r (y.getD d 0)
  else if l.k = 2 then y.set d (y.getD r 0)
  else if l.k = 3 then (y.set r (y.getD d 0)).set d (y.getD r 0)
  else if l.k = 5 then (if y.getD r 0 = 0 then y.set (h * 3) (n + 1 + l.v) else y)
  else y
def refStep (hs : List (List Ln)) (ys : List Int) (h : Nat) : List Int := if (nextOf hs ys h).2 then refDone ys h (nextOf hs ys h).1 else ys

/-- The two states go together. -/
structure Sim (hs : List (List Ln)) (zs ys : List Int) : Prop where
  lz : zs.length = 16
  ly : ys.length = 46
  reg : ∀ p r, p < 3 → r < 2 → zs.getD (p * 4 + r) 0 = ys.getD (p * 3 + 1 + r) 0
  word : ∀ i, i < 4 → zs.getD (12 + i) 0 = ys.getD (9 + i) 0
  line : ∀ p, p < hs.length → ∃ n m : Nat, zs[p * 4 + 2]? = some (n : Int) ∧ ys[p * 3]? = some (m : Int) ∧ m ≤ 20 ∧ (n = m ∨ (hs.getD p []).length ≤ n ∧ (hs.getD p []).length ≤ m)

theorem getD_set {l : List Int} {i j : Nat} {v : Int} (h : i < l.length) : (l.set i v).getD j 0 = if i = j then v else l.getD j 0 := by
  simp only [List.getD_eq_getElem?_getD, List.getElem?_set]
  split
  · rfl
  · rfl
theorem Sim.setReg {hs : List (List Ln)} {zs ys : List Int} (h : Sim hs zs ys) (p r : Nat) (hp : p < 3) (hr : r < 2) (v : Int) : Sim hs (zs.set (p * 4 + r) v) (ys.set (p * 3 + 1 + r) v) := by
  have hz := h.lz
  have hy := h.ly
  refine ⟨by simp [hz], by simp [hy], fun q s hq hs2 => ?_, fun i hi => ?_, fun q hq => ?_⟩
  · rw [getD_set (by omega), getD_set (by omega)]
    by_cases e : p * 4 + r = q * 4 + s
    · rw [if_pos e, if_pos (by omega)]
    · rw [if_neg e, if_neg (by omega)]; exact h.reg q s hq hs2
  · rw [getD_set (by omega), getD_set (by omega), if_neg (by omega), if_neg (by omega)]; exact h.word i hi
  · obtain ⟨n, m, h1, h2, h4⟩ := h.line q hq
    exact ⟨n, m, by rw [List.getElem?_set_ne (by omega)]; exact h1, by rw [List.getElem?_set_ne (by omega)]; exact h2, h4⟩
theorem Sim.setWord {hs : List (List Ln)} {zs ys : List Int} (h : Sim hs zs ys) (h3 : hs.length ≤ 3) (d : Nat) (hd : d < 4) (v : Int) : Sim hs (zs.set (12 + d) v) (ys.set (9 + d) v) := by
  have hz := h.lz
  have hy := h.ly
  refine ⟨by simp [hz], by simp [hy], fun q s hq hs2 => ?_, fun i hi => ?_, fun q hq => ?_⟩
  · rw [getD_set (by omega), getD_set (by omega), if_neg (by omega), if_neg (by omega)]; exact h.reg q s hq hs2
  · rw [getD_set (by omega), getD_set (by omega)]
    by_cases e : d = i
    · rw [if_pos (by omega), if_pos (by omega)]
    · rw [if_neg (by omega), if_neg (by omega)]; exact h.word i hi
  · obtain ⟨n, m, h1, h2, h4⟩ := h.line q hq
    exact ⟨n, m, by rw [List.getElem?_set_ne (by omega)]; exact h1, by rw [List.getElem?_set_ne (by omega)]; exact h2, h4⟩
theorem Sim.setLine {hs : List (List Ln)} {zs ys : List Int} (h : Sim hs zs ys) (h3 : hs.length ≤ 3) (p n m : Nat) (hp : p < hs.length) (hm : m ≤ 20) (hnm : n = m ∨ (hs.getD p []).length ≤ n ∧ (hs.getD p []).length ≤ m) : Sim hs (zs.set (p * 4 + 2) n) (ys.set (p * 3) m) := by
  have hz := h.lz
  have hy := h.ly
  refine ⟨by simp [hz], by simp [hy], fun q s hq hs2 => ?_, fun i hi => ?_, fun q hq => ?_⟩
  · rw [getD_set (by omega), getD_set (by omega), if_neg (by omega), if_neg (by omega)]; exact h.reg q s hq hs2
  · rw [getD_set (by omega), getD_set (by omega), if_neg (by omega), if_neg (by omega)]; exact h.word i hi
  · by_cases e : q = p
    · subst e
      exact ⟨n, m, by rw [List.getElem?_set_self (by omega)], by rw [List.getElem?_set_self (by omega)], hm, hnm⟩
    · obtain ⟨n', m', h1, h2, h4⟩ := h.line q hq
      exact ⟨n', m', by rw [List.getElem?_set_ne (by omega)]; exact h1, by rw [List.getElem?_set_ne (by omega)]; exact h2, h4⟩

theorem nextOf_some {hs : List (List Ln)} {ys : List Int} {p m : Nat} {ls : List Ln} {l : Ln} (hl : hs[p]? = some ls) (hm : ys[p * 3]? = some (m : Int)) (hln : ls[m]? = some l) : nextOf hs ys p = (l, true) := by
  have hlt := (List.getElem?_eq_some_iff.1 hln).1
  simp only [nextOf, List.getD_eq_getElem?_getD, hl, hm, Option.getD_some]
  rw [if_neg (by omega), Int.toNat_natCast, hln]; rfl
theorem nextOf_none {hs : List (List Ln)} {ys : List Int} {p m : Nat} {ls : List Ln} (hl : hs[p]? = some ls) (hm : ys[p * 3]? = some (m : Int)) (hge : ls.length ≤ m) : nextOf hs ys p = (⟨0, 0, 0, 0⟩, false) := by
  simp only [nextOf, List.getD_eq_getElem?_getD, hl, hm, Option.getD_some]
  rw [if_pos (by omega)]

theorem sim_step {words : Int} {hs : List (List Ln)} {zs ys : List Int} {p : Nat} (hW : Well words hs) (h : Sim hs zs ys) (hp : p < hs.length) : Sim hs (stp hs zs p) (refStep hs ys p) := by
  have h3 := hW.few
  obtain ⟨n, m, hn, hm, hm20, hnm⟩ := h.line p hp
  have hl : hs[p]? = some hs[p] := List.getElem?_eq_getElem hp
  generalize hs[p] = ls at hl
  have hgl : hs.getD p [] = ls := by rw [List.getD_eq_getElem?_getD, hl]; rfl
  rw [hgl] at hnm
  have h5 := hW.short p ls hl
  have hall := hW.okay p ls hl
  rcases Nat.lt_or_ge m ls.length with hlt | hge
  · obtain rfl : n = m := by omega
    have hl1 : ls[n]? = some ls[n] := List.getElem?_eq_getElem hlt
    have hk := List.all_eq_true.1 hall _ (List.mem_of_getElem? hl1)
    generalize ls[n] = l at hl1 hk
    have hx := nextOf_some hl hm hl1
    rw [stp_go hs zs p ls n l hl hn hl1, refStep, hx, if_pos rfl]
    have hg : ys.getD (p * 3) 0 = (n : Int) := by rw [List.getD_eq_getElem?_getD, hm]; rfl
    simp only [refDone, hg]
    have base : Sim hs (zs.set (p * 4 + 2) ((n : Int) + 1)) (ys.set (p * 3) ((n : Int) + 1)) := h.setLine h3 p (n + 1) (n + 1) hp (by omega) (Or.inl rfl)
    generalize zs.set (p * 4 + 2) ((n : Int) + 1) = z at base
    generalize ys.set (p * 3) ((n : Int) + 1) = y at base
    simp only [okLn] at hk
    obtain ⟨k, r, d, v⟩ := l
    simp only at hk ⊢
    have hp3 : p < 3 := by omega
    by_cases k0 : k = 0
    · simp only [if_pos k0]
      rw [if_pos k0, Bool.and_eq_true] at hk
      have hr := inR_true.1 hk.1
      exact base.setReg p r.toNat hp3 (by omega) v
    simp only [if_neg k0]
    rw [if_neg k0] at hk
    have hw4 := hW.hi
    by_cases k1 : k = 1
    · simp only [if_pos k1]
      rw [if_pos (Or.inl k1), Bool.and_eq_true] at hk
      have hr := inR_true.1 hk.1
      have hd := inR_true.1 hk.2
      rw [base.word d.toNat (by omega)]
      exact base.setReg p r.toNat hp3 (by omega) _
    simp only [if_neg k1]
    by_cases k2 : k = 2
    · simp only [if_pos k2]
      rw [if_pos (Or.inr (Or.inl k2)), Bool.and_eq_true] at hk
      have hr := inR_true.1 hk.1
      have hd := inR_true.1 hk.2
      rw [base.reg p r.toNat hp3 (by omega)]
      exact base.setWord h3 d.toNat (by omega) _
    simp only [if_neg k2]
    by_cases k3 : k = 3
    · simp only [if_pos k3]
      rw [if_pos (Or.inr (Or.inr k3)), Bool.and_eq_true] at hk
      have hr := inR_true.1 hk.1
      have hd := inR_true.1 hk.2
      rw [base.reg p r.toNat hp3 (by omega), base.word d.toNat (by omega)]
      exact (base.setReg p r.toNat hp3 (by omega) _).setWord h3 d.toNat (by omega) _
    simp only [if_neg k3]
    by_cases k5 : k = 5
    · simp only [if_pos k5]
      rw [if_neg (by omega), if_neg (by omega), if_pos k5, Bool.and_eq_true] at hk
      have hr := inR_true.1 hk.1
      have hv := inR_true.1 hk.2
      rw [base.reg p r.toNat hp3 (by omega)]
      split
      · obtain ⟨v, rfl⟩ := Int.eq_ofNat_of_zero_le hv.1
        have e1 : min ((n : Int) + 1 + (v : Int)) (ls.length : Int) = ((min (n + 1 + v) ls.length : Nat) : Int) := by omega
        have e2 : (n : Int) + 1 + (v : Int) = ((n + 1 + v : Nat) : Int) := by omega
        rw [e1, e2]
        refine base.setLine h3 p _ _ hp (by omega) ?_
        rw [hgl]; omega
      · exact base
    · simp only [if_neg k5]
      exact base
  · rw [stp_stay hs zs p ls n hl hn (by omega), refStep, nextOf_none hl hm hge, if_neg (by simp)]
    exact h
theorem sim_iter {words : Int} {hs : List (List Ln)} {zs ys : List Int} {p : Nat} (hW : Well words hs) (h : Sim hs zs ys) (hp : p < hs.length) (k : Nat) : Sim hs (iter (fun z => stp hs z p) k zs) (iter (fun y => refStep hs y p) k ys) := by
  induction k with
  | zero => exact h
  | succ k ih => rw [iter_succ, iter_succ]; exact sim_step hW ih hp
def refFin (hs : List (List Ln)) : Nat → List Int → List Int
  | 0, ys => ys
  | k + 1, ys => iter (fun y => refStep hs y k) 6 (refFin hs k ys)
theorem sim_fin {words : Int} {hs : List (List Ln)} {zs ys : List Int} (hW : Well words hs) (h : Sim hs zs ys) : ∀ k, k ≤ hs.length → Sim hs (finN hs k zs) (refFin hs k ys)
  | 0, _ => h
  | k + 1, hk => sim_iter hW (sim_fin hW h k (by omega)) (by omega) 6
def refScripted (hs : List (List Ln)) (ys : List Int) (script : List Int) : List Int := script.foldl (fun y h => refStep hs y h.toNat) ys
theorem refScripted_snoc (hs : List (List Ln)) (ys : List Int) (s : List Int) (h : Int) : refScripted hs ys (s ++ [h]) = refStep hs (refScripted hs ys s) h.toNat := by simp [refScripted, List.foldl_append]
theorem sim_scripted {words : Int} {hs : List (List Ln)} (hW : Well words hs) : ∀ (script : List Int) (zs ys : List Int), Sim hs zs ys → (∀ h ∈ script, 0 ≤ h ∧ h < hs.length) → Sim hs (scripted hs zs script) (refScripted hs ys script)
  | [], _, _, h, _ => h
  | x :: r, zs, ys, h, hm => by
    have := hm x (by simp)
    exact sim_scripted hW r _ _ (sim_step hW h (by omega)) fun y hy => hm y (by simp [hy])
theorem sim_zero (hs : List (List Ln)) (h3 : hs.length ≤ 3) : Sim hs zero16 (List.replicate 46 0) := by
  refine ⟨rfl, rfl, fun p r hp hr => ?_, fun i hi => ?_, fun p hp => ⟨0, 0, ?_, ?_, by omega, Or.inl rfl⟩⟩
  · rw [List.getD_eq_getElem?_getD, List.getD_eq_getElem?_getD, zero16, List.getElem?_replicate, List.getElem?_replicate, if_pos (by omega), if_pos (by omega)]
  · rw [List.getD_eq_getElem?_getD, List.getD_eq_getElem?_getD, zero16, List.getElem?_replicate, List.getElem?_replicate, if_pos (by omega), if_pos (by omega)]
  · rw [zero16, List.getElem?_replicate, if_pos (by omega)]; rfl
  · rw [List.getElem?_replicate, if_pos (by omega)]; rfl

/-- What is told of a row. -/
def refRegs (ys : List Int) (k : Nat) : List Int := (List.range k).flatMap fun p => [ys.getD (p * 3 + 1) 0, ys.getD (p * 3 + 2) 0]
def refWords (ys : List Int) (k : Nat) : List Int := (List.range k).map fun i => ys.getD (9 + i) 0
theorem refRegs_succ (ys : List Int) (k : Nat) : refRegs ys (k + 1) = refRegs ys k ++ [ys.getD (k * 3 + 1) 0] ++ [ys.getD (k * 3 + 2) 0] := by
  unfold refRegs
  rw [List.range_succ, List.flatMap_append]
  simp
theorem refRegs_length (ys : List Int) (k : Nat) : (refRegs ys k).length = k * 2 := by
  induction k with
  | zero => rfl
  | succ k ih => rw [refRegs_succ]; simp [ih]; omega
theorem refWords_length (ys : List Int) (k : Nat) : (refWords ys k).length = k := by simp [refWords]
theorem sim_told {words : Int} {hs : List (List Ln)} {zs ys : List Int} (h3 : hs.length ≤ 3) (hw : words ≤ 4) (h : Sim hs zs ys) : toldOf hs words zs = refRegs ys hs.length ++ refWords ys words.toNat := by
  have e1 : ∀ k, k ≤ hs.length → regsOf zs k = refRegs ys k := by
    intro k hk
    induction k with
    | zero => rfl
    | succ k ih =>
      have r0 := h.reg k 0 (by omega) (by omega)
      have r1 := h.reg k 1 (by omega) (by omega)
      rw [regsOf_succ, refRegs_succ, ih (by omega)]
      simp only [Nat.add_zero] at r0
      rw [r0, r1]
      simp
  have e2 : wordsOf zs words.toNat = refWords ys words.toNat := List.map_congr_left fun i hi => h.word i (by have := List.mem_range.1 hi; omega)
  rw [toldOf, e1 _ (Nat.le_refl _), e2]
/-- THE TWO TELL THE SAME. -/
theorem run_same {words : Int} {hs : List (List Ln)} {script : List Int} (he : runErr words hs script = 0) :
    runTold words hs script = refRegs (refFin hs hs.length (refScripted hs (List.replicate 46 0) script)) hs.length ++ refWords (refFin hs hs.length (refScripted hs (List.replicate 46 0) script)) words.toNat := by
  have hc : check words hs = 0 := by
    apply Classical.byContradiction
    intro hc
    simp [runErr, hc] at he
  have hW := check_well hc
  have hs' : ∀ h ∈ script, 0 ≤ h ∧ h < (hs.length : Int) := by
    intro h hm
    unfold runErr at he
    rw [if_neg (by simp [hc])] at he
    split at he
    · simp at he
    · split at he
      · rename_i ha
        have := inR_true.1 (List.all_eq_true.1 ha h hm)
        omega
      · simp at he
  rw [runTold, if_pos he]
  exact sim_told hW.few hW.hi (sim_fin hW (sim_scripted hW script _ _ (sim_zero hs hW.few) hs') _ (Nat.le_refl _))
end Go.Proofs.YtkohobbjnafljaaDoor
