/-
  A script that says that hand by hand all lines are done tells what no script tells: plain mathematics.
-/
import Derived.Test.YthpnnmkpbkbanaaDoorFinMath
namespace Go.Proofs.YthpnnmkpbkbanaaDoor

/-- A step of one hand does not turn where another one goes on. -/
theorem stp_other {words : Int} {hs : List (List Ln)} {zs : List Int} {p q : Nat} (hW : Well words hs) (hf : Fit hs zs) (hp : p < hs.length) (hq : q < hs.length) (hne : q ≠ p) : (stp hs zs p)[q * 4 + 2]? = zs[q * 4 + 2]? := by
  obtain ⟨hz, hpc⟩ := hf
  obtain ⟨n, hn⟩ := hpc p hp
  have hl : hs[p]? = some hs[p] := List.getElem?_eq_getElem hp
  generalize hs[p] = ls at hl
  have h3 := hW.few
  have hall := hW.okay p ls hl
  rcases Nat.lt_or_ge n ls.length with hlt | hge
  · have hl1 : ls[n]? = some ls[n] := List.getElem?_eq_getElem hlt
    have hk := List.all_eq_true.1 hall _ (List.mem_of_getElem? hl1)
    generalize ls[n] = l at hl1 hk
    rw [stp_go hs zs p ls n l hl hn hl1]
    have base : (zs.set (p * 4 + 2) ((n : Int) + 1))[q * 4 + 2]? = zs[q * 4 + 2]? := List.getElem?_set_ne (by omega)
    have putAt : ∀ (ys : List Int) (i : Nat) (z : Int), i % 4 ≠ 2 ∨ 12 ≤ i → ys[q * 4 + 2]? = zs[q * 4 + 2]? → (ys.set i z)[q * 4 + 2]? = zs[q * 4 + 2]? := fun ys i z hi h => by
      rw [List.getElem?_set_ne (by omega)]; exact h
    simp only [okLn] at hk
    dsimp only
    have r01 : inR l.r 0 1 = true → (p * 4 + l.r.toNat) % 4 ≠ 2 ∨ 12 ≤ p * 4 + l.r.toNat := fun h => by have := inR_true.1 h; omega
    split
    · rename_i k0
      rw [if_pos k0, Bool.and_eq_true] at hk
      exact putAt _ _ _ (r01 hk.1) base
    rename_i k0
    rw [if_neg k0] at hk
    split
    · rename_i k1
      rw [if_pos (Or.inl k1), Bool.and_eq_true] at hk
      exact putAt _ _ _ (r01 hk.1) base
    split
    · exact putAt _ _ _ (Or.inr (by omega)) base
    split
    · rename_i k3
      rw [if_pos (Or.inr (Or.inr k3)), Bool.and_eq_true] at hk
      exact putAt _ _ _ (Or.inr (by omega)) (putAt _ _ _ (r01 hk.1) base)
    split
    · split
      · rw [List.getElem?_set_ne (by omega)]; exact base
      · exact base
    · exact base
  · rw [stp_stay hs zs p ls n hl hn hge]
theorem iter_other {words : Int} {hs : List (List Ln)} {zs : List Int} {p q : Nat} (hW : Well words hs) (hf : Fit hs zs) (hp : p < hs.length) (hq : q < hs.length) (hne : q ≠ p) (k : Nat) : (iter (fun z => stp hs z p) k zs)[q * 4 + 2]? = zs[q * 4 + 2]? := by
  induction k with
  | zero => rfl
  | succ k ih => rw [iter_succ, stp_other hW (iter_fit hW hf hp k).1 hp hq hne, ih]
/-- All lines of hand p are done. -/
def Done (hs : List (List Ln)) (zs : List Int) (p : Nat) : Prop := ∃ n : Nat, zs[p * 4 + 2]? = some (n : Int) ∧ (hs.getD p []).length ≤ n
theorem done_len {words : Int} {hs : List (List Ln)} {zs : List Int} {p : Nat} (hW : Well words hs) (hf : Fit hs zs) (hp : p < hs.length) (k : Nat) (hk : (hs.getD p []).length ≤ k) : Done hs (iter (fun z => stp hs z p) k zs) p := by
  obtain ⟨_, m, hm, h⟩ := iter_fit hW hf hp k
  exact ⟨m, hm, by omega⟩
theorem allOf_of_done {hs : List (List Ln)} {zs : List Int} {p : Nat} (hp : p < hs.length) (h : Done hs zs p) : allOf hs zs p = zs := by
  obtain ⟨n, hn, hl⟩ := h
  have hl1 : hs[p]? = some hs[p] := List.getElem?_eq_getElem hp
  rw [List.getD_eq_getElem?_getD, hl1] at hl
  exact allOf_done hl1 hn hl
theorem allOf_iter {words : Int} {hs : List (List Ln)} {zs : List Int} {p : Nat} (hW : Well words hs) (hf : Fit hs zs) (hp : p < hs.length) (k : Nat) : allOf hs (iter (fun z => stp hs z p) k zs) p = allOf hs zs p := by
  induction k with
  | zero => rfl
  | succ k ih => rw [iter_succ, allOf_stp hW (iter_fit hW hf hp k).1 hp, ih]
/-- As many steps as a hand has lines do all its lines. -/
theorem iter_len {words : Int} {hs : List (List Ln)} {zs : List Int} {p : Nat} (hW : Well words hs) (hf : Fit hs zs) (hp : p < hs.length) : iter (fun z => stp hs z p) (hs.getD p []).length zs = allOf hs zs p := by
  rw [← allOf_iter hW hf hp (hs.getD p []).length]
  exact (allOf_of_done hp (done_len hW hf hp _ (Nat.le_refl _))).symm
theorem allOf_Done {words : Int} {hs : List (List Ln)} {zs : List Int} {p : Nat} (hW : Well words hs) (hf : Fit hs zs) (hp : p < hs.length) : Done hs (allOf hs zs p) p := by
  rw [← iter_len hW hf hp]
  exact done_len hW hf hp _ (Nat.le_refl _)
theorem finN_Done {words : Int} {hs : List (List Ln)} {zs : List Int} (hW : Well words hs) (hf : Fit hs zs) : ∀ k, k ≤ hs.length → ∀ p, p < k → Done hs (finN hs k zs) p
  | 0, _, p, hp => by omega
  | k + 1, hk, p, hp => by
    have hfk := finN_fit hW hf k (by omega)
    rw [finN]
    by_cases e : p = k
    · subst e; exact allOf_Done hW hfk (by omega)
    · obtain ⟨n, hn, hl⟩ := finN_Done hW hf k (by omega) p (by omega)
      exact ⟨n, by rw [allOf, iter_other hW hfk (by omega) (by omega) e]; exact hn, hl⟩
theorem finN_same {hs : List (List Ln)} {zs : List Int} : ∀ k, k ≤ hs.length → (∀ p, p < k → Done hs zs p) → finN hs k zs = zs
  | 0, _, _ => rfl
  | k + 1, hk, h => by
    rw [finN, finN_same k (by omega) fun p hp => h p (by omega)]
    exact allOf_of_done (by omega) (h k (by omega))

/-- The script that says that the first k hands do all their lines. -/
def againS (hs : List (List Ln)) : Nat → List Int
  | 0 => []
  | k + 1 => againS hs k ++ List.replicate (hs.getD k []).length (k : Int)
theorem scripted_append (hs : List (List Ln)) (zs : List Int) (a b : List Int) : scripted hs zs (a ++ b) = scripted hs (scripted hs zs a) b := by simp [scripted, List.foldl_append]
theorem scripted_same (hs : List (List Ln)) (zs : List Int) (p n : Nat) : scripted hs zs (List.replicate n (p : Int)) = iter (fun z => stp hs z p) n zs := by
  induction n generalizing zs with
  | zero => rfl
  | succ n ih =>
    rw [List.replicate_succ, iter]
    show scripted hs (stp hs zs (p : Int).toNat) (List.replicate n (p : Int)) = _
    rw [Int.toNat_natCast, ih]
theorem scripted_again {words : Int} {hs : List (List Ln)} {zs : List Int} (hW : Well words hs) (hf : Fit hs zs) : ∀ k, k ≤ hs.length → scripted hs zs (againS hs k) = finN hs k zs
  | 0, _ => rfl
  | k + 1, hk => by
    rw [againS, scripted_append, scripted_again hW hf k (by omega), scripted_same, finN, iter_len hW (finN_fit hW hf k (by omega)) (by omega)]
theorem againS_length {words : Int} {hs : List (List Ln)} (hW : Well words hs) : ∀ k, k ≤ hs.length → (againS hs k).length ≤ k * 5
  | 0, _ => by simp [againS]
  | k + 1, hk => by
    have h := againS_length hW k (by omega)
    have hl : hs[k]? = some hs[k] := List.getElem?_eq_getElem (by omega)
    have := hW.short k _ hl
    rw [againS, List.length_append, List.length_replicate, List.getD_eq_getElem?_getD, hl, Option.getD_some]
    omega
theorem againS_mem {hs : List (List Ln)} : ∀ k, ∀ h ∈ againS hs k, 0 ≤ h ∧ h < (k : Int)
  | 0, h, hm => by cases hm
  | k + 1, h, hm => by
    rw [againS, List.mem_append] at hm
    rcases hm with hm | hm
    · have := againS_mem k h hm; omega
    · have := List.eq_of_mem_replicate hm; omega
/-- THE TWO ARE ONE. -/
theorem told_again {words : Int} {hs : List (List Ln)} (hc : check words hs = 0) : runErr words hs [] = 0 ∧ runErr words hs (againS hs hs.length) = 0 ∧ runTold words hs (againS hs hs.length) = runTold words hs [] := by
  have hW := check_well hc
  have h3 := hW.few
  have h1 : runErr words hs [] = 0 := by simp [runErr, hc]
  have h2 : runErr words hs (againS hs hs.length) = 0 := by
    have hl := againS_length hW hs.length (Nat.le_refl _)
    have ha : (againS hs hs.length).all (fun h => inR h 0 ((hs.length : Int) - 1)) = true := List.all_eq_true.2 fun h hm => inR_true.2 (by have := againS_mem _ h hm; omega)
    simp [runErr, hc, ha, show ¬ 40 < (againS hs hs.length).length by omega]
  refine ⟨h1, h2, ?_⟩
  have hf := zero16_fit hs h3
  rw [runTold, runTold, if_pos h1, if_pos h2, scripted_again hW hf _ (Nat.le_refl _), finN_same _ (Nat.le_refl _) (finN_Done hW hf _ (Nat.le_refl _))]
  rfl
theorem told_length {words : Int} {hs : List (List Ln)} (hc : check words hs = 0) (s : List Int) (he : runErr words hs s = 0) : ((runTold words hs s).length : Int) = 2 * hs.length + words := by
  have hW := check_well hc
  have := hW.lo
  rw [runTold, if_pos he, toldOf, List.length_append, regsOf_length, wordsOf_length]
  omega
end Go.Proofs.YthpnnmkpbkbanaaDoor
