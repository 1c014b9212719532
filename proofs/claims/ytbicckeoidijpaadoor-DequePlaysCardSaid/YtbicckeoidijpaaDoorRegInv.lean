/-
  A region that draws its order, by what holds whatever has come up: each operation is looked at once.
-/
import Derived.RegionTactic
namespace Go.Proofs.YtbicckeoidijpaaDoor
open Go

/-- What must come up ahead of an operation. -/
def behindOf (md : Region.Mode) (o : Oper) : List Nat := (o.after.toList.filter (Region.binds md)).map (·.on)
/-- Each operation waits for such as stand ahead of it in the text. -/
def lowB (md : Region.Mode) (ops : Array Oper) : Bool := (List.range ops.size).all fun i => match ops[i]? with | some o => (behindOf md o).all fun d => decide (d < i) | none => true
/-- One more has come up. -/
def cup (L : Nat → Bool) (i j : Nat) : Bool := if j = i then true else L j
theorem cup_self (L : Nat → Bool) (i : Nat) : cup L i i = true := by simp [cup]
theorem cup_off {L : Nat → Bool} {i j : Nat} (h : j ≠ i) (hc : cup L i j = true) : L j = true := by simpa [cup, h] using hc
theorem cup_fal {L : Nat → Bool} {i j : Nat} (h : j ≠ i) (hc : cup L i j = false) : L j = false := by simpa [cup, h] using hc
theorem cup_on {L : Nat → Bool} {i j : Nat} (hc : L j = true) : cup L i j = true := by simp [cup, hc]
section
variable {P : Program} {md : Region.Mode} {ops : Array Oper} {Q : Exit → Act → World → Prop} {I : (Nat → Bool) → Act → World → Prop}
/-- What an operation has to show. -/
def StepOk (P : Program) (md : Region.Mode) (ops : Array Oper) (Q : Exit → Act → World → Prop) (I : (Nat → Bool) → Act → World → Prop) (i : Nat) : Prop :=
  ∀ L a w, L i = false → (∀ o, ops[i]? = some o → ∀ d ∈ behindOf md o, L d = true) → I L a w → wpOp P ops Q i (I (cup L i)) a w
def StepsOk (P : Program) (md : Region.Mode) (ops : Array Oper) (Q : Exit → Act → World → Prop) (I : (Nat → Bool) → Act → World → Prop) (is : List Nat) : Prop := ∀ i ∈ is, StepOk P md ops Q I i
theorem StepsOk.nil : StepsOk P md ops Q I [] := fun _ h => by cases h
theorem StepsOk.cons {i : Nat} {o : Oper} {ds is : List Nat} (ho : ops[i]? = some o) (hb : behindOf md o = ds)
    (h : ∀ (L : Nat → Bool) (a : Act) (w : World), L i = false → (∀ d ∈ ds, L d = true) → I L a w → ∀ K : Act → World → Prop, (∀ a w, I (cup L i) a w → K a w) → if Region.wanted o (yielded ops a.tmps) = true then Oper.wp P o a w K Q else K (a.put o.dst undef) w)
    (hs : StepsOk P md ops Q I is) : StepsOk P md ops Q I (i :: is) := fun j hj => by
  rcases List.mem_cons.1 hj with rfl | hj
  · exact fun L a w h1 h2 h3 => wpOp_step ho (h L a w h1 (fun d hd => h2 o ho d (by rw [hb]; exact hd)) h3)
  · exact hs j hj
theorem listed_all (hlow : lowB md ops = true) {listed : Array Bool} (hsz : listed.size = ops.size) (hr : Region.ready md ops listed = []) : ∀ i, i < ops.size → listed.getD i false = true := by
  intro i
  induction i using Nat.strongRecOn with
  | _ i ih =>
    intro hi
    cases hl : listed.getD i false with
    | true => rfl
    | false =>
      have h1 : i ∈ Region.ready md ops listed := by
        refine mem_ready.2 ⟨by simp [hsz, hi] at hl ⊢; exact hl, ops[i], by simp [hi], fun e he hb => ?_⟩
        have h2 := List.all_eq_true.1 hlow i (List.mem_range.2 hi)
        rw [show ops[i]? = some ops[i] by simp [hi]] at h2
        have h3 := List.all_eq_true.1 h2 e.on (List.mem_map.2 ⟨e, List.mem_filter.2 ⟨Array.mem_toList_iff.2 he, hb⟩, rfl⟩)
        have h4 : e.on < i := of_decide_eq_true h3
        exact ih e.on h4 (by omega)
      rw [hr] at h1
      cases h1
def leftOf (n : Nat) (listed : Array Bool) : Nat := (List.range n).countP fun i => !listed.getD i false
theorem left_succ (m : Nat) (listed : Array Bool) : leftOf (m + 1) listed = leftOf m listed + (if listed.getD m false = true then 0 else 1) := by
  unfold leftOf
  rw [List.range_succ, List.countP_append, List.countP_singleton]
  cases listed.getD m false <;> rfl
theorem left_zero {n : Nat} {listed : Array Bool} (h : leftOf n listed = 0) : ∀ i, i < n → listed.getD i false = true := fun i hi => by
  have h1 := List.countP_eq_zero.1 h i (List.mem_range.2 hi)
  simpa using h1
theorem count_set {n i : Nat} {listed : Array Bool} (hi : i < n) (hsz : n ≤ listed.size) (hl : listed.getD i false = false) : leftOf n (listed.setIfInBounds i true) < leftOf n listed := by
  have hset : ∀ j, (listed.setIfInBounds i true).getD j false = if j = i then true else listed.getD j false := fun j => by
    by_cases e : j = i
    · subst e; simp [show j < listed.size by omega]
    · rw [getD_set_ne false (fun h => e h.symm), if_neg e]
  have key : ∀ m, m ≤ n → leftOf m (listed.setIfInBounds i true) + (if i < m then 1 else 0) = leftOf m listed := by
    intro m
    induction m with
    | zero => intro _; rfl
    | succ m ih =>
      intro hm
      have h1 := ih (by omega)
      rw [left_succ, left_succ, hset m]
      by_cases e : m = i
      · subst e
        rw [if_neg (Nat.lt_irrefl m)] at h1
        rw [if_pos (rfl : m = m), hl, if_pos rfl, if_pos (Nat.lt_succ_self m), if_neg (by decide)]
        omega
      · rw [if_neg e]
        by_cases h2 : i < m
        · rw [if_pos h2] at h1; rw [if_pos (show i < m + 1 by omega)]; omega
        · rw [if_neg h2] at h1; rw [if_neg (show ¬ i < m + 1 by omega)]; omega
  have := key n (Nat.le_refl _)
  rw [if_pos hi] at this
  omega
theorem wpAny_inv (hlow : lowB md ops = true) (hs : StepsOk P md ops Q I (List.range ops.size)) (hd : ∀ L a w, (∀ i, i < ops.size → L i = true) → I L a w → Q .normal a w) :
    ∀ (fuel : Nat) (listed : Array Bool) (a : Act) (w : World), listed.size = ops.size → leftOf ops.size listed ≤ fuel → I (fun i => listed.getD i false) a w → wpAny P md ops Q fuel listed a w := by
  intro fuel
  induction fuel with
  | zero =>
    intro listed a w hsz hf hI
    have hall := left_zero (Nat.le_zero.1 hf)
    refine ⟨?_, hd _ a w hall hI⟩
    cases hr : Region.ready md ops listed with
    | nil => rfl
    | cons x xs =>
      have hx : x ∈ Region.ready md ops listed := by rw [hr]; exact List.mem_cons_self
      obtain ⟨h1, o, ho, _⟩ := mem_ready.1 hx
      have hxs : x < ops.size := (Array.getElem?_eq_some_iff.1 ho).1
      have h2 := hall x hxs
      simp [hsz, hxs] at h1 h2
      rw [h1] at h2; cases h2
  | succ fuel ih =>
    intro listed a w hsz hf hI
    refine ⟨fun hr => hd _ a w (listed_all hlow hsz hr) hI, fun i hi => ?_⟩
    obtain ⟨h1, o, ho, hdep⟩ := mem_ready.1 hi
    have his : i < ops.size := (Array.getElem?_eq_some_iff.1 ho).1
    have h1' : listed.getD i false = false := by simp [hsz, his] at h1 ⊢; exact h1
    refine wpOp_mono (fun a' w' hI' => ih _ a' w' (by simp [hsz]) (by have := count_set his (by omega) h1'; omega) ?_) (hs i (List.mem_range.2 his) (fun j => listed.getD j false) a w h1' (fun o' ho' d hd' => ?_) hI)
    · have e : cup (fun j => listed.getD j false) i = fun j => (listed.setIfInBounds i true).getD j false := funext fun j => by
        unfold cup
        by_cases e : j = i
        · subst e; simp [hsz, his]
        · rw [if_neg e, getD_set_ne false (fun h => e h.symm)]
      rw [e] at hI'; exact hI'
    · obtain rfl : o = o' := Option.some.inj (ho.symm.trans ho')
      obtain ⟨e, he, rfl⟩ := List.mem_map.1 hd'
      obtain ⟨he1, he2⟩ := List.mem_filter.1 he
      exact hdep e (Array.mem_toList_iff.1 he1) he2
theorem left_all (n : Nat) (listed : Array Bool) : leftOf n listed ≤ n := by
  unfold leftOf
  exact Nat.le_trans List.countP_le_length (by simp)
end
/-- A region that draws, by an invariant of what has come up. -/
theorem wp_region_inv {P : Program} {ops : Array Oper} {Q : Exit → Act → World → Prop} (I : (Nat → Bool) → Act → World → Prop) {id n : Nat} {a : Act} {w : World} (hm : P.follows .mixedOrders = true) (hn : ops.size = n) (hlow : lowB .any ops = true)
    (h0 : I (fun _ => false) a w.drew) (hs : StepsOk P .any ops Q I (List.range n)) (hd : ∀ L a w, (∀ i, i < n → L i = true) → I L a w → Q .normal a w) : (Code.region id ops true).wp P Q a w := by
  subst hn
  refine wp_region_any hm (wpAny_inv hlow hs hd _ _ a _ (by simp) (left_all _ _) ?_)
  have e : (fun i => (Array.replicate ops.size false).getD i false) = fun _ => false := funext fun i => by
    by_cases h : i < ops.size <;> simp [h]
  rw [e]; exact h0
/-- The same where the last operation waits for all others: it is run when all of them have come up. -/
theorem wp_region_last {P : Program} {ops : Array Oper} {Q : Exit → Act → World → Prop} (J : (Nat → Bool) → Act → World → Prop) {id m : Nat} {oN : Oper} {a : Act} {w : World} (hm : P.follows .mixedOrders = true) (hn : ops.size = m + 1) (hlow : lowB .any ops = true)
    (ho : ops[m]? = some oN) (hl : (List.range m).all (fun i => (behindOf .any oN).contains i) = true)
    (h0 : J (fun _ => false) a w.drew) (hs : StepsOk P .any ops Q J (List.range m))
    (hd : ∀ L a w, (∀ i, i < m → L i = true) → J L a w → ∀ K : Act → World → Prop, (∀ a w, Q .normal a w → K a w) → if Region.wanted oN (yielded ops a.tmps) = true then Oper.wp P oN a w K Q else K (a.put oN.dst undef) w) : (Code.region id ops true).wp P Q a w := by
  refine wp_region_inv (fun L a w => (L m = false → J L a w) ∧ (L m = true → (∀ j, j < m → L j = true) ∧ Q .normal a w)) hm hn hlow ⟨fun _ => h0, fun h => by cases h⟩ (fun i hi => ?_) (fun L a w hL hI => (hI.2 (hL m (Nat.lt_succ_self m))).2)
  have him : i < m + 1 := List.mem_range.1 hi
  intro L a w h1 h2 h3
  by_cases e : i = m
  · subst e
    have hall : ∀ j, j < i → L j = true := fun j hj => by
      have h4 := List.all_eq_true.1 hl j (List.mem_range.2 hj)
      exact h2 oN ho j (List.contains_iff_mem.1 h4)
    refine wpOp_step ho fun K hK => hd L a w hall (h3.1 h1) K fun a w hq => hK a w ⟨fun h => ?_, fun _ => ⟨fun j hj => cup_on (hall j hj), hq⟩⟩
    rw [cup_self] at h; cases h
  · have hmL : L m = false := by
      cases hLm : L m with
      | false => rfl
      | true => have := (h3.2 hLm).1 i (by omega); rw [h1] at this; cases this
    refine wpOp_mono (fun a w hj => ⟨fun _ => hj, fun h => ?_⟩) (hs i (List.mem_range.2 (by omega)) L a w h1 h2 (h3.1 hmL))
    have := cup_off (fun h => e h.symm) h
    rw [hmL] at this; cases this
end Go.Proofs.YtbicckeoidijpaaDoor
