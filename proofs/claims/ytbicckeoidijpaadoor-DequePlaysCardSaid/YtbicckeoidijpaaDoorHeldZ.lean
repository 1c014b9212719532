/-
  A region that draws its order, whose last operation (z) may turn the cells that the others read: what is read must hold behind each operation but that one.
-/
import Derived.Test.YtbicckeoidijpaaDoorTch
import Derived.Deep.RegionHeld3
namespace Go.Proofs.YtbicckeoidijpaaDoor
open Go

section
variable {P : Program} {md : Region.Mode} {ops : Array Oper} {Q : Exit → Act → World → Prop} {S : World → Prop} {z : Nat}
/-- Whatever comes up next: behind it S holds, if it is not z. -/
def heldZ (P : Program) (md : Region.Mode) (ops : Array Oper) (Q : Exit → Act → World → Prop) (S : World → Prop) (z : Nat) : Nat → Array Bool → Act → World → Prop
  | 0, listed, a, w => Region.ready md ops listed = [] ∧ Q .normal a w
  | fuel + 1, listed, a, w => (Region.ready md ops listed = [] → Q .normal a w) ∧ ∀ i ∈ Region.ready md ops listed, wpOp P ops Q i (fun a' w' => (i ≠ z → S w') ∧ heldZ P md ops Q S z fuel (listed.setIfInBounds i true) a' w') a w
theorem heldZ_any : ∀ (fuel : Nat) (listed : Array Bool) (a : Act) (w : World), heldZ P md ops Q S z fuel listed a w → wpAny P md ops Q fuel listed a w := by
  intro fuel
  induction fuel with
  | zero => exact fun _ _ _ h => h
  | succ fuel ih => exact fun listed a w h => ⟨h.1, fun i hi => wpOp_mono (fun a' w' k => ih _ a' w' k.2) (h.2 i hi)⟩
/-- z waits for that one. -/
def waitsZ (md : Region.Mode) (ops : Array Oper) (z i : Nat) : Bool := match ops[z]? with
  | some o => o.after.any fun e => Region.binds md e && e.on == i
  | none => false
theorem heldZ_first {i : Nat} {oi : Oper} {v : Value} (hi : ops[i]? = some oi) (hz : waitsZ md ops z i = true) (hsel : ∀ (j : Nat) (o : Oper) cs b, ops[j]? = some o → o.op ≠ .select cs b)
    (hQ : ∀ c a w, Q (.panic c) (a.put oi.dst v) w → Q (.panic c) a w) :
    ∀ (fuel : Nat) (listed : Array Bool) (a : Act) (w : World), (∀ j oj, ops[j]? = some oj → j ≠ i → listed.getD j true = false → (∀ e ∈ oj.after, Region.binds md e = true → e.on ≠ i) → oi.apart ops oj = true) →
      i ∈ Region.ready md ops listed → i ≠ z → YieldsIf P ops S oi v a → S w → heldZ P md ops Q S z fuel (listed.setIfInBounds i true) (a.put oi.dst v) w → heldZ P md ops Q S z (fuel + 1) listed a w := by
  -- z is no such one that may come up while i has not
  have hzi : ∀ listed : Array Bool, i ∈ Region.ready md ops listed → z ∉ Region.ready md ops listed := fun listed hr hzr => by
    obtain ⟨_, oz, hoz, hall⟩ := mem_ready.1 hzr
    unfold waitsZ at hz
    rw [hoz] at hz
    obtain ⟨e, he, hb⟩ := Array.any_eq_true'.1 hz
    simp only [Bool.and_eq_true, beq_iff_eq] at hb
    have h1 := hall e he hb.1
    have h0 := (mem_ready.1 hr).1
    rw [hb.2] at h1
    rcases Nat.lt_or_ge i listed.size with h' | h'
    · simp [h'] at h0 h1; rw [h0] at h1; cases h1
    · simp [Array.getElem?_eq_none h'] at h1
  intro fuel
  induction fuel with
  | zero =>
    intro listed a w _ hr _ hy hS H
    refine ⟨fun h => (by rw [h] at hr; cases hr), fun j hj => ?_⟩
    by_cases hji : j = i
    · subst hji; exact hy.wpOp hi hS ⟨fun _ => hS, H⟩
    · have := ready_mono hj hji
      rw [H.1] at this
      cases this
  | succ fuel ih =>
    intro listed a w hfree hr hne hy hS H
    refine ⟨fun h => (by rw [h] at hr; cases hr), fun j hj => ?_⟩
    by_cases hji : j = i
    · subst hji; exact hy.wpOp hi hS ⟨fun _ => hS, H⟩
    have hjz : j ≠ z := fun e => hzi listed hr (e ▸ hj)
    obtain ⟨hjun, oj, hoj, hall⟩ := mem_ready.1 hj
    have hnot : ∀ e ∈ oj.after, Region.binds md e = true → e.on ≠ i := fun e he hb heq => by
      have h1 := hall e he hb
      have h0 := (mem_ready.1 hr).1
      rw [heq] at h1
      rcases Nat.lt_or_ge i listed.size with h' | h'
      · simp [h'] at h0 h1; rw [h0] at h1; cases h1
      · simp [Array.getElem?_eq_none h'] at h1
    have h2 := wpOp_putIf hoj (hfree j oj hoj hji hjun hnot) (fun cs b => hsel i oi cs b hi) (fun cs b => hsel j oj cs b hoj) hQ hy (H.2 j (ready_mono hj hji))
    refine wpOp_mono (fun a' w' h3 => ⟨fun _ => h3.2.1 hjz, ih (listed.setIfInBounds j true) a' w' (fun k ok hk hki hun hno => ?_) (ready_mono hr (Ne.symm hji)) hne h3.1 (h3.2.1 hjz) ?_⟩) h2
    · refine hfree k ok hk hki ?_ hno
      by_cases hjk : j = k
      · subst hjk; exact hjun
      · rw [getD_set_ne true hjk] at hun; exact hun
    · rw [Array.setIfInBounds_comm _ _ hji]
      exact h3.2.2
section
variable {fuel : Nat} {listed : Array Bool} {a : Act} {w : World}
theorem heldZ_take {i : Nat} {oi : Oper} {v : Value} (hi : ops[i]? = some oi) (hz : waitsZ md ops z i = true) (hs : Region.noSelect ops = true) (hf : Region.free md ops listed i = true) (hr : (Region.ready md ops listed).contains i = true) (hne : i ≠ z)
    (hQ : ∀ c a w, Q (.panic c) (a.put oi.dst v) w → Q (.panic c) a w) (hy : YieldsIf P ops S oi v a) (hS : S w)
    (h : heldZ P md ops Q S z fuel (listed.setIfInBounds i true) (a.put oi.dst v) w) : heldZ P md ops Q S z (fuel + 1) listed a w :=
  heldZ_first hi hz (Region.noSelect_spec hs) hQ fuel listed a w (Region.free_spec hi hf) (by simpa using hr) hne hy hS h
theorem heldZ_done (hr : Region.ready md ops listed = []) (h : Q .normal a w) : ∀ fuel, heldZ P md ops Q S z fuel listed a w
  | 0 => ⟨hr, h⟩
  | _ + 1 => ⟨fun _ => h, by rw [hr]; simp⟩
theorem heldZ_begin {id : Nat} (z : Nat) (hm : P.follows .mixedOrders = true) (hS : S w.drew) (h : S w.drew → heldZ P .any ops Q S z ops.size (Array.replicate ops.size false) a w.drew) : (Code.region id ops true).wp P Q a w :=
  wp_region_any hm (heldZ_any _ _ _ _ (h hS))
/-- One alone may come up: it is carried out. -/
theorem heldZ_one (i : Nat) {o : Oper} (hr : Region.ready md ops listed = [i]) (ho : ops[i]? = some o) (hw : Region.wanted o (yielded ops a.tmps) = true)
    (h : ∀ K : Act → World → Prop, (∀ a' w', (i ≠ z → S w') → ((i ≠ z → S w') → heldZ P md ops Q S z fuel (listed.setIfInBounds i true) a' w') → K a' w') → Oper.wp P o a w K Q) : heldZ P md ops Q S z (fuel + 1) listed a w := by
  refine ⟨fun h0 => (by rw [hr] at h0; cases h0), fun j hj => ?_⟩
  rw [hr] at hj
  obtain rfl := List.mem_singleton.1 hj
  unfold wpOp
  simp only [ho, hw, if_true]
  exact .inl (h _ fun a' w' h1 h2 => ⟨h1, h2 h1⟩)
theorem heldZ_call (i : Nat) {o : Oper} (hr : Region.ready md ops listed = [i]) (ho : ops[i]? = some o) (hw : Region.wanted o (yielded ops a.tmps) = true)
    (f : FuncId) (args : Array Value) (hx : (execOp a.eval o).run P w = .ok (.enter f args) w) (spec : Ending → World → Prop) (hc : Calls P f args w spec)
    (h : ∀ e w', spec e w' → ∃ v, e = .returned v ∧ (i ≠ z → S w') ∧ heldZ P md ops Q S z fuel (listed.setIfInBounds i true) (a.put o.dst v) w') : heldZ P md ops Q S z (fuel + 1) listed a w := by
  refine heldZ_one i hr ho hw fun K hK => ?_
  unfold Oper.wp
  rw [hx]
  exact Calls.mono hc fun e w' he => by
    obtain ⟨v, rfl, hs, hh⟩ := h e w' he
    exact hK _ _ hs fun _ => hh
/-- The last one. -/
theorem heldZ_last (hf : fuel = 0) {o : Oper} (hr : Region.ready md ops listed = [z]) (ho : ops[z]? = some o) (hd : Region.ready md ops (listed.setIfInBounds z true) = []) (hw : Region.wanted o (yielded ops a.tmps) = true)
    (h : ∀ K : Act → World → Prop, (∀ a' w', Q .normal a' w' → K a' w') → Oper.wp P o a w K Q) : heldZ P md ops Q S z (fuel + 1) listed a w := by
  subst hf
  exact heldZ_one z hr ho hw fun K hK => h K fun a' w' hq => hK a' w' (fun e => absurd rfl e) fun _ => heldZ_done hd hq 0
end
end
end Go.Proofs.YtbicckeoidijpaaDoor
