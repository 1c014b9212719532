/-
  What a region's operations do that are carried out by hand.
-/
import Derived.Test.YtbicckeoidijpaaDoorTch
import Derived.Deep.RegionHeld3
namespace Go.Proofs.YtbicckeoidijpaaDoor
open Go

section
variable {P : Program} {ops : Array Oper} {Q : Exit → Act → World → Prop} {md : Region.Mode} {S : World → Prop} {fuel : Nat} {listed : Array Bool} {a : Act} {w : World}
/-- One operation alone may come up: it is carried out. -/
theorem held_any (i : Nat) {o : Oper} (hr : Region.ready md ops listed = [i]) (ho : ops[i]? = some o) (hw : Region.wanted o (yielded ops a.tmps) = true)
    (v : Value) (w2 : World) (hy : ∀ K : Act → World → Prop, K (a.put o.dst v) w2 → Oper.wp P o a w K Q) (hS : S w2) (h : wpAnyH P md ops Q S fuel (listed.setIfInBounds i true) (a.put o.dst v) w2) : wpAnyH P md ops Q S (fuel + 1) listed a w := by
  refine wpAnyH_ready (rs := [i]) hr (by simp) ?_
  refine AllReadyH.cons ho (fun K hK => ?_) AllReadyH.nil
  rw [if_pos hw]
  exact hy K (hK.out _ _ hS fun _ => h)
/-- A call, or an alloc: either may come up. -/
theorem held_two (i j : Nat) {o p : Oper} (hr : Region.ready md ops listed = [i, j]) (ho : ops[i]? = some o) (hp : ops[j]? = some p) (hw : Region.wanted o (yielded ops a.tmps) = true) (hw2 : Region.wanted p (yielded ops a.tmps) = true)
    (f : FuncId) (args : Array Value) (hx : (execOp a.eval o).run P w = .ok (.enter f args) w) (spec : Ending → World → Prop) (hc : Calls P f args w spec)
    (v : Value) (w2 : World) (hy : ∀ K : Act → World → Prop, K (a.put p.dst v) w2 → Oper.wp P p a w K Q) (hS : S w2)
    (h : ∀ e w', spec e w' → ∃ v, e = .returned v ∧ S w' ∧ wpAnyH P md ops Q S fuel (listed.setIfInBounds i true) (a.put o.dst v) w')
    (h2 : wpAnyH P md ops Q S fuel (listed.setIfInBounds j true) (a.put p.dst v) w2) : wpAnyH P md ops Q S (fuel + 1) listed a w := by
  refine wpAnyH_ready (rs := [i, j]) hr (by simp) ?_
  refine AllReadyH.cons ho (fun K hK => ?_) (AllReadyH.cons hp (fun K hK => ?_) AllReadyH.nil)
  · rw [if_pos hw]
    unfold Oper.wp
    rw [hx]
    exact Calls.mono hc fun e w' he => by
      obtain ⟨v, rfl, hs, hh⟩ := h e w' he
      exact hK.out _ _ hs fun _ => hh
  · rw [if_pos hw2]
    exact hy K (hK.out _ _ hS fun _ => h2)
theorem held_call (i : Nat) {o : Oper} (hr : Region.ready md ops listed = [i]) (ho : ops[i]? = some o) (hw : Region.wanted o (yielded ops a.tmps) = true)
    (f : FuncId) (args : Array Value) (hx : (execOp a.eval o).run P w = .ok (.enter f args) w) (spec : Ending → World → Prop) (hc : Calls P f args w spec)
    (h : ∀ e w', spec e w' → ∃ v, e = .returned v ∧ S w' ∧ wpAnyH P md ops Q S fuel (listed.setIfInBounds i true) (a.put o.dst v) w') : wpAnyH P md ops Q S (fuel + 1) listed a w := by
  refine wpAnyH_ready (rs := [i]) hr (by simp) ?_
  refine AllReadyH.cons ho (fun K hK => ?_) AllReadyH.nil
  rw [if_pos hw]
  unfold Oper.wp
  rw [hx]
  exact Calls.mono hc fun e w' he => by
    obtain ⟨v, rfl, hs, hh⟩ := h e w' he
    exact hK.out _ _ hs fun _ => hh
end
end Go.Proofs.YtbicckeoidijpaaDoor
