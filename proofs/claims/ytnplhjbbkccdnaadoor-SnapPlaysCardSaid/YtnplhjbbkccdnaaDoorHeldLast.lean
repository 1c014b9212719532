/-
  A region that draws its order, whose last operation stores a struct or an array: all else has been taken ahead.
-/
import Derived.Test.YtnplhjbbkccdnaaDoorTch
import Derived.Deep.RegionHeld3
import Derived.Deep.MidRow
namespace Go.Proofs.YtnplhjbbkccdnaaDoor
theorem held_store {P : Program} {ops : Array Oper} {Q : Exit → Act → World → Prop} {md : Region.Mode} {S : World → Prop} {fuel : Nat} {listed : Array Bool} {a : Act} {w : World} (i : Nat) {o : Oper} (hf : fuel = 1)
    (hr : Region.ready md ops listed = [i]) (ho : ops[i]? = some o) (hd : Region.ready md ops (listed.setIfInBounds i true) = []) (hw : Region.wanted o (yielded ops a.tmps) = true)
    (ty : TypeId) (x y : Operand) (hop : o.op = .store ty x y) (b k : Nat) (cells : Array Value) (hx : a.eval x = .pointer (some ⟨b, k, none⟩)) (hy : a.eval y = .agg cells)
    (ht : w.there b k cells.size) (hi : (P.info? ty).map (·.size) = some cells.size) (h1 : cells.all (·.oneCell') = true)
    (hS : S (w.setCells b k cells.toList)) (h : Q .normal (a.put o.dst undef) (w.setCells b k cells.toList)) : wpAnyH P md ops Q S fuel listed a w := by
  subst hf
  refine wpAnyH_ready (rs := [i]) hr (by simp) ?_
  refine AllReadyH.cons ho (fun K hK => ?_) AllReadyH.nil
  rw [if_pos hw]
  exact wp_store_mid ty x y hop b k cells hx hy ht hi h1 (hK.out _ _ hS fun _ => wpAnyH_done hd h 0)
end Go.Proofs.YtnplhjbbkccdnaaDoor
