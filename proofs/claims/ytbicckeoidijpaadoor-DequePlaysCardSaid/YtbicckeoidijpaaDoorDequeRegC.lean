/-
  The walk of latchgarthlaw4.DequePlays: the two regions in which the reference is called.
-/
import Derived.Test.YtbicckeoidijpaaDoorDequeUP
import Derived.Test.YtbicckeoidijpaaDoorRegInv
namespace Go.Proofs.YtbicckeoidijpaaDoor.Dq
open Go.RowKit Rf

/-- The region of that number, taken out of the translation. -/
def regionC (id : Nat) : Code → Option Code
  | .region i ops d => if i = id then some (.region i ops d) else none
  | .loop c => regionC id c
  | .seq a b => match regionC id a with
    | some c => some c
    | none => regionC id b
  | .block _ c => regionC id c
  | .scope c => regionC id c
  | .cond _ a b => match regionC id a with
    | some c => some c
    | none => regionC id b
  | _ => none
end Go.Proofs.YtbicckeoidijpaaDoor.Dq
