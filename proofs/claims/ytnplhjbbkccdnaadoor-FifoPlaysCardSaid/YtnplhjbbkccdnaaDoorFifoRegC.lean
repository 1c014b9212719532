/-
  The walk of latchgarthlaw3.FifoPlays: the two regions in which the reference is called.
-/
import Derived.Test.YtnplhjbbkccdnaaDoorFifoUP
import Derived.Test.YtnplhjbbkccdnaaDoorRegInv
namespace Go.Proofs.YtnplhjbbkccdnaaDoor.Fif
open Go.RowKit Rf

/-- The region of that number, taken out of the translation. -/
def regionC (id : Nat) : Code → Option Code
  | .region i ops d => if i = id then some (.region i ops d) else none
  | .loop c => regionC id c
  | .seq a b => match regionC id a with
    | some c => some c
    | none => regionC id b
  | .block _ c => regionC id c
  | .scope c => regionC id c
  | .cond _ a b => match regionC id a with
    | some c => some c
    | none => regionC id b
  | _ => none
end Go.Proofs.YtnplhjbbkccdnaaDoor.Fif
