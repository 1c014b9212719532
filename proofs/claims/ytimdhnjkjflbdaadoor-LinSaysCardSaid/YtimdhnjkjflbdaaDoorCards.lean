/-
  DERIVED. GIVEN WITH THE SEED: THE CARDS: each row of YtimdhnjkjflbdaaDoorRows.lean that lists a variable, with what it lists TIED to the program's text (the seventh form; the later family's looks); each row that meets fmt, with fmt's text TOLD by the authors' own Lean function (tested against real Go, not proved from fmt's source: count such statements apart). THE CARD IS WHAT COUNTS. Prove the row's statement (the work); the ties are given (YtimdhnjkjflbdaaDoorTie.lean); close each card by the builder's one call (the guide's Derived/Test/ToyasCard.lean, 'card_holds'). Laid BY PROGRAM, IN A SANDBOX (cutbox-door.mjs). By AI agents, Wed Nov 11 2026. No macro, syntax, notation, axiom, sorry.
-/
import Derived.Test.YtimdhnjkjflbdaaDoorRows
import GoSem.ClaimSeven
namespace Go.Proofs.YtimdhnjkjflbdaaDoor
namespace Rows

/-- THE TIED CARD OF 'latchgarthlaw4.LinSays'. -/
def linSaysCard : Claim7 := { stood := { row := linSaysRow, standIns := [], harness := (true, "c300e0302523bd0053d1bb27a54da954d8d16f9e394de86d523519f90d5beb72"), looks := true }, kinds := [], alts := [], laidByText := true, laidKinds := [.handle], laidTests := true, laidLooks := .later }
def LinSaysCardSaid : Prop := Claim7.holds Tryd.pinned (.plain (OpenSpec.ofChange linSaysSpec)) linSaysCard

/-- THE TIED CARD OF 'latchgarthlaw4.LinWide'. -/
def linWideCard : Claim7 := { stood := { row := linWideRow, standIns := [], harness := (true, "c300e0302523bd0053d1bb27a54da954d8d16f9e394de86d523519f90d5beb72"), looks := true }, kinds := [], alts := [], laidByText := true, laidKinds := [.handle], laidTests := true, laidLooks := .later }
def LinWideCardSaid : Prop := Claim7.holds Tryd.pinned (.plain (OpenSpec.ofChange linWideSpec)) linWideCard

/-- THE SECOND FORM's CARD OF 'latchgarthlaw4.LinSays'. -/
def linSaysUptoCard : Claim7 := { stood := { row := linSaysUptoRow, standIns := [], harness := (true, "c300e0302523bd0053d1bb27a54da954d8d16f9e394de86d523519f90d5beb72"), looks := true }, kinds := [], alts := [], laidByText := true, laidKinds := [.handle], laidTests := true, laidLooks := .later }
def LinSaysUptoCardSaid : Prop := Claim7.holds Tryd.pinned (.plain (OpenSpec.upto linSaysSpec)) linSaysUptoCard

/-- THE SECOND FORM's CARD OF 'latchgarthlaw4.LinWide'. -/
def linWideUptoCard : Claim7 := { stood := { row := linWideUptoRow, standIns := [], harness := (true, "c300e0302523bd0053d1bb27a54da954d8d16f9e394de86d523519f90d5beb72"), looks := true }, kinds := [], alts := [], laidByText := true, laidKinds := [.handle], laidTests := true, laidLooks := .later }
def LinWideUptoCardSaid : Prop := Claim7.holds Tryd.pinned (.plain (OpenSpec.upto linWideSpec)) linWideUptoCard
end Rows
end Go.Proofs.YtimdhnjkjflbdaaDoor
