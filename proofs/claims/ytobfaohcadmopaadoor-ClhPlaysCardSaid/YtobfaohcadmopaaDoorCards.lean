/-
  DERIVED. GIVEN WITH THE SEED: THE CARDS: each row of YtobfaohcadmopaaDoorRows.lean that lists a variable, with what it lists TIED to the program's text (the seventh form; the later family's looks); each row that meets fmt, with fmt's text TOLD by the authors' own Lean function (tested against real Go, not proved from fmt's source: count such statements apart). THE CARD IS WHAT COUNTS. Prove the row's statement (the work); the ties are given (YtobfaohcadmopaaDoorTie.lean); close each card by the builder's one call (the guide's Derived/Test/ToyasCard.lean, 'card_holds'). Laid BY PROGRAM, IN A SANDBOX (cutbox-door.mjs). By AI agents, Wed Nov 11 2026. No macro, syntax, notation, axiom, sorry.
-/
import Derived.Test.YtobfaohcadmopaaDoorRows
import GoSem.ClaimSeven
namespace Go.Proofs.YtobfaohcadmopaaDoor
namespace Rows

/-- THE TIED CARD OF 'latchgarthlaw2.ClhPlays'. -/
def clhPlaysCard : Claim7 := { stood := { row := clhPlaysRow, standIns := [], harness := (true, "c35c14bf64d2c3fbfdab3aee726c21251ac4b3b92b28e2494bb37c7b2052e4a5"), looks := true }, kinds := [], alts := [], laidByText := true, laidKinds := [.handle], laidTests := true, laidLooks := .later }
def ClhPlaysCardSaid : Prop := Claim7.holds Tryd.pinned (.plain (OpenSpec.ofChange clhPlaysSpec)) clhPlaysCard

/-- THE SECOND FORM's CARD OF 'latchgarthlaw2.ClhPlays'. -/
def clhPlaysUptoCard : Claim7 := { stood := { row := clhPlaysUptoRow, standIns := [], harness := (true, "c35c14bf64d2c3fbfdab3aee726c21251ac4b3b92b28e2494bb37c7b2052e4a5"), looks := true }, kinds := [], alts := [], laidByText := true, laidKinds := [.handle], laidTests := true, laidLooks := .later }
def ClhPlaysUptoCardSaid : Prop := Claim7.holds Tryd.pinned (.plain (OpenSpec.upto clhPlaysSpec)) clhPlaysUptoCard
end Rows
end Go.Proofs.YtobfaohcadmopaaDoor
