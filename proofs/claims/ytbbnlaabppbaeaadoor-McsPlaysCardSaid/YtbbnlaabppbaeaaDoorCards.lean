/-
  DERIVED. GIVEN WITH THE SEED: THE CARDS: each row of YtbbnlaabppbaeaaDoorRows.lean that lists a variable, with what it lists TIED to the program's text (the seventh form; the later family's looks); each row that meets fmt, with fmt's text TOLD by the authors' own Lean function (tested against real Go, not proved from fmt's source: count such statements apart). THE CARD IS WHAT COUNTS. Prove the row's statement (the work); the ties are given (YtbbnlaabppbaeaaDoorTie.lean); close each card by the builder's one call (the guide's Derived/Test/ToyasCard.lean, 'card_holds'). Laid BY PROGRAM, IN A SANDBOX (cutbox-door.mjs). By AI agents, Wed Nov 11 2026. No macro, syntax, notation, axiom, sorry.
-/
import Derived.Test.YtbbnlaabppbaeaaDoorRows
import GoSem.ClaimSeven
namespace Go.Proofs.YtbbnlaabppbaeaaDoor
namespace Rows

/-- THE TIED CARD OF 'latchgarthlaw2.McsPlays'. -/
def mcsPlaysCard : Claim7 := { stood := { row := mcsPlaysRow, standIns := [], harness := (true, "53d4628ba8d509774cd8471dceaa9e1ab52ce42cd965354121e2d6abf148103c"), looks := true }, kinds := [], alts := [], laidByText := true, laidKinds := [.handle], laidTests := true, laidLooks := .later }
def McsPlaysCardSaid : Prop := Claim7.holds Tryd.pinned (.plain (OpenSpec.ofChange mcsPlaysSpec)) mcsPlaysCard

/-- THE SECOND FORM's CARD OF 'latchgarthlaw2.McsPlays'. -/
def mcsPlaysUptoCard : Claim7 := { stood := { row := mcsPlaysUptoRow, standIns := [], harness := (true, "53d4628ba8d509774cd8471dceaa9e1ab52ce42cd965354121e2d6abf148103c"), looks := true }, kinds := [], alts := [], laidByText := true, laidKinds := [.handle], laidTests := true, laidLooks := .later }
def McsPlaysUptoCardSaid : Prop := Claim7.holds Tryd.pinned (.plain (OpenSpec.upto mcsPlaysSpec)) mcsPlaysUptoCard
end Rows
end Go.Proofs.YtbbnlaabppbaeaaDoor
