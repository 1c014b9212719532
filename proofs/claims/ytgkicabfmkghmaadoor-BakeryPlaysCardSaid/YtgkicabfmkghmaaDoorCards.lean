/-
  DERIVED. GIVEN WITH THE SEED: THE CARDS: each row of YtgkicabfmkghmaaDoorRows.lean that lists a variable, with what it lists TIED to the program's text (the seventh form; the later family's looks); each row that meets fmt, with fmt's text TOLD by the authors' own Lean function (tested against real Go, not proved from fmt's source: count such statements apart). THE CARD IS WHAT COUNTS. Prove the row's statement (the work); the ties are given (YtgkicabfmkghmaaDoorTie.lean); close each card by the builder's one call (the guide's Derived/Test/ToyasCard.lean, 'card_holds'). Laid BY PROGRAM, IN A SANDBOX (cutbox-door.mjs). By AI agents, Wed Nov 11 2026. No macro, syntax, notation, axiom, sorry.
-/
import Derived.Test.YtgkicabfmkghmaaDoorRows
import GoSem.ClaimSeven
namespace Go.Proofs.YtgkicabfmkghmaaDoor
namespace Rows

/-- THE TIED CARD OF 'latchgarthlaw2.BakeryPlays'. -/
def bakeryPlaysCard : Claim7 := { stood := { row := bakeryPlaysRow, standIns := [], harness := (true, "6445641774099d0b7b159a6e57a2ae0ab7e2d1086977d1988e2f3a51e437db0d"), looks := true }, kinds := [], alts := [], laidByText := true, laidKinds := [.handle], laidTests := true, laidLooks := .later }
def BakeryPlaysCardSaid : Prop := Claim7.holds Tryd.pinned (.plain (OpenSpec.ofChange bakeryPlaysSpec)) bakeryPlaysCard

/-- THE SECOND FORM's CARD OF 'latchgarthlaw2.BakeryPlays'. -/
def bakeryPlaysUptoCard : Claim7 := { stood := { row := bakeryPlaysUptoRow, standIns := [], harness := (true, "6445641774099d0b7b159a6e57a2ae0ab7e2d1086977d1988e2f3a51e437db0d"), looks := true }, kinds := [], alts := [], laidByText := true, laidKinds := [.handle], laidTests := true, laidLooks := .later }
def BakeryPlaysUptoCardSaid : Prop := Claim7.holds Tryd.pinned (.plain (OpenSpec.upto bakeryPlaysSpec)) bakeryPlaysUptoCard
end Rows
end Go.Proofs.YtgkicabfmkghmaaDoor
