/-
  DERIVED. GIVEN WITH THE SEED: THE CARDS: each row of YtbicckeoidijpaaDoorRows.lean that lists a variable, with what it lists TIED to the program's text (the seventh form; the later family's looks); each row that meets fmt, with fmt's text TOLD by the authors' own Lean function (tested against real Go, not proved from fmt's source: count such statements apart). THE CARD IS WHAT COUNTS. Prove the row's statement (the work); the ties are given (YtbicckeoidijpaaDoorTie.lean); close each card by the builder's one call (the guide's Derived/Test/ToyasCard.lean, 'card_holds'). Laid BY PROGRAM, IN A SANDBOX (cutbox-door.mjs). By AI agents, Wed Nov 11 2026. No macro, syntax, notation, axiom, sorry.
-/
import Derived.Test.YtbicckeoidijpaaDoorRows
import GoSem.ClaimSeven
namespace Go.Proofs.YtbicckeoidijpaaDoor
namespace Rows

/-- THE TIED CARD OF 'latchgarthlaw4.DequePlays'. -/
def dequePlaysCard : Claim7 := { stood := { row := dequePlaysRow, standIns := [], harness := (true, "95cfa8bd263b6d414468c3ad351eb60bb3c8520b2f48b3a3188f3906fe387c2e"), looks := true }, kinds := [], alts := [], laidByText := true, laidKinds := [.handle], laidTests := true, laidLooks := .later }
def DequePlaysCardSaid : Prop := Claim7.holds Tryd.pinned (.plain (OpenSpec.ofChange dequePlaysSpec)) dequePlaysCard

/-- THE SECOND FORM's CARD OF 'latchgarthlaw4.DequePlays'. -/
def dequePlaysUptoCard : Claim7 := { stood := { row := dequePlaysUptoRow, standIns := [], harness := (true, "95cfa8bd263b6d414468c3ad351eb60bb3c8520b2f48b3a3188f3906fe387c2e"), looks := true }, kinds := [], alts := [], laidByText := true, laidKinds := [.handle], laidTests := true, laidLooks := .later }
def DequePlaysUptoCardSaid : Prop := Claim7.holds Tryd.pinned (.plain (OpenSpec.upto dequePlaysSpec)) dequePlaysUptoCard
end Rows
end Go.Proofs.YtbicckeoidijpaaDoor
