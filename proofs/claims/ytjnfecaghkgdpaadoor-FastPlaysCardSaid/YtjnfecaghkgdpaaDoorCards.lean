/-
  DERIVED. GIVEN WITH THE SEED: THE CARDS: each row of YtjnfecaghkgdpaaDoorRows.lean that lists a variable, with what it lists TIED to the program's text (the seventh form; the later family's looks); each row that meets fmt, with fmt's text TOLD by the authors' own Lean function (tested against real Go, not proved from fmt's source: count such statements apart). THE CARD IS WHAT COUNTS. Prove the row's statement (the work); the ties are given (YtjnfecaghkgdpaaDoorTie.lean); close each card by the builder's one call (the guide's Derived/Test/ToyasCard.lean, 'card_holds'). Laid BY PROGRAM, IN A SANDBOX (cutbox-door.mjs). By AI agents, Wed Nov 11 2026. No macro, syntax, notation, axiom, sorry.
-/
import Derived.Test.YtjnfecaghkgdpaaDoorRows
import GoSem.ClaimSeven
namespace Go.Proofs.YtjnfecaghkgdpaaDoor
namespace Rows

/-- THE TIED CARD OF 'latchgarthlaw2.FastPlays'. -/
def fastPlaysCard : Claim7 := { stood := { row := fastPlaysRow, standIns := [], harness := (true, "f32f18905ebe5aba23e0cf80132d6223a2e582c8e4c016c9c00b42a3d21760f2"), looks := true }, kinds := [], alts := [], laidByText := true, laidKinds := [.handle], laidTests := true, laidLooks := .later }
def FastPlaysCardSaid : Prop := Claim7.holds Tryd.pinned (.plain (OpenSpec.ofChange fastPlaysSpec)) fastPlaysCard

/-- THE SECOND FORM's CARD OF 'latchgarthlaw2.FastPlays'. -/
def fastPlaysUptoCard : Claim7 := { stood := { row := fastPlaysUptoRow, standIns := [], harness := (true, "f32f18905ebe5aba23e0cf80132d6223a2e582c8e4c016c9c00b42a3d21760f2"), looks := true }, kinds := [], alts := [], laidByText := true, laidKinds := [.handle], laidTests := true, laidLooks := .later }
def FastPlaysUptoCardSaid : Prop := Claim7.holds Tryd.pinned (.plain (OpenSpec.upto fastPlaysSpec)) fastPlaysUptoCard
end Rows
end Go.Proofs.YtjnfecaghkgdpaaDoor
