/-
  DERIVED. GIVEN WITH THE SEED: THE CARDS: each row of YtjldbgecfongfaaDoorRows.lean that lists a variable, with what it lists TIED to the program's text (the seventh form; the later family's looks); each row that meets fmt, with fmt's text TOLD by the authors' own Lean function (tested against real Go, not proved from fmt's source: count such statements apart). THE CARD IS WHAT COUNTS. Prove the row's statement (the work); the ties are given (YtjldbgecfongfaaDoorTie.lean); close each card by the builder's one call (the guide's Derived/Test/ToyasCard.lean, 'card_holds'). Laid BY PROGRAM, IN A SANDBOX (cutbox-door.mjs). By AI agents, Wed Nov 11 2026. No macro, syntax, notation, axiom, sorry.
-/
import Derived.Test.YtjldbgecfongfaaDoorRows
import GoSem.ClaimSeven
namespace Go.Proofs.YtjldbgecfongfaaDoor
namespace Rows

/-- THE TIED CARD OF 'latchgarthlaw2.DekkerPlays'. -/
def dekkerPlaysCard : Claim7 := { stood := { row := dekkerPlaysRow, standIns := [], harness := (true, "a51bf47e585756d68c875e2f0f5d45a10a87725cf1b556be68c3791e4b8e3fab"), looks := true }, kinds := [], alts := [], laidByText := true, laidKinds := [.handle], laidTests := true, laidLooks := .later }
def DekkerPlaysCardSaid : Prop := Claim7.holds Tryd.pinned (.plain (OpenSpec.ofChange dekkerPlaysSpec)) dekkerPlaysCard

/-- THE SECOND FORM's CARD OF 'latchgarthlaw2.DekkerPlays'. -/
def dekkerPlaysUptoCard : Claim7 := { stood := { row := dekkerPlaysUptoRow, standIns := [], harness := (true, "a51bf47e585756d68c875e2f0f5d45a10a87725cf1b556be68c3791e4b8e3fab"), looks := true }, kinds := [], alts := [], laidByText := true, laidKinds := [.handle], laidTests := true, laidLooks := .later }
def DekkerPlaysUptoCardSaid : Prop := Claim7.holds Tryd.pinned (.plain (OpenSpec.upto dekkerPlaysSpec)) dekkerPlaysUptoCard
end Rows
end Go.Proofs.YtjldbgecfongfaaDoor
