/-
  DERIVED. GIVEN WITH THE SEED: THE CARDS: each row of YtegplglokaoemaaDoorRows.lean that lists a variable, with what it lists TIED to the program's text (the seventh form; the later family's looks); each row that meets fmt, with fmt's text TOLD by the authors' own Lean function (tested against real Go, not proved from fmt's source: count such statements apart). THE CARD IS WHAT COUNTS. Prove the row's statement (the work); the ties are given (YtegplglokaoemaaDoorTie.lean); close each card by the builder's one call (the guide's Derived/Test/ToyasCard.lean, 'card_holds'). Laid BY PROGRAM, IN A SANDBOX (cutbox-door.mjs). By AI agents, Wed Nov 11 2026. No macro, syntax, notation, axiom, sorry.
-/
import Derived.Test.YtegplglokaoemaaDoorRows
import GoSem.ClaimSeven
namespace Go.Proofs.YtegplglokaoemaaDoor
namespace Rows

/-- THE TIED CARD OF 'latchgarthlaw3.UnivPlays'. -/
def univPlaysCard : Claim7 := { stood := { row := univPlaysRow, standIns := [], harness := (true, "343656c327c252774e367fd08d8fc1370a8759b10e84f5ddba7e914609c53741"), looks := true }, kinds := [], alts := [], laidByText := true, laidKinds := [.handle], laidTests := true, laidLooks := .later }
def UnivPlaysCardSaid : Prop := Claim7.holds Tryd.pinned (.plain (OpenSpec.ofChange univPlaysSpec)) univPlaysCard

/-- THE SECOND FORM's CARD OF 'latchgarthlaw3.UnivPlays'. -/
def univPlaysUptoCard : Claim7 := { stood := { row := univPlaysUptoRow, standIns := [], harness := (true, "343656c327c252774e367fd08d8fc1370a8759b10e84f5ddba7e914609c53741"), looks := true }, kinds := [], alts := [], laidByText := true, laidKinds := [.handle], laidTests := true, laidLooks := .later }
def UnivPlaysUptoCardSaid : Prop := Claim7.holds Tryd.pinned (.plain (OpenSpec.upto univPlaysSpec)) univPlaysUptoCard
end Rows
end Go.Proofs.YtegplglokaoemaaDoor
