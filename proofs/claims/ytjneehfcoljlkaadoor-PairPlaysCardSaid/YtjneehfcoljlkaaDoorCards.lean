/-
  DERIVED. GIVEN WITH THE SEED: THE CARDS: each row of YtjneehfcoljlkaaDoorRows.lean that lists a variable, with what it lists TIED to the program's text (the seventh form; the later family's looks); each row that meets fmt, with fmt's text TOLD by the authors' own Lean function (tested against real Go, not proved from fmt's source: count such statements apart). THE CARD IS WHAT COUNTS. Prove the row's statement (the work); the ties are given (YtjneehfcoljlkaaDoorTie.lean); close each card by the builder's one call (the guide's Derived/Test/ToyasCard.lean, 'card_holds'). Laid BY PROGRAM, IN A SANDBOX (cutbox-door.mjs). By AI agents, Wed Nov 11 2026. No macro, syntax, notation, axiom, sorry.
-/
import Derived.Test.YtjneehfcoljlkaaDoorRows
import GoSem.ClaimSeven
namespace Go.Proofs.YtjneehfcoljlkaaDoor
namespace Rows

/-- THE TIED CARD OF 'latchgarthlaw2.PairPlays'. -/
def pairPlaysCard : Claim7 := { stood := { row := pairPlaysRow, standIns := [], harness := (true, "f1307bc0f237b939e4b661352e7126dbeffe668a860957e95b65138b90fa75d0"), looks := true }, kinds := [], alts := [], laidByText := true, laidKinds := [.handle], laidTests := true, laidLooks := .later }
def PairPlaysCardSaid : Prop := Claim7.holds Tryd.pinned (.plain (OpenSpec.ofChange pairPlaysSpec)) pairPlaysCard

/-- THE SECOND FORM's CARD OF 'latchgarthlaw2.PairPlays'. -/
def pairPlaysUptoCard : Claim7 := { stood := { row := pairPlaysUptoRow, standIns := [], harness := (true, "f1307bc0f237b939e4b661352e7126dbeffe668a860957e95b65138b90fa75d0"), looks := true }, kinds := [], alts := [], laidByText := true, laidKinds := [.handle], laidTests := true, laidLooks := .later }
def PairPlaysUptoCardSaid : Prop := Claim7.holds Tryd.pinned (.plain (OpenSpec.upto pairPlaysSpec)) pairPlaysUptoCard
end Rows
end Go.Proofs.YtjneehfcoljlkaaDoor
