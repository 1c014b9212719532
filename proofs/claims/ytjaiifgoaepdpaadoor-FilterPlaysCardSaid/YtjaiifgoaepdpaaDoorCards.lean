/-
  DERIVED. GIVEN WITH THE SEED: THE CARDS: each row of YtjaiifgoaepdpaaDoorRows.lean that lists a variable, with what it lists TIED to the program's text (the seventh form; the later family's looks); each row that meets fmt, with fmt's text TOLD by the authors' own Lean function (tested against real Go, not proved from fmt's source: count such statements apart). THE CARD IS WHAT COUNTS. Prove the row's statement (the work); the ties are given (YtjaiifgoaepdpaaDoorTie.lean); close each card by the builder's one call (the guide's Derived/Test/ToyasCard.lean, 'card_holds'). Laid BY PROGRAM, IN A SANDBOX (cutbox-door.mjs). By AI agents, Wed Nov 11 2026. No macro, syntax, notation, axiom, sorry.
-/
import Derived.Test.YtjaiifgoaepdpaaDoorRows
import GoSem.ClaimSeven
namespace Go.Proofs.YtjaiifgoaepdpaaDoor
namespace Rows

/-- THE TIED CARD OF 'latchgarthlaw2.FilterPlays'. -/
def filterPlaysCard : Claim7 := { stood := { row := filterPlaysRow, standIns := [], harness := (true, "9c9d2cb133339fc473c14416b0aa947287bbe35e77100aaa33022669fd4789df"), looks := true }, kinds := [], alts := [], laidByText := true, laidKinds := [.handle], laidTests := true, laidLooks := .later }
def FilterPlaysCardSaid : Prop := Claim7.holds Tryd.pinned (.plain (OpenSpec.ofChange filterPlaysSpec)) filterPlaysCard

/-- THE SECOND FORM's CARD OF 'latchgarthlaw2.FilterPlays'. -/
def filterPlaysUptoCard : Claim7 := { stood := { row := filterPlaysUptoRow, standIns := [], harness := (true, "9c9d2cb133339fc473c14416b0aa947287bbe35e77100aaa33022669fd4789df"), looks := true }, kinds := [], alts := [], laidByText := true, laidKinds := [.handle], laidTests := true, laidLooks := .later }
def FilterPlaysUptoCardSaid : Prop := Claim7.holds Tryd.pinned (.plain (OpenSpec.upto filterPlaysSpec)) filterPlaysUptoCard
end Rows
end Go.Proofs.YtjaiifgoaepdpaaDoor
