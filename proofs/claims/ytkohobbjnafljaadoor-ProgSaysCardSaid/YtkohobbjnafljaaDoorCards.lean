/-
  DERIVED. GIVEN WITH THE SEED: THE CARDS: each row of YtkohobbjnafljaaDoorRows.lean that lists a variable, with what it lists TIED to the program's text (the seventh form; the later family's looks); each row that meets fmt, with fmt's text TOLD by the authors' own Lean function (tested against real Go, not proved from fmt's source: count such statements apart). THE CARD IS WHAT COUNTS. Prove the row's statement (the work); the ties are given (YtkohobbjnafljaaDoorTie.lean); close each card by the builder's one call (the guide's Derived/Test/ToyasCard.lean, 'card_holds'). Laid BY PROGRAM, IN A SANDBOX (cutbox-door.mjs). By AI agents, Wed Nov 11 2026. No macro, syntax, notation, axiom, sorry.
-/
import Derived.Test.YtkohobbjnafljaaDoorRows
import GoSem.ClaimSeven
namespace Go.Proofs.YtkohobbjnafljaaDoor
namespace Rows

/-- THE TIED CARD OF 'latchgarthlaw1.ProgSays'. -/
def progSaysCard : Claim7 := { stood := { row := progSaysRow, standIns := [], harness := (true, "58fc729f35c0b396c8caf55c8edc1926f61b55ef207d8ec627837ea34742617d"), looks := true }, kinds := [], alts := [], laidByText := true, laidKinds := [.handle], laidTests := true, laidLooks := .later }
def ProgSaysCardSaid : Prop := Claim7.holds Tryd.pinned (.plain (OpenSpec.ofChange progSaysSpec)) progSaysCard

/-- THE TIED CARD OF 'latchgarthlaw1.ScSays'. -/
def scSaysCard : Claim7 := { stood := { row := scSaysRow, standIns := [], harness := (true, "58fc729f35c0b396c8caf55c8edc1926f61b55ef207d8ec627837ea34742617d"), looks := true }, kinds := [], alts := [], laidByText := true, laidKinds := [.handle], laidTests := true, laidLooks := .later }
def ScSaysCardSaid : Prop := Claim7.holds Tryd.pinned (.plain (OpenSpec.ofChange scSaysSpec)) scSaysCard

/-- THE SECOND FORM's CARD OF 'latchgarthlaw1.ProgSays'. -/
def progSaysUptoCard : Claim7 := { stood := { row := progSaysUptoRow, standIns := [], harness := (true, "58fc729f35c0b396c8caf55c8edc1926f61b55ef207d8ec627837ea34742617d"), looks := true }, kinds := [], alts := [], laidByText := true, laidKinds := [.handle], laidTests := true, laidLooks := .later }
def ProgSaysUptoCardSaid : Prop := Claim7.holds Tryd.pinned (.plain (OpenSpec.upto progSaysSpec)) progSaysUptoCard

/-- THE SECOND FORM's CARD OF 'latchgarthlaw1.ScSays'. -/
def scSaysUptoCard : Claim7 := { stood := { row := scSaysUptoRow, standIns := [], harness := (true, "58fc729f35c0b396c8caf55c8edc1926f61b55ef207d8ec627837ea34742617d"), looks := true }, kinds := [], alts := [], laidByText := true, laidKinds := [.handle], laidTests := true, laidLooks := .later }
def ScSaysUptoCardSaid : Prop := Claim7.holds Tryd.pinned (.plain (OpenSpec.upto scSaysSpec)) scSaysUptoCard
end Rows
end Go.Proofs.YtkohobbjnafljaaDoor
