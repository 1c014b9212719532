/-
  No cell of these rows narrows 'for every input' (looked for: loops, veiled, ifaces, maps, wideKeys, modest, calm, conditions, laid).
  DERIVED. THE GIVEN ROWS OF THIS SEAT. 3 by the template 'for every input the law returns true; each argument reads behind the call as it read before'; 0 by the template 'total and deterministic' (their statements: YtjaiifgoaepdpaaTotals.lean).
  GIVEN WITH THE SEED: the statements are not yours to turn. If you find one false, say at which input.
  Laid BY PROGRAM, IN A SANDBOX (cutbox-rows.mjs): the forced cells as the released guide's own fill.sh prints them over the translation a2e71048ca22195f… (all of the seat's roots in one cut). By AI agents, Wed Nov 11 2026. No macro, syntax, notation, axiom, sorry.
-/
import Derived.Test.YtjaiifgoaepdpaaChecked
import GoSem.Claim
import GoSem.ClaimJoined
import GoSem.ClaimMapViews
import Derived.JoinedTies
import Derived.KernelRfl
namespace Go.Proofs.Ytjaiifgoaepdpaa
/- THE CELL 'sum', in the pinned program and in every row, IS THE sha256 OF THE DUMP (.gsa) THAT YtjaiifgoaepdpaaProg.lean LOADS. Nothing in Lean hashes anything: it is a label: what it is worth is what the hold of that sum in a sandbox is worth. -/
noncomputable def Try.pinned : Pinned := { name := "ytjaiifgoaepdpaa", sum := "a2e71048ca22195f3f5394feb85d859921413a31e170e37c8c42c8502f3a3d6d", checked := Try.checked }
namespace Rows
def none {H : Type} : Left H := { results := [], args := [] }

/-- 'latchgarthlaw2.FilterOne': WHATEVER THE INPUT: true; the input reads as it did. -/
def filterOneSpec : ChangeSpec := { name := "filterOne", fn := fun _ => fun
  | [d1, d2] => { results := [.lit (.bool true)], args := [d1, d2] }
  | _ => none }
def filterOneRow : OpenClaim := { program := "ytjaiifgoaepdpaa", sum := "a2e71048ca22195f3f5394feb85d859921413a31e170e37c8c42c8502f3a3d6d", func := "latchgarth/latchgarthlaw2.FilterOne", spec := "filterOne", apart := false }
def FilterOneSaid : Prop := filterOneRow.holds Try.pinned (OpenSpec.ofChange filterOneSpec)

/-- ITS FALSE NEIGHBOUR: 'it returns false'. Refute it at one input. -/
def filterOneWrong : ChangeSpec := { name := "filterOne", fn := fun _ => fun
  | [d1, d2] => { results := [.lit (.bool false)], args := [d1, d2] }
  | _ => none }
def FilterOneWrongFalsely : Prop := filterOneRow.holds Try.pinned (OpenSpec.ofChange filterOneWrong)

/-- 'latchgarthlaw2.FilterGoes': WHATEVER THE INPUT: true; the input reads as it did. -/
def filterGoesSpec : ChangeSpec := { name := "filterGoes", fn := fun _ => fun
  | [d1, d2] => { results := [.lit (.bool true)], args := [d1, d2] }
  | _ => none }
def filterGoesRow : OpenClaim := { program := "ytjaiifgoaepdpaa", sum := "a2e71048ca22195f3f5394feb85d859921413a31e170e37c8c42c8502f3a3d6d", func := "latchgarth/latchgarthlaw2.FilterGoes", spec := "filterGoes", apart := false }
def FilterGoesSaid : Prop := filterGoesRow.holds Try.pinned (OpenSpec.ofChange filterGoesSpec)

/-- ITS FALSE NEIGHBOUR: 'it returns false'. Refute it at one input. -/
def filterGoesWrong : ChangeSpec := { name := "filterGoes", fn := fun _ => fun
  | [d1, d2] => { results := [.lit (.bool false)], args := [d1, d2] }
  | _ => none }
def FilterGoesWrongFalsely : Prop := filterGoesRow.holds Try.pinned (OpenSpec.ofChange filterGoesWrong)

/-- 'latchgarthlaw2.FilterDoors': WHATEVER THE INPUT: true; the input reads as it did. -/
def filterDoorsSpec : ChangeSpec := { name := "filterDoors", fn := fun _ => fun
  | [d1, d2] => { results := [.lit (.bool true)], args := [d1, d2] }
  | _ => none }
def filterDoorsRow : OpenClaim := { program := "ytjaiifgoaepdpaa", sum := "a2e71048ca22195f3f5394feb85d859921413a31e170e37c8c42c8502f3a3d6d", func := "latchgarth/latchgarthlaw2.FilterDoors", spec := "filterDoors", apart := false }
def FilterDoorsSaid : Prop := filterDoorsRow.holds Try.pinned (OpenSpec.ofChange filterDoorsSpec)

/-- ITS FALSE NEIGHBOUR: 'it returns false'. Refute it at one input. -/
def filterDoorsWrong : ChangeSpec := { name := "filterDoors", fn := fun _ => fun
  | [d1, d2] => { results := [.lit (.bool false)], args := [d1, d2] }
  | _ => none }
def FilterDoorsWrongFalsely : Prop := filterDoorsRow.holds Try.pinned (OpenSpec.ofChange filterDoorsWrong)

/- THE SECOND FORM. 'bulk': how many values and letters a reading holds, each counted each time it is reached (what is shared counts as often as it is met; a slice's spare places count too). A statement '..UptoSaid' is the law's where the arguments, and the package variables that the reading takes, are together of bulk at most 1048576: NARROWER than '..Said'. Prove '..Said' where nothing that the law and all that it calls make is longer than what came in: it says more and counts as full. Else prove '..UptoSaid'. A law counts once. -/
mutual
def uptoBulk {H : Type} : DataW H → Nat
  | .lit (.string bytes) => bytes.length + 1
  | .lit _ => 1
  | .nil => 1
  | .ptr d => uptoBulk d + 1
  | .slice elems spare => uptoBulkAll elems + uptoBulkAll spare + 1
  | .agg parts => uptoBulkAll parts + 1
  | .iface _ d => uptoBulk d + 1
  | .map entries => uptoBulkEntries entries + 1
  | .held _ => 1
def uptoBulkAll {H : Type} : List (DataW H) → Nat
  | [] => 0
  | d :: r => uptoBulk d + uptoBulkAll r
def uptoBulkEntries {H : Type} : List (Lit × DataW H) → Nat
  | [] => 0
  | x :: r => uptoBulkEntry x + uptoBulkEntries r
def uptoBulkEntry {H : Type} : Lit × DataW H → Nat
  | (.string bytes, d) => bytes.length + uptoBulk d + 1
  | (_, d) => uptoBulk d + 1
 end
def uptoSmall : (H : Type) → List (DataW H) → Bool := fun _ ds => decide (uptoBulkAll ds ≤ 1048576)
def OpenSpec.upto (s : _root_.Go.ChangeSpec) : _root_.Go.OpenSpec := { _root_.Go.OpenSpec.ofChange s with cond := some uptoSmall }

/-- 'latchgarthlaw2.FilterOne', WHERE WHAT IT READS IS OF BULK AT MOST 1048576: true; the input reads as it did. -/
def filterOneUptoRow : OpenClaim := { program := "ytjaiifgoaepdpaa", sum := "a2e71048ca22195f3f5394feb85d859921413a31e170e37c8c42c8502f3a3d6d", func := "latchgarth/latchgarthlaw2.FilterOne", spec := "filterOne", apart := false, narrowed := true }
def FilterOneUptoSaid : Prop := filterOneUptoRow.holds Try.pinned (OpenSpec.upto filterOneSpec)

/-- 'latchgarthlaw2.FilterGoes', WHERE WHAT IT READS IS OF BULK AT MOST 1048576: true; the input reads as it did. -/
def filterGoesUptoRow : OpenClaim := { program := "ytjaiifgoaepdpaa", sum := "a2e71048ca22195f3f5394feb85d859921413a31e170e37c8c42c8502f3a3d6d", func := "latchgarth/latchgarthlaw2.FilterGoes", spec := "filterGoes", apart := false, narrowed := true }
def FilterGoesUptoSaid : Prop := filterGoesUptoRow.holds Try.pinned (OpenSpec.upto filterGoesSpec)

/-- 'latchgarthlaw2.FilterDoors', WHERE WHAT IT READS IS OF BULK AT MOST 1048576: true; the input reads as it did. -/
def filterDoorsUptoRow : OpenClaim := { program := "ytjaiifgoaepdpaa", sum := "a2e71048ca22195f3f5394feb85d859921413a31e170e37c8c42c8502f3a3d6d", func := "latchgarth/latchgarthlaw2.FilterDoors", spec := "filterDoors", apart := false, narrowed := true }
def FilterDoorsUptoSaid : Prop := filterDoorsUptoRow.holds Try.pinned (OpenSpec.upto filterDoorsSpec)

end Rows
end Go.Proofs.Ytjaiifgoaepdpaa
