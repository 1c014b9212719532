/-
  No cell of these rows narrows 'for every input' (looked for: loops, veiled, ifaces, maps, wideKeys, modest, calm, conditions, laid).
  DERIVED. THE GIVEN ROWS OF THIS SEAT. 4 by the template 'for every input the law returns true; each argument reads behind the call as it read before'; 0 by the template 'total and deterministic' (their statements: YtkohobbjnafljaaTotals.lean).
  GIVEN WITH THE SEED: the statements are not yours to turn. If you find one false, say at which input.
  Laid BY PROGRAM, IN A SANDBOX (cutbox-rows.mjs): the forced cells as the released guide's own fill.sh prints them over the translation aeccd9d8c09d17e7… (all of the seat's roots in one cut). By AI agents, Wed Nov 11 2026. No macro, syntax, notation, axiom, sorry.
-/
import Derived.Test.YtkohobbjnafljaaChecked
import GoSem.Claim
import GoSem.ClaimJoined
import GoSem.ClaimMapViews
import Derived.JoinedTies
import Derived.KernelRfl
namespace Go.Proofs.Ytkohobbjnafljaa
/- THE CELL 'sum', in the pinned program and in every row, IS THE sha256 OF THE DUMP (.gsa) THAT YtkohobbjnafljaaProg.lean LOADS. Nothing in Lean hashes anything: it is a label: what it is worth is what the hold of that sum in a sandbox is worth. -/
noncomputable def Try.pinned : Pinned := { name := "ytkohobbjnafljaa", sum := "aeccd9d8c09d17e72176b978da14c48c53f44d4540c8336f400f00e7405854f1", checked := Try.checked }
namespace Rows
def none {H : Type} : Left H := { results := [], args := [] }

/-- 'latchgarthlaw1.Names': WHATEVER THE INPUT: true; the input reads as it did. -/
def namesSpec : ChangeSpec := { name := "names", fn := fun _ => fun
  | [] => { results := [.lit (.bool true)], args := [] }
  | _ => none }
def namesRow : OpenClaim := { program := "ytkohobbjnafljaa", sum := "aeccd9d8c09d17e72176b978da14c48c53f44d4540c8336f400f00e7405854f1", func := "latchgarth/latchgarthlaw1.Names", spec := "names", plainKeys := false, apart := false }
def NamesSaid : Prop := namesRow.holds Try.pinned (OpenSpec.ofChange namesSpec)

/-- ITS FALSE NEIGHBOUR: 'it returns false'. Refute it at one input. -/
def namesWrong : ChangeSpec := { name := "names", fn := fun _ => fun
  | [] => { results := [.lit (.bool false)], args := [] }
  | _ => none }
def NamesWrongFalsely : Prop := namesRow.holds Try.pinned (OpenSpec.ofChange namesWrong)

/-- 'latchgarthlaw1.ProgAgain': WHATEVER THE INPUT: true; the input reads as it did. -/
def progAgainSpec : ChangeSpec := { name := "progAgain", fn := fun _ => fun
  | [d] => { results := [.lit (.bool true)], args := [d] }
  | _ => none }
def progAgainRow : OpenClaim := { program := "ytkohobbjnafljaa", sum := "aeccd9d8c09d17e72176b978da14c48c53f44d4540c8336f400f00e7405854f1", func := "latchgarth/latchgarthlaw1.ProgAgain", spec := "progAgain", plainKeys := false, apart := false }
def ProgAgainSaid : Prop := progAgainRow.holds Try.pinned (OpenSpec.ofChange progAgainSpec)

/-- ITS FALSE NEIGHBOUR: 'it returns false'. Refute it at one input. -/
def progAgainWrong : ChangeSpec := { name := "progAgain", fn := fun _ => fun
  | [d] => { results := [.lit (.bool false)], args := [d] }
  | _ => none }
def ProgAgainWrongFalsely : Prop := progAgainRow.holds Try.pinned (OpenSpec.ofChange progAgainWrong)

/-- 'latchgarthlaw1.ScHas': WHATEVER THE INPUT: true; the input reads as it did. -/
def scHasSpec : ChangeSpec := { name := "scHas", fn := fun _ => fun
  | [d1, d2] => { results := [.lit (.bool true)], args := [d1, d2] }
  | _ => none }
def scHasRow : OpenClaim := { program := "ytkohobbjnafljaa", sum := "aeccd9d8c09d17e72176b978da14c48c53f44d4540c8336f400f00e7405854f1", func := "latchgarth/latchgarthlaw1.ScHas", spec := "scHas", unfollowed := true, recurses := true, plainKeys := false, apart := false }
def ScHasSaid : Prop := scHasRow.holds Try.pinned (OpenSpec.ofChange scHasSpec)

/-- ITS FALSE NEIGHBOUR: 'it returns false'. Refute it at one input. -/
def scHasWrong : ChangeSpec := { name := "scHas", fn := fun _ => fun
  | [d1, d2] => { results := [.lit (.bool false)], args := [d1, d2] }
  | _ => none }
def ScHasWrongFalsely : Prop := scHasRow.holds Try.pinned (OpenSpec.ofChange scHasWrong)

/-- 'latchgarthlaw1.ScAlone': WHATEVER THE INPUT: true; the input reads as it did. -/
def scAloneSpec : ChangeSpec := { name := "scAlone", fn := fun _ => fun
  | [d1, d2] => { results := [.lit (.bool true)], args := [d1, d2] }
  | _ => none }
def scAloneRow : OpenClaim := { program := "ytkohobbjnafljaa", sum := "aeccd9d8c09d17e72176b978da14c48c53f44d4540c8336f400f00e7405854f1", func := "latchgarth/latchgarthlaw1.ScAlone", spec := "scAlone", unfollowed := true, recurses := true, plainKeys := false, apart := false }
def ScAloneSaid : Prop := scAloneRow.holds Try.pinned (OpenSpec.ofChange scAloneSpec)

/-- ITS FALSE NEIGHBOUR: 'it returns false'. Refute it at one input. -/
def scAloneWrong : ChangeSpec := { name := "scAlone", fn := fun _ => fun
  | [d1, d2] => { results := [.lit (.bool false)], args := [d1, d2] }
  | _ => none }
def ScAloneWrongFalsely : Prop := scAloneRow.holds Try.pinned (OpenSpec.ofChange scAloneWrong)

/- THE SECOND FORM. 'bulk': how many values and letters a reading holds, each counted each time it is reached (what is shared counts as often as it is met; a slice's spare places count too). A statement '..UptoSaid' is the law's where the arguments, and the package variables that the reading takes, are together of bulk at most 1048576: NARROWER than '..Said'. Prove '..Said' where nothing that the law and all that it calls make is longer than what came in: it says more and counts as full. Else prove '..UptoSaid'. A law counts once. -/
mutual
def uptoBulk {H : Type} : DataW H → Nat
  | .lit (.string bytes) => bytes.length + 1
  | .lit _ => 1
  | .nil => 1
  | .ptr d => uptoBulk d + 1
  | .slice elems spare => uptoBulkAll elems + uptoBulkAll spare + 1
  | .agg parts => uptoBulkAll parts + 1
  | .iface _ d => uptoBulk d + 1
  | .map entries => uptoBulkEntries entries + 1
  | .held _ => 1
def uptoBulkAll {H : Type} : List (DataW H) → Nat
  | [] => 0
  | d :: r => uptoBulk d + uptoBulkAll r
def uptoBulkEntries {H : Type} : List (Lit × DataW H) → Nat
  | [] => 0
  | x :: r => uptoBulkEntry x + uptoBulkEntries r
def uptoBulkEntry {H : Type} : Lit × DataW H → Nat
  | (.string bytes, d) => bytes.length + uptoBulk d + 1
  | (_, d) => uptoBulk d + 1
 end
def uptoSmall : (H : Type) → List (DataW H) → Bool := fun _ ds => decide (uptoBulkAll ds ≤ 1048576)
def OpenSpec.upto (s : _root_.Go.ChangeSpec) : _root_.Go.OpenSpec := { _root_.Go.OpenSpec.ofChange s with cond := some uptoSmall }

/-- 'latchgarthlaw1.Names', WHERE WHAT IT READS IS OF BULK AT MOST 1048576: true; the input reads as it did. -/
def namesUptoRow : OpenClaim := { program := "ytkohobbjnafljaa", sum := "aeccd9d8c09d17e72176b978da14c48c53f44d4540c8336f400f00e7405854f1", func := "latchgarth/latchgarthlaw1.Names", spec := "names", plainKeys := false, apart := false, narrowed := true }
def NamesUptoSaid : Prop := namesUptoRow.holds Try.pinned (OpenSpec.upto namesSpec)

/-- 'latchgarthlaw1.ProgAgain', WHERE WHAT IT READS IS OF BULK AT MOST 1048576: true; the input reads as it did. -/
def progAgainUptoRow : OpenClaim := { program := "ytkohobbjnafljaa", sum := "aeccd9d8c09d17e72176b978da14c48c53f44d4540c8336f400f00e7405854f1", func := "latchgarth/latchgarthlaw1.ProgAgain", spec := "progAgain", plainKeys := false, apart := false, narrowed := true }
def ProgAgainUptoSaid : Prop := progAgainUptoRow.holds Try.pinned (OpenSpec.upto progAgainSpec)

/-- 'latchgarthlaw1.ScHas', WHERE WHAT IT READS IS OF BULK AT MOST 1048576: true; the input reads as it did. -/
def scHasUptoRow : OpenClaim := { program := "ytkohobbjnafljaa", sum := "aeccd9d8c09d17e72176b978da14c48c53f44d4540c8336f400f00e7405854f1", func := "latchgarth/latchgarthlaw1.ScHas", spec := "scHas", unfollowed := true, recurses := true, plainKeys := false, apart := false, narrowed := true }
def ScHasUptoSaid : Prop := scHasUptoRow.holds Try.pinned (OpenSpec.upto scHasSpec)

/-- 'latchgarthlaw1.ScAlone', WHERE WHAT IT READS IS OF BULK AT MOST 1048576: true; the input reads as it did. -/
def scAloneUptoRow : OpenClaim := { program := "ytkohobbjnafljaa", sum := "aeccd9d8c09d17e72176b978da14c48c53f44d4540c8336f400f00e7405854f1", func := "latchgarth/latchgarthlaw1.ScAlone", spec := "scAlone", unfollowed := true, recurses := true, plainKeys := false, apart := false, narrowed := true }
def ScAloneUptoSaid : Prop := scAloneUptoRow.holds Try.pinned (OpenSpec.upto scAloneSpec)

end Rows
end Go.Proofs.Ytkohobbjnafljaa
