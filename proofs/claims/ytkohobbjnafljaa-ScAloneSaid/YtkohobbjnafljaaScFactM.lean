/-
  The closed fact of package sc's statements, reckoned.
-/
import Derived.Test.YtkohobbjnafljaaScMath
import Derived.Test.YtkohobbjnafljaaDekker
namespace Go.Proofs.Ytkohobbjnafljaa
theorem scFact_res : scR 2 (dekkerL false false) = [[1, 0, 1, 1, 1, 1], [1, 1, 1, 0, 1, 1], [1, 1, 1, 1, 1, 1]] := by decide +kernel
theorem scFact_race : scRace (dekkerL false false) = true := by decide +kernel
theorem scFact_check : check 2 (dekkerL false false) = 0 := by decide
end Go.Proofs.Ytkohobbjnafljaa
