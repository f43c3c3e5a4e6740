/- span.within answers for every span whether it can be in a set. -/
import Derived.Test.YthnncohkdgaipaaRows
import Derived.Test.YthnncohkdgaipaaKit
namespace Go.Proofs.Ythnncohkdgaipaa
open Go.ChangeShapes Go.WideShapes Go.ChangeAt Go.RowKit
set_option linter.unusedVariables false
set_option maxRecDepth 20000

/-- a span that can be in a set -/
def withinB (s n : Int) : Bool := decide (0 ≤ s ∧ 1 ≤ n ∧ n ≤ 4096 - s)

theorem within_eq {s n : Int} {b : Bool} (h : b = true ↔ (0 ≤ s ∧ 1 ≤ n ∧ n ≤ 4096 - s)) : Ending.returned (.bool b) = .returned (.bool (withinB s n)) := by
  congr 2
  rw [Bool.eq_iff_iff, h]
  simp [withinB]

end Go.Proofs.Ythnncohkdgaipaa
