/- The document's own Split answers the same. -/
import Derived.Test.YtkapdagmffbbhaaFieldJ
namespace Go.Proofs.Ytkapdagmffbbhaa
open Go.ChangeShapes Go.WideShapes Go.ChangeAt Go.RowKit
set_option linter.unusedVariables false
set_option maxRecDepth 20000

/-- the document's Value of two bytes of a slice -/
theorem refValue_2 (ro : Option Addr) (rc : Nat) (rs : List UInt8) (w : World) (h : Bytes w ro rs) (hn : 2 ≤ rs.length) :
    Calls Try.prog 31 #[.slice ro 2 rc] w fun e w' => e = .returned (.int .u64 (valB (rs.take 2) : Int)) ∧ w = w' :=
  refValue_n ro rc rs 2 w h hn (by omega)

theorem drop_drop2 (bs : List UInt8) (a V : Nat) : ((bs.drop a).drop 2).drop V = bs.drop (a + 2 + V) := by
  rw [List.drop_drop, List.drop_drop, Nat.add_assoc]

end Go.Proofs.Ytkapdagmffbbhaa
