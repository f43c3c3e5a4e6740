/- The document's own Get answers the same. -/
import Derived.Test.YtkapdagmffbbhaaFieldG
namespace Go.Proofs.Ytkapdagmffbbhaa
open Go.ChangeShapes Go.WideShapes Go.ChangeAt Go.RowKit
set_option linter.unusedVariables false
set_option maxRecDepth 20000

theorem refValue_n (ro : Option Addr) (rc : Nat) (rs : List UInt8) (n : Nat) (w : World) (h : Bytes w ro rs) (hn : n ≤ rs.length) (h8 : n ≤ 8) :
    Calls Try.prog 31 #[.slice ro n rc] w fun e w' => e = .returned (.int .u64 (valB (rs.take n) : Int)) ∧ w = w' := by
  have hl : (rs.take n).length = n := by simp; omega
  have := refValue_any ro rc (rs.take n) w (h.take n) (by omega)
  rwa [hl] at this

end Go.Proofs.Ytkapdagmffbbhaa
