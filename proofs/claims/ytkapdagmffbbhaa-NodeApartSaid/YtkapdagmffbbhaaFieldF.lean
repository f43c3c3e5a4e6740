/- The document's own Put answers the same. -/
import Derived.Test.YtkapdagmffbbhaaFieldE
namespace Go.Proofs.Ytkapdagmffbbhaa
open Go.ChangeShapes Go.WideShapes Go.ChangeAt Go.RowKit
set_option linter.unusedVariables false
set_option maxRecDepth 20000

theorem putL_wide {ws : List Int} {zs : List Nat} {k : Nat} {x : Int} {bs : List UInt8} (h : putL ws zs = (putL (ws.drop k) (zs.drop k)).map (bs ++ ·)) (hw : ws.drop k = x :: ws.drop (k + 1)) (hf : ¬ (1 ≤ x ∧ x ≤ 8)) :
    putL ws zs = none := by
  rw [h, hw]
  cases zs.drop k with
  | nil => simp [putL]
  | cons z r =>
    have hc : ¬ (1 ≤ x ∧ x ≤ 8 ∧ z < 256 ^ x.toNat) := fun hh => hf ⟨hh.1, hh.2.1⟩
    simp only [putL, if_neg hc, Option.map_none]

end Go.Proofs.Ytkapdagmffbbhaa
