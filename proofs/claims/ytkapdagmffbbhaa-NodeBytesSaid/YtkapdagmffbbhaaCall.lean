/- A call of a Go function among the operations of a drawn region. What holds for every program. -/
import Derived.Test.YtkapdagmffbbhaaOrdL
namespace Go.Proofs.Ytkapdagmffbbhaa
open Go.ChangeShapes Go.WideShapes Go.ChangeAt Go.RowKit
set_option linter.unusedVariables false
set_option maxRecDepth 20000

theorem wp_call {P : Program} {op : Oper} {a : Act} {w : World} {K : Act → World → Prop} {Q : Exit → Act → World → Prop} {f : FuncId} {fn : Func} {c : Code} (hf : P.funcs[f]? = some fn) (hname : (fn.name == "runtime.NumGoroutine") = false) (hb : fn.body = some c)
    (xs : List Operand) (ats : Array TypeId) (ho : op.op = .call { callee := .value (.func f), args := xs.toArray, argTypes := ats }) (vs : List Value) (hv : xs.map a.eval = vs) (R : Ending → World → Prop) (hc : Calls P f vs.toArray w R)
    (h : ∀ e w', R e w' → ∃ v, e = .returned v ∧ K (a.put op.dst v) w') : op.wp P a w K Q := by
  have h1 : fn.name ≠ "runtime.NumGoroutine" := by simpa using hname
  have hrun : (callFunc f vs.toArray).run P w = .ok (.enter f vs.toArray) w := by simp [callFunc, hf, h1, hb]
  have hx : (#[] ++ xs.toArray.map a.eval ++ #[] : Array Value) = vs.toArray := by rw [← hv]; simp
  obtain ⟨dst, o, ty, pos, after, guard⟩ := op
  dsimp only at ho
  subst ho
  unfold Oper.wp
  rw [execOp_call_go, hx, hrun, Oper.upon_enter]
  refine hc.mono fun e w' hR => ?_
  obtain ⟨v, rfl, hK⟩ := h e w' hR
  exact hK
end Go.Proofs.Ytkapdagmffbbhaa
