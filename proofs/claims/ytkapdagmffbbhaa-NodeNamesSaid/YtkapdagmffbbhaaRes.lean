/- Results that lie in blocks of their own: whole rows. -/
import Derived.Test.YtkapdagmffbbhaaRow
namespace Go.Proofs.Ytkapdagmffbbhaa
open Go.ChangeShapes Go.WideShapes Go.ChangeAt Go.RowKit
set_option linter.unusedVariables false
set_option maxRecDepth 20000

section
variable {P : Program}
/-- a row that a result's block holds -/
structure RowRes (P : Program) (w : World) (ty : TypeId) (v : Value) (cs : List Value) : Prop where
  ptr : ∃ g t, v = .pointer (some ⟨g, 0, none⟩) ∧ Blk w g t cs
  agg : ∃ d, P.underlying ty = some d ∧ d.isRow = true
  size : (P.info? ty).map (·.size) = some cs.length
theorem RowRes.run {w : World} {ty : TypeId} {v : Value} {cs : List Value} (h : RowRes P w ty v cs) : ∃ a, v = .pointer (some a) ∧ (loadVar ty a).run P w = .ok (.agg cs.toArray) w := by
  obtain ⟨g, t, rfl, hb⟩ := h.ptr
  obtain ⟨d, hd, hr⟩ := h.agg
  exact ⟨_, rfl, run_loadVar_mid w g 0 ty cs d (hb.range fun j v hv => by simpa using hv) hd hr h.size⟩
theorem results_row {fn : Func} {p : Tmp} {ty : TypeId} (h : fn.results = #[.cell p ty]) {tmps : Array Value} {w : World} {cs : List Value} (hr : RowRes P w ty (tmps.getD p undef) cs) :
    (results fn tmps).run P w = .ok (.agg cs.toArray) w := by
  obtain ⟨a, ha, hl⟩ := hr.run
  have ha' : tmps[p]?.getD undef = .pointer (some a) := by simpa using ha
  simp [results, h, ha', asAddr, hl]
theorem results_row_tmp {fn : Func} {p q : Tmp} {ty : TypeId} (h : fn.results = #[.cell p ty, .tmp q]) {tmps : Array Value} {w : World} {cs : List Value} (hr : RowRes P w ty (tmps.getD p undef) cs) :
    (results fn tmps).run P w = .ok (.tuple #[.agg cs.toArray, tmps.getD q undef]) w := by
  obtain ⟨a, ha, hl⟩ := hr.run
  have ha' : tmps[p]?.getD undef = .pointer (some a) := by simpa using ha
  simp [results, h, ha', asAddr, hl]
theorem results_row_row_tmp {fn : Func} {p q r : Tmp} {ty ty' : TypeId} (h : fn.results = #[.cell p ty, .cell q ty', .tmp r]) {tmps : Array Value} {w : World} {cs cs' : List Value} (hr : RowRes P w ty (tmps.getD p undef) cs) (hr' : RowRes P w ty' (tmps.getD q undef) cs') :
    (results fn tmps).run P w = .ok (.tuple #[.agg cs.toArray, .agg cs'.toArray, tmps.getD r undef]) w := by
  obtain ⟨a, ha, hl⟩ := hr.run
  obtain ⟨a', hb, hl'⟩ := hr'.run
  have ha' : tmps[p]?.getD undef = .pointer (some a) := by simpa using ha
  have hb' : tmps[q]?.getD undef = .pointer (some a') := by simpa using hb
  simp [results, h, ha', hb', asAddr, hl, hl']
end
end Go.Proofs.Ytkapdagmffbbhaa
