/- The document's own device beside the model: plain facts. -/
import Derived.Test.YtfpacnokecfhmaaRefM
namespace Go.Proofs.Ytfpacnokecfhmaa
open Go.ChangeShapes Go.WideShapes Go.ChangeAt Go.RowKit
set_option linter.unusedVariables false

theorem refL_dev (m : DevM) (so : Option Addr) (sc : Nat) (po : Option Addr) (pc : Nat) : refL m so sc po pc = devL so m.stable.length sc po m.pending.length pc (m.ops : Int) (max m.left (-1)) m.dead := rfl
theorem lasts_no {m : DevM} (h : m.lasts = false) : m.dead = true ∨ max m.left (-1) = 0 := by
  unfold DevM.lasts at h
  cases hd : m.dead
  · rw [hd] at h
    have : m.left = 0 := by simpa using h
    exact .inr (by omega)
  · exact .inl rfl
theorem lasts_yes {m : DevM} (h : m.lasts = true) : m.dead = false ∧ max m.left (-1) ≠ 0 := by
  unfold DevM.lasts at h
  cases hd : m.dead
  · rw [hd] at h
    have : ¬ m.left = 0 := by simpa using h
    exact ⟨rfl, by omega⟩
  · rw [hd] at h; simp at h
theorem refLeft_max (l : Int) : max (if 0 < l then l - 1 else l) (-1) = refLeft (max l (-1)) := by
  unfold refLeft
  by_cases h : 0 < l
  · rw [if_pos h, if_pos (by omega)]; omega
  · rw [if_neg h, if_neg (by omega)]
theorem tick_ops {m : DevM} (h : m.ops < 4611686018427387903) : (m.tick.ops : Int) = (m.ops : Int) + 1 := by
  show ((min (m.ops + 1) 4611686018427387903 : Nat) : Int) = _
  omega
end Go.Proofs.Ytfpacnokecfhmaa
