/- (*span.marks).put marks all numbers of any set. -/
import Derived.Test.YthnncohkdgaipaaSpanL
namespace Go.Proofs.Ythnncohkdgaipaa
open Go.ChangeShapes Go.WideShapes Go.ChangeAt Go.RowKit Go.Shelf
attribute [local go_sem] Oper.semAt_some
set_option linter.unusedVariables false
set_option maxRecDepth 20000

theorem Marked.kept {W W' : World} {row : Option Nat} {B T : Nat} {f : Nat → Bool} (h : Marked W B T f) (hg : W.grownBy W' row) (hr : ∀ r, row = some r → ∃ o : Obj, W.heap[r]? = some o ∧ o.isCells = false) : Marked W' B T f := by
  have hlt := h.lt
  unfold Marked at *
  rw [hg.block B hlt (fun e => by
    obtain ⟨o, ho, hc⟩ := hr B e.symm
    rw [h] at ho; cases ho; cases hc), h]

/-- behind a put: what was passed is as told -/
def putMask (f : Nat → Bool) (b : Bool) (pre : List (Fin 4096)) (j : Nat) : Bool := if pre.any (fun x => decide (x.val = j)) then b else f j

theorem putMask_snoc (f : Nat → Bool) (b : Bool) (pre : List (Fin 4096)) (x : Fin 4096) (j : Nat) : putMask f b (pre ++ [x]) j = if j = x.val then b else putMask f b pre j := by
  unfold putMask
  by_cases e : j = x.val
  · subst e; simp
  · have : ¬ x.val = j := fun h => e h.symm
    simp [e, this]

theorem putMask_all (f g : Nat → Bool) (b : Bool) {j : Nat} (hj : j < 4096) : putMask f b (upTo g 4096) j = if g j then b else f j := by
  unfold putMask
  have : (upTo g 4096).any (fun x => decide (x.val = j)) = g j := by
    rw [Bool.eq_iff_iff, List.any_eq_true]
    constructor
    · rintro ⟨x, hx, e⟩
      simp [upTo] at hx e
      rw [← e]; exact hx
    · intro h
      exact ⟨⟨j, hj⟩, by simp [upTo, h], by simp⟩
  rw [this]

theorem ownFrom_marked {β : Type} (D B T : Nat) (f : β → Nat → Bool) : OwnFrom D (fun (s : β) W => Marked W B T (f s)) := fun s W W' row hs hg hr => hs.kept hg fun r e => (hr r e).2

theorem ownFrom_cell {β : Type} (D : Nat) (a : Addr) (v : β → Value) : OwnFrom D (fun (s : β) W => W.cell? a = some (v s)) := fun s W W' row hs hg hr => cell_kept hs hg (fun r e => (hr r e).2)

theorem Marked.setBy {w : World} {B T : Nat} {f g : Nat → Bool} {m : Nat} {b : Bool} (h : Marked w B T f) (hg : ∀ j, g j = if j = m then b else f j) : Marked (w.setCell ⟨B, m, none⟩ (.bool b)) B T g :=
  (h.set m b).congr fun j _ => (hg j).symm

end Go.Proofs.Ythnncohkdgaipaa
