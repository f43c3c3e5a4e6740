/- span.Count, Has, List, Join and Cut answer for any sets as their plain functions do. -/
import Derived.Test.YthnncohkdgaipaaSpanM
namespace Go.Proofs.Ythnncohkdgaipaa
open Go.ChangeShapes Go.WideShapes Go.ChangeAt Go.RowKit Go.Shelf
attribute [local go_sem] Oper.semAt_some
set_option linter.unusedVariables false
set_option maxRecDepth 20000

theorem stays_push {W w1 : World} {n₀ B : Nat} {e : TypeId} {v : Value} {k : Nat} {xs : List Value} {tmp : Obj} (hrow : W.ownsRow n₀ e 1 v k xs) (hgrow : (W.alloc tmp).grownBy w1 v.ownBlock) : Stays (fun k T => k = B ∨ (T = e ∧ n₀ ≤ k)) W w1 := by
  refine (Stays.alloc _ W tmp).trans (Stays.grown hgrow fun k cs T fr hk e => ?_)
  rcases (hrow.alloc tmp).2 with ⟨rfl, _⟩ | ⟨g, cap, cur, rfl, hbg, hg, _⟩
  · simp [Value.ownBlock] at hk
  · simp [Value.ownBlock] at hk
    subst hk
    rw [hg] at e
    cases e
    exact .inr ⟨rfl, hbg⟩

theorem upTo_nums (f : Nat → Bool) : (upTo f 4096).map (fun x => (x.val : Int)) = numsL f 4096 := by
  unfold upTo numsL
  have h1 : (List.range 4096).filter f = ((List.finRange 4096).filter fun j => f j.val).map (fun j => j.val) := by
    have h0 : List.range 4096 = (List.finRange 4096).map fun j => j.val := by
      apply List.ext_getElem
      · simp
      · intro i h1 h2; simp
    rw [h0, List.filter_map]
    rfl
  rw [h1, List.map_map]
  have h2 : (List.finRange 4096).filter (fun j => decide (j.val < 4096) && f j.val) = (List.finRange 4096).filter fun j => f j.val := List.filter_congr fun j _ => by simp
  rw [h2]
  rfl

/-- the marks of either of two, of the first alone, of both -/
theorem OwnS.lt {w : World} {base : Nat} {v : Value} {xs : List (Int × Int)} (h : OwnS w base v xs) : ∃ ao cap, v = .slice ao xs.length cap ∧ Spans w ao xs ∧ (∀ a, ao = some a → a.block < w.heap.size) := by
  obtain ⟨ao, cap, h1, h2, h3⟩ := h.shape
  exact ⟨ao, cap, h1, h2, fun a e => (h3 a e).2⟩

end Go.Proofs.Ythnncohkdgaipaa
