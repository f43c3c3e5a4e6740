/- span.Both answers for any sets; the chapter's example holds. -/
import Derived.Test.YtlbglcmajbhflaaSpanP
namespace Go.Proofs.Ytlbglcmajbhflaa
open Go.ChangeShapes Go.WideShapes Go.ChangeAt Go.RowKit
set_option linter.unusedVariables false
set_option maxRecDepth 20000

def exNums : List Int := [5, 3, 4, 9]
def exSpans : List (Int × Int) := [(3, 3), (9, 1)]

theorem ex_runs : runs (maskOf exNums) 4096 = exSpans := by
  refine right_of_masks (runs_right _) (by decide) fun j hj => ?_
  rw [runs_mask _ hj]
  rw [Bool.eq_iff_iff]
  simp [maskOf, exNums, maskS, hasL, exSpans]
  omega

theorem ex_first : firstL exSpans 2 = some (3, 2) := by decide

theorem ex_nums (w : World) : Nums (w.alloc (.cells #[.int .i64 5, .int .i64 3, .int .i64 4, .int .i64 9] 3)) (some ⟨w.heap.size, 0, none⟩) exNums := by
  intro i hi
  refine ⟨w.heap.size, 0, rfl, ?_⟩
  match i, hi with
  | 0, _ => simp [exNums]
  | 1, _ => simp [exNums]
  | 2, _ => simp [exNums]
  | 3, _ => simp [exNums]

theorem ex_spans (w : World) : Spans (w.alloc (.cells #[.int .i64 3, .int .i64 3, .int .i64 9, .int .i64 1] 53)) (some ⟨w.heap.size, 0, none⟩) exSpans := by
  intro i hi
  refine ⟨w.heap.size, 0, rfl, ?_, ?_⟩
  all_goals
    match i, hi with
    | 0, _ => simp [exSpans]
    | 1, _ => simp [exSpans]

theorem ex_fits : FitsI exNums := ⟨by intro z hz; simp [exNums] at hz; unfold I64; omega, by simp [exNums]⟩
theorem ex_fitsS : Fits exSpans := ⟨by intro z hz; simp [exSpans] at hz; unfold I64; rcases hz with rfl | rfl <;> simp, by simp [exSpans]⟩

end Go.Proofs.Ytlbglcmajbhflaa
