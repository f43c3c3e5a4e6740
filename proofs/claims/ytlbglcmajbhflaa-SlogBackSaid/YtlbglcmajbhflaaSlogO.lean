/- The chapter's example. -/
import Derived.Test.YtlbglcmajbhflaaSlogN
namespace Go.Proofs.Ytlbglcmajbhflaa
open Go.ChangeShapes Go.WideShapes Go.ChangeAt Go.RowKit
set_option linter.unusedVariables false
set_option maxRecDepth 20000

theorem cut_one (s n s' n' a b : Int) (h1 : withinB s n = true) (h2 : withinB a b = true) (h : ∀ j : Int, (s ≤ j ∧ j < s + n ∧ ¬ (s' ≤ j ∧ j < s' + n')) ↔ (a ≤ j ∧ j < a + b)) : cutS [(s, n)] [(s', n')] = [(a, b)] := by
  have r1 : rightFrom 0 [(s, n)] = true := by rw [right_one]; exact h1
  have r2 : rightFrom 0 [(a, b)] = true := by rw [right_one]; exact h2
  refine right_of_masks (cutS_right _ _) r2 fun j _ => ?_
  rw [cutS_mask r1]
  dsimp only
  have := h j
  rw [Bool.eq_iff_iff]
  simp only [maskS, hasL, List.any_cons, List.any_nil, Bool.or_false, Bool.and_eq_true, Bool.not_eq_true', decide_eq_true_eq, decide_eq_false_iff_not]
  omega
theorem ex_diff : diffL [(1, 3)] [(3, 3)] = [(false, 1, 2), (true, 4, 2)] := by
  rw [diffL_yes (by decide) (by decide), cut_one 1 3 3 3 1 2 (by decide) (by decide) (fun j => by omega), cut_one 3 3 1 3 4 2 (by decide) (by decide) (fun j => by omega)]
  rfl
theorem ex_moves (w : World) : Moves (w.alloc (.cells #[.bool false, .int .i64 1, .int .i64 2, .bool true, .int .i64 4, .int .i64 2] 55)) (some ⟨w.heap.size, 0, none⟩) [(false, 1, 2), (true, 4, 2)] := fun i hi => by
  refine ⟨w.heap.size, 0, rfl, ?_, ?_, ?_⟩
  all_goals
    match i, hi with
    | 0, _ => simp
    | 1, _ => simp
theorem ex_fitm : FitM [(false, 1, 2), (true, 4, 2)] := fit_right (by decide) (by decide)

set_option maxHeartbeats 2000000 in
theorem slogAlive_any (w : World) : Calls Try.prog 11 #[] w fun e w' => e = .returned (.bool true) ∧ Below w.heap.size w w' := by
  obtain ⟨hx, hf⟩ := span_new w 1 3 ⟨by unfold I64; omega, by unfold I64; omega⟩
  obtain ⟨hy, hg⟩ := span_new (w.alloc (.cells #[.int .i64 1, .int .i64 3] 53)) 3 3 ⟨by unfold I64; omega, by unfold I64; omega⟩
  rw [World.size_alloc] at hy
  have hx := Lib.hid (hx.below ((Below.refl _ _).alloc (Nat.le_refl _) (.cells #[.int .i64 3, .int .i64 3] 53)))
  have hy := Lib.hid hy
  have hB := Lib.hid (((Below.refl w.heap.size w).alloc (Nat.le_refl _) (.cells #[.int .i64 1, .int .i64 3] 53)).alloc (by simp) (.cells #[.int .i64 3, .int .i64 3] 53))
  go_enter Try.func11, Try.ntmps11
  go_wp2_with fail
  refine (Diff_any _ _ 1 1 [(1, 3)] [(3, 3)] _ hx.out hf hy.out hg).mono ?_
  rintro e w1 ⟨v, rfl, ho, hb1⟩
  rw [ex_diff] at ho
  obtain ⟨ao, cap, rfl, hms, _⟩ := ho.shape
  have hb1 := Lib.hid (hB.out.trans (hb1.mono hB.out.size))
  have hms := Lib.hid hms
  have hb2 := Lib.hid (hb1.out.alloc hb1.out.size (.cells #[.bool false, .int .i64 1, .int .i64 2, .bool true, .int .i64 4, .int .i64 2] 55))
  clear ho
  go_wp2_with fail
  refine (SameM_any ao _ cap 2 [(false, 1, 2), (true, 4, 2)] [(false, 1, 2), (true, 4, 2)] _ (hms.out.below ((Below.refl _ _).alloc (Nat.le_refl _) _)) (ex_moves w1) ex_fitm ex_fitm).mono ?_
  rintro e w2 ⟨rfl, hb3⟩
  have hb3 := Lib.hid (hb2.out.trans (hb3.mono hb2.out.size))
  go_wp2
  go_ret
  exact ⟨by simp, hb3.out⟩
end Go.Proofs.Ytlbglcmajbhflaa
