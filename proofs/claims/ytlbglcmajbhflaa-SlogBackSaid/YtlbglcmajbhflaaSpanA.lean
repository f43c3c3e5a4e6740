/- span.within answers for every span whether it can be in a set. -/
import Derived.Test.YtlbglcmajbhflaaRows
import Derived.Test.YtlbglcmajbhflaaKit
namespace Go.Proofs.Ytlbglcmajbhflaa
open Go.ChangeShapes Go.WideShapes Go.ChangeAt Go.RowKit
set_option linter.unusedVariables false
set_option maxRecDepth 20000

/-- a span that can be in a set -/
def withinB (s n : Int) : Bool := decide (0 ≤ s ∧ 1 ≤ n ∧ n ≤ 4096 - s)

theorem within_eq {s n : Int} {b : Bool} (h : b = true ↔ (0 ≤ s ∧ 1 ≤ n ∧ n ≤ 4096 - s)) : Ending.returned (.bool b) = .returned (.bool (withinB s n)) := by
  congr 2
  rw [Bool.eq_iff_iff, h]
  simp [withinB]

set_option maxHeartbeats 400000 in
theorem within_any (s n : Int) (w : World) (hs1 : -9223372036854775808 ≤ s) (hs2 : s ≤ 9223372036854775807) (hn1 : -9223372036854775808 ≤ n) (hn2 : n ≤ 9223372036854775807) :
    Calls Try.prog 38 #[.agg #[.int .i64 s, .int .i64 n]] w fun e w' => e = .returned (.bool (withinB s n)) ∧ Below w.heap.size w w' := by
  by_cases h1 : 0 ≤ s
  · by_cases h2 : 1 ≤ n
    · by_cases h3 : n ≤ 4096 - s
      all_goals
        go_enter Try.func38, Try.ntmps38
        go_wp2
        go_ret
        refine ⟨within_eq ?_, (Below.refl _ _).alloc (Nat.le_refl _) _⟩
        first | exact ⟨fun _ => ⟨h1, h2, h3⟩, fun _ => rfl⟩ | exact ⟨fun h => (by simp at h), fun h => (by omega)⟩
    · go_enter Try.func38, Try.ntmps38
      go_wp2
      go_ret
      exact ⟨within_eq ⟨fun h => (by simp at h), fun h => (by omega)⟩, (Below.refl _ _).alloc (Nat.le_refl _) _⟩
  · go_enter Try.func38, Try.ntmps38
    go_wp2
    go_ret
    exact ⟨within_eq ⟨fun h => (by simp at h), fun h => (by omega)⟩, (Below.refl _ _).alloc (Nat.le_refl _) _⟩

end Go.Proofs.Ytlbglcmajbhflaa
