/- The document's own First, Has and Right answer as their plain functions do, for every input (Has: of spans that can be in a set). -/
import Derived.Test.YthnncohkdgaipaaSpanH
namespace Go.Proofs.Ythnncohkdgaipaa
open Go.ChangeShapes Go.WideShapes Go.ChangeAt Go.RowKit
set_option linter.unusedVariables false
set_option maxRecDepth 20000

/-- spans of numbers that can be in a set -/
def Good (xs : List (Int × Int)) : Prop := ∀ p ∈ xs, 0 ≤ p.1 ∧ 1 ≤ p.2 ∧ p.2 ≤ 4096 - p.1

/-- is the number in one of them? -/
def hasL (xs : List (Int × Int)) (n : Int) : Bool := xs.any fun p => decide (p.1 ≤ n ∧ n < p.1 + p.2)

theorem right_good {low : Int} {xs : List (Int × Int)} (h : rightFrom low xs = true) : Good xs := by
  induction xs generalizing low with
  | nil => intro p hp; cases hp
  | cons q r ih =>
    obtain ⟨s, n⟩ := q
    simp only [rightFrom, Bool.and_eq_true] at h
    intro p hp
    rcases List.mem_cons.1 hp with rfl | hp
    · exact withinB_true h.1.1
    · exact ih h.2 p hp

theorem good_drop {xs : List (Int × Int)} (h : Good xs) {k : Nat} {p : Int × Int} {r : List (Int × Int)} (hd : xs.drop k = p :: r) : 0 ≤ p.1 ∧ 1 ≤ p.2 ∧ p.2 ≤ 4096 - p.1 :=
  h p (List.mem_of_mem_drop (i := k) (by rw [hd]; exact List.mem_cons_self))

/-- what went ahead of the k-th span -/
def PrevIs (xs : List (Int × Int)) (k : Nat) (low : Int) : Prop :=
  rightFrom 0 xs = rightFrom low (xs.drop k) ∧ (k = 0 → low = 0) ∧ (0 < k → ∃ s n, withinB s n = true ∧ xs.drop (k - 1) = (s, n) :: xs.drop k ∧ low = s + n + 1)

end Go.Proofs.Ythnncohkdgaipaa
