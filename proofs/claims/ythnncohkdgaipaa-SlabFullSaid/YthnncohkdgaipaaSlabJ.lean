/- Plain facts that the laws about one sector need. -/
import Derived.Test.YthnncohkdgaipaaSlabI
namespace Go.Proofs.Ythnncohkdgaipaa
open Go.ChangeShapes Go.WideShapes Go.ChangeAt Go.RowKit
set_option linter.unusedVariables false
set_option maxRecDepth 20000

/-- none waits -/
def Calm7 (f : Nat → Nat) : Prop := ∀ j, f j ≠ 3

theorem newS_calm (t : Int) : Calm7 (newS t) := by
  intro j h
  unfold newS at h
  split at h <;> omega

theorem upd_calm {f : Nat → Nat} (h : Calm7 f) {i v : Nat} (hv : v ≠ 3) : Calm7 (upd f i v) := by
  intro j
  unfold upd
  split
  · exact hv
  · exact h j

theorem take_calm {f : Nat → Nat} (h : Calm7 f) (i : Int) : Calm7 (turnF f i 1 2) := by
  unfold turnF
  split
  · exact upd_calm h (by omega)
  · exact h

theorem canTurn_yes {f : Nat → Nat} {i : Int} {a : Nat} (h : canTurn f i a = true) : ∃ n : Nat, i = n ∧ n < 1024 ∧ f n = a := by
  unfold canTurn at h
  simp only [Bool.and_eq_true, decide_eq_true_eq, beq_iff_eq] at h
  exact ⟨i.toNat, by omega, by omega, h.2⟩

theorem turn_yes {f : Nat → Nat} {n a : Nat} (b : Nat) (hn : n < 1024) (hf : f n = a) : turnE f (n : Int) a = 0 ∧ turnF f (n : Int) a b = upd f n b := by
  have h : canTurn f (n : Int) a = true := by rw [canTurn_nat f hn]; simp [hf]
  unfold turnE turnF
  rw [h]
  exact ⟨rfl, rfl⟩
theorem turn_no {f : Nat → Nat} {i : Int} {a : Nat} (b : Nat) (h : canTurn f i a = false) : turnE f i a = 72 ∧ turnF f i a b = f := by
  unfold turnE turnF
  rw [h]
  exact ⟨rfl, rfl⟩

theorem upd_back {f : Nat → Nat} {i a : Nat} (h : f i = a) (v : Nat) : upd (upd f i v) i a = f := by
  funext j
  unfold upd
  by_cases e : j = i
  · subst e; simp [h]
  · simp [e]
theorem upd_upd (f : Nat → Nat) (i v u : Nat) : upd (upd f i v) i u = upd f i u := by
  funext j
  unfold upd
  by_cases e : j = i <;> simp [e]

theorem commit_back {f : Nat → Nat} (h : Calm7 f) {i : Nat} (hf : f i = 1) : commitF (upd f i 3) = f := by
  funext j
  unfold commitF upd
  by_cases e : j = i
  · subst e; simp [hf]
  · have := h j
    simp [e, this]

theorem set_one {f : Nat → Nat} (h : Calm7 f) {i : Nat} (hi : i < 1024) : setS (upd f i 3) 3 = [((i : Int), 1)] := by
  rw [setS_eq]
  refine right_of_masks (runs_right _) ?_ fun j hj => ?_
  · simp [rightFrom, withinB]; omega
  · rw [runs_mask _ hj]
    unfold maskS
    rw [hasL_one]
    unfold upd
    rw [Bool.eq_iff_iff]
    simp only [Bool.and_eq_true, decide_eq_true_eq, beq_iff_eq]
    have := h j
    by_cases e : j = i
    · subst e; simp [hi]; omega
    · rw [if_neg e]
      constructor
      · rintro ⟨_, h3⟩; exact absurd h3 this
      · intro h3; omega

end Go.Proofs.Ythnncohkdgaipaa
