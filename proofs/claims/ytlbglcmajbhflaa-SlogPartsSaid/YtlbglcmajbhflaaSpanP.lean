/- Plain facts on sets as spans: a set is known by its numbers. -/
import Derived.Test.YtlbglcmajbhflaaSpanN
namespace Go.Proofs.Ytlbglcmajbhflaa
open Go.ChangeShapes Go.WideShapes Go.ChangeAt Go.RowKit
set_option linter.unusedVariables false
set_option maxRecDepth 20000

/-- where the next span may begin -/
def endOf : Int → List (Int × Int) → Int
  | low, [] => low
  | _, (s, n) :: r => endOf (s + n + 1) r

theorem endOf_snoc (low : Int) (xs : List (Int × Int)) (s n : Int) : endOf low (xs ++ [(s, n)]) = s + n + 1 := by
  induction xs generalizing low with
  | nil => rfl
  | cons q r ih => obtain ⟨a, b⟩ := q; exact ih _

theorem right_snoc (low : Int) (xs : List (Int × Int)) (s n : Int) : rightFrom low (xs ++ [(s, n)]) = (rightFrom low xs && (withinB s n && decide (endOf low xs ≤ s))) := by
  induction xs generalizing low with
  | nil => simp [rightFrom, endOf]; rfl
  | cons q r ih =>
    obtain ⟨a, b⟩ := q
    simp only [List.cons_append, rightFrom, endOf, ih, Bool.and_assoc]; rfl

theorem hasL_append (xs ys : List (Int × Int)) (j : Int) : hasL (xs ++ ys) j = (hasL xs j || hasL ys j) := by simp [hasL]

theorem hasL_one (s n j : Int) : hasL [(s, n)] j = decide (s ≤ j ∧ j < s + n) := by simp [hasL]

/-- what the runs of marks are -/
theorem runs_inv (f : Nat → Bool) : ∀ k, k ≤ 4096 → rightFrom 0 (runs f k) = true ∧ (∀ j : Int, hasL (runs f k) j = true ↔ 0 ≤ j ∧ j < k ∧ f j.toNat = true) ∧ endOf 0 (runs f k) ≤ k + 1 ∧ ((k = 0 ∨ f (k - 1) = false) → endOf 0 (runs f k) ≤ k)
  | 0, _ => ⟨rfl, fun j => ⟨fun h => (by simp [runs, hasL] at h), fun h => by omega⟩, by simp [runs, endOf], fun _ => by simp [runs, endOf]⟩
  | k + 1, hk => by
    obtain ⟨i1, i2, i3, i4⟩ := runs_inv f k (by omega)
    cases hf : f k
    · have e : runs f (k + 1) = runs f k := by simp [runs, hf]
      rw [e]
      refine ⟨i1, fun j => ?_, by omega, fun _ => by omega⟩
      rw [i2]
      constructor
      · rintro ⟨h1, h2, h3⟩; exact ⟨h1, by omega, h3⟩
      · rintro ⟨h1, h2, h3⟩
        refine ⟨h1, ?_, h3⟩
        rcases Int.lt_or_eq_of_le (show j ≤ k from by omega) with h | h
        · exact h
        · subst h; simp at h3; rw [hf] at h3; cases h3
    · by_cases hp : k ≠ 0 ∧ f (k - 1) = true
      · obtain ⟨hk0, hp⟩ := hp
        obtain ⟨h1, h2, h3, h4⟩ := runs_last f k (by omega) hp
        obtain ⟨ys, s, n, e, el⟩ := last_split h1
        rw [el] at h2 h3 h4
        simp only at h2 h3 h4
        have e2 : runs f (k + 1) = ys ++ [(s, n + 1)] := by
          simp only [runs, hf, if_true]
          rw [if_pos ⟨hk0, hp⟩, e]
          simp [bump]
        rw [e] at i1 i2 i3
        rw [right_snoc] at i1
        simp only [Bool.and_eq_true, decide_eq_true_eq] at i1
        rw [e2]
        refine ⟨?_, fun j => ?_, by rw [endOf_snoc]; omega, fun h => ?_⟩
        · rw [right_snoc]
          simp only [Bool.and_eq_true, decide_eq_true_eq]
          exact ⟨i1.1, by simp [withinB]; omega, i1.2.2⟩
        · have := i2 j
          rw [hasL_append, hasL_one] at this ⊢
          simp only [Bool.or_eq_true, decide_eq_true_eq] at this ⊢
          constructor
          · rintro (h | h)
            · obtain ⟨a, b, c⟩ := this.1 (.inl h); exact ⟨a, by omega, c⟩
            · by_cases hj : j < s + n
              · obtain ⟨a, b, c⟩ := this.1 (.inr ⟨h.1, hj⟩); exact ⟨a, by omega, c⟩
              · have : j = k := by omega
                subst this
                exact ⟨by omega, by omega, by simpa using hf⟩
          · rintro ⟨a, b, c⟩
            by_cases hj : j < k
            · rcases this.2 ⟨a, hj, c⟩ with h | h
              · exact .inl h
              · exact .inr (by omega)
            · exact .inr (by omega)
        · rcases h with h | h
          · omega
          · simp [hf] at h
      · have e2 : runs f (k + 1) = runs f k ++ [((k : Int), 1)] := by simp only [runs, hf, if_true, if_neg hp]
        have h4 := i4 (by
          by_cases h0 : k = 0
          · exact .inl h0
          · right; cases h : f (k - 1)
            · rfl
            · exact absurd ⟨h0, h⟩ hp)
        rw [e2]
        refine ⟨?_, fun j => ?_, by rw [endOf_snoc]; omega, fun h => ?_⟩
        · rw [right_snoc]
          simp only [Bool.and_eq_true, decide_eq_true_eq]
          exact ⟨i1, by simp [withinB]; omega, h4⟩
        · rw [hasL_append, hasL_one]
          simp only [Bool.or_eq_true, decide_eq_true_eq]
          rw [i2]
          constructor
          · rintro (h | h)
            · exact ⟨h.1, by omega, h.2.2⟩
            · have : j = k := by omega
              subst this
              exact ⟨by omega, by omega, by simpa using hf⟩
          · rintro ⟨a, b, c⟩
            by_cases hj : j < k
            · exact .inl ⟨a, hj, c⟩
            · exact .inr (by omega)
        · rcases h with h | h
          · omega
          · simp [hf] at h

theorem runs_right (f : Nat → Bool) : rightFrom 0 (runs f 4096) = true := (runs_inv f 4096 (Nat.le_refl _)).1

theorem runs_mask (f : Nat → Bool) {j : Nat} (hj : j < 4096) : maskS (runs f 4096) j = f j := by
  rw [Bool.eq_iff_iff]
  unfold maskS
  rw [(runs_inv f 4096 (Nat.le_refl _)).2.1 (j : Int)]
  simp
  intro _; omega

theorem runs_fits (f : Nat → Bool) : Fits (runs f 4096) := by
  refine ⟨fun p hp => ?_, ?_⟩
  · have := right_good (runs_right f) p hp
    unfold I64; omega
  · have := runs_length f 4096; omega

theorem right_head {low s n : Int} {r : List (Int × Int)} (h : rightFrom low ((s, n) :: r) = true) : 0 ≤ s ∧ 1 ≤ n ∧ low ≤ s ∧ rightFrom (s + n + 1) r = true := by
  simp only [rightFrom, Bool.and_eq_true, decide_eq_true_eq] at h
  have := withinB_true h.1.1
  exact ⟨this.1, this.2.1, h.1.2, h.2⟩

theorem hasL_cons (s n : Int) (r : List (Int × Int)) (j : Int) : hasL ((s, n) :: r) j = (decide (s ≤ j ∧ j < s + n) || hasL r j) := by simp [hasL]

/-- a set is known by its numbers -/
theorem right_unique {low low' : Int} {xs ys : List (Int × Int)} (hx : rightFrom low xs = true) (hy : rightFrom low' ys = true) (h : ∀ j, hasL xs j = hasL ys j) : xs = ys := by
  induction xs generalizing low low' ys with
  | nil =>
    cases ys with
    | nil => rfl
    | cons q r =>
      obtain ⟨s, n⟩ := q
      have hh := right_head hy
      have := h s
      rw [hasL_cons] at this
      have e : decide (s ≤ s ∧ s < s + n) = true := by simp; omega
      rw [e] at this
      simp [hasL] at this
  | cons p r ih =>
    obtain ⟨s, n⟩ := p
    obtain ⟨a1, a2, a3, a4⟩ := right_head hx
    cases ys with
    | nil =>
      have := h s
      rw [hasL_cons] at this
      have e : decide (s ≤ s ∧ s < s + n) = true := by simp; omega
      rw [e] at this
      simp [hasL] at this
    | cons q r' =>
      obtain ⟨s', n'⟩ := q
      obtain ⟨b1, b2, b3, b4⟩ := right_head hy
      have low1 : ∀ j, j < s + n + 1 → hasL r j = false := fun j hj => right_low a4 hj
      have low2 : ∀ j, j < s' + n' + 1 → hasL r' j = false := fun j hj => right_low b4 hj
      have hss : s = s' := by
        rcases Int.lt_trichotomy s s' with c | c | c
        · have := h s
          rw [hasL_cons, hasL_cons, low2 s (by omega)] at this
          have e : decide (s ≤ s ∧ s < s + n) = true := by simp; omega
          have e' : decide (s' ≤ s ∧ s < s' + n') = false := by simp; omega
          rw [e, e'] at this; simp at this
        · exact c
        · have := h s'
          rw [hasL_cons, hasL_cons, low1 s' (by omega)] at this
          have e : decide (s ≤ s' ∧ s' < s + n) = false := by simp; omega
          have e' : decide (s' ≤ s' ∧ s' < s' + n') = true := by simp; omega
          rw [e, e'] at this; simp at this
      subst hss
      have hnn : n = n' := by
        rcases Int.lt_trichotomy n n' with c | c | c
        · have := h (s + n)
          rw [hasL_cons, hasL_cons, low1 (s + n) (by omega)] at this
          have e : decide (s ≤ s + n ∧ s + n < s + n) = false := by simp
          have e' : decide (s ≤ s + n ∧ s + n < s + n') = true := by simp; omega
          rw [e, e'] at this; simp at this
        · exact c
        · have := h (s + n')
          rw [hasL_cons, hasL_cons, low2 (s + n') (by omega)] at this
          have e : decide (s ≤ s + n' ∧ s + n' < s + n) = true := by simp; omega
          have e' : decide (s ≤ s + n' ∧ s + n' < s + n') = false := by simp
          rw [e, e'] at this; simp at this
      subst hnn
      have hr : r = r' := by
        refine ih a4 b4 fun j => ?_
        by_cases hj : j < s + n + 1
        · rw [low1 j hj, low2 j hj]
        · have := h j
          rw [hasL_cons, hasL_cons] at this
          have e : decide (s ≤ j ∧ j < s + n) = false := by simp; omega
          rw [e] at this
          simpa using this
      rw [hr]

theorem hasL_range {xs : List (Int × Int)} (hg : Good xs) {j : Int} (h : hasL xs j = true) : 0 ≤ j ∧ j < 4096 := by
  simp only [hasL, List.any_eq_true] at h
  obtain ⟨p, hp, hpq⟩ := h
  have := hg p hp
  simp at hpq
  omega

theorem right_of_masks {xs ys : List (Int × Int)} (hx : rightFrom 0 xs = true) (hy : rightFrom 0 ys = true) (h : ∀ j, j < 4096 → maskS xs j = maskS ys j) : xs = ys := by
  refine right_unique hx hy fun j => ?_
  by_cases hj : 0 ≤ j ∧ j < 4096
  · obtain ⟨m, rfl⟩ := Int.eq_ofNat_of_zero_le hj.1
    exact h m (by omega)
  · have h1 : hasL xs j = false := by
      cases e : hasL xs j
      · rfl
      · exact absurd (hasL_range (right_good hx) e) hj
    have h2 : hasL ys j = false := by
      cases e : hasL ys j
      · rfl
      · exact absurd (hasL_range (right_good hy) e) hj
    rw [h1, h2]

theorem runs_of_right {xs : List (Int × Int)} (hx : rightFrom 0 xs = true) : runs (maskS xs) 4096 = xs :=
  right_of_masks (runs_right _) hx fun j hj => runs_mask _ hj

theorem right_fits {xs : List (Int × Int)} (hx : rightFrom 0 xs = true) : Fits xs := by
  rw [← runs_of_right hx]; exact runs_fits _

theorem right_length {xs : List (Int × Int)} (hx : rightFrom 0 xs = true) : xs.length ≤ 4096 := by
  rw [← runs_of_right hx]; exact runs_length _ _

theorem runs_eq {f g : Nat → Bool} (h : ∀ j, j < 4096 → f j = g j) : runs f 4096 = runs g 4096 := runs_congr h

theorem numsL_map (f : Nat → Bool) (k : Nat) (hk : k ≤ 4096) : FitsI (numsL f k) := by
  refine ⟨fun z hz => ?_, by have := numsL_length f k; omega⟩
  unfold numsL at hz
  simp only [List.mem_map, List.mem_filter, List.mem_range] at hz
  obtain ⟨i, ⟨hi, _⟩, rfl⟩ := hz
  unfold I64
  simp only [Int.ofNat_eq_natCast]
  omega

end Go.Proofs.Ytlbglcmajbhflaa
