/- Slices of spans of the call's own, and the spans of marked numbers. -/
import Derived.Test.YtlbglcmajbhflaaSpanC
import Derived.RangeFuncBox
import Derived.Maps.AppendAt
namespace Go.Proofs.Ytlbglcmajbhflaa
open Go.ChangeShapes Go.WideShapes Go.ChangeAt Go.RowKit

/-- the spans as cells -/
def flat (xs : List (Int × Int)) : List Value := xs.flatMap fun p => [.int .i64 p.1, .int .i64 p.2]

theorem flat_length (xs : List (Int × Int)) : (flat xs).length = xs.length * 2 := by
  induction xs with
  | nil => rfl
  | cons p r ih => simp only [flat, List.flatMap_cons, List.length_append, List.length_cons, List.length_nil] at *; omega

theorem flat_append (xs ys : List (Int × Int)) : flat (xs ++ ys) = flat xs ++ flat ys := by simp [flat]

theorem flat_get1 (xs : List (Int × Int)) (i : Nat) (h : i < xs.length) : (flat xs)[i * 2]? = some (.int .i64 xs[i].1) := by
  induction xs generalizing i with
  | nil => simp at h
  | cons p r ih =>
    cases i with
    | zero => simp [flat]
    | succ i =>
      have := ih i (by simpa using h)
      simp only [flat, List.flatMap_cons] at *
      rw [show (i + 1) * 2 = i * 2 + 2 from by omega]
      simpa using this

theorem flat_get2 (xs : List (Int × Int)) (i : Nat) (h : i < xs.length) : (flat xs)[i * 2 + 1]? = some (.int .i64 xs[i].2) := by
  induction xs generalizing i with
  | nil => simp at h
  | cons p r ih =>
    cases i with
    | zero => simp [flat]
    | succ i =>
      have := ih i (by simpa using h)
      simp only [flat, List.flatMap_cons] at *
      rw [show (i + 1) * 2 + 1 = i * 2 + 1 + 2 from by omega]
      simpa using this

/-- a slice of the call's own that holds these spans -/
def OwnS (w : World) (base : Nat) (v : Value) (xs : List (Int × Int)) : Prop := w.ownsRow base 53 2 v xs.length (flat xs)

theorem OwnS.shape {w : World} {base : Nat} {v : Value} {xs : List (Int × Int)} (h : OwnS w base v xs) : ∃ ao cap, v = .slice ao xs.length cap ∧ Spans w ao xs ∧ (∀ a, ao = some a → base ≤ a.block ∧ a.block < w.heap.size) := by
  have hc := h
  have hlt := World.ownsRow.lt h
  obtain ⟨hl, h | h⟩ := h
  · obtain ⟨rfl, hn⟩ := h
    obtain rfl : xs = [] := List.eq_nil_of_length_eq_zero hn
    exact ⟨none, 0, rfl, (fun i hi => by simp at hi), (fun a h => by cases h)⟩
  · obtain ⟨g, cap, cur, rfl, _⟩ := h
    refine ⟨some ⟨g, 0, none⟩, cap, rfl, ?_, ?_⟩
    · intro i hi
      refine ⟨g, 0, rfl, ?_, ?_⟩
      · rw [Nat.zero_add, hc.cellAt (i * 2) (by omega), flat_get1 xs i hi]
      · rw [Nat.zero_add, hc.cellAt (i * 2 + 1) (by omega), flat_get2 xs i hi]
    · intro a ha
      cases ha
      exact hlt g rfl

theorem OwnS.below {w w' : World} {base : Nat} {v : Value} {xs : List (Int × Int)} (h : OwnS w base v xs) (hb : Below w.heap.size w w') : OwnS w' base v xs := by
  obtain ⟨hl, h | h⟩ := h
  · exact ⟨hl, .inl h⟩
  · obtain ⟨g, cap, cur, rfl, h1, h2, h3⟩ := h
    refine ⟨hl, .inr ⟨g, cap, cur, rfl, h1, ?_, h3⟩⟩
    have : g < w.heap.size := by
      by_cases hb : g < w.heap.size
      · exact hb
      · rw [Array.getElem?_eq_none (by omega)] at h2; simp at h2
    rw [hb.block g this, h2]

theorem OwnS.le {w : World} {base base' : Nat} {v : Value} {xs : List (Int × Int)} (h : OwnS w base v xs) (hb : base' ≤ base) : OwnS w base' v xs := by
  obtain ⟨hl, h | h⟩ := h
  · exact ⟨hl, .inl h⟩
  · obtain ⟨g, cap, cur, rfl, h1, h2⟩ := h
    exact ⟨hl, .inr ⟨g, cap, cur, rfl, by omega, h2⟩⟩

/-- the last span is one longer -/
def bump (xs : List (Int × Int)) : List (Int × Int) := xs.dropLast ++ [((xs.getLastD (0, 0)).1, (xs.getLastD (0, 0)).2 + 1)]

theorem bump_length {xs : List (Int × Int)} (h : xs ≠ []) : (bump xs).length = xs.length := by
  have : xs.length ≠ 0 := fun e => h (List.eq_nil_of_length_eq_zero e)
  simp [bump]; omega

/-- the spans of what is marked among the first k numbers -/
def runs (f : Nat → Bool) : Nat → List (Int × Int)
  | 0 => []
  | k + 1 => if f k then (if k ≠ 0 ∧ f (k - 1) then bump (runs f k) else runs f k ++ [((k : Int), 1)]) else runs f k

theorem runs_congr {f g : Nat → Bool} {n : Nat} (h : ∀ i, i < n → f i = g i) : runs f n = runs g n := by
  induction n with
  | zero => rfl
  | succ n ih =>
    have i1 := ih fun i hi => h i (by omega)
    have i2 := h n (by omega)
    by_cases h0 : n = 0
    · subst h0; simp [runs, i2]
    · have i3 := h (n - 1) (by omega)
      simp only [runs, i1, i2, i3]

theorem runs_last (f : Nat → Bool) : ∀ k, 0 < k → f (k - 1) = true → runs f k ≠ [] ∧ ((runs f k).getLastD (0, 0)).1 + ((runs f k).getLastD (0, 0)).2 = k ∧ 0 ≤ ((runs f k).getLastD (0, 0)).1 ∧ 1 ≤ ((runs f k).getLastD (0, 0)).2
  | 0, h, _ => absurd h (by omega)
  | k + 1, _, hf => by
    have hf' : f k = true := by simpa using hf
    by_cases h0 : k ≠ 0 ∧ f (k - 1) = true
    · obtain ⟨i1, i2, i3, i4⟩ := runs_last f k (by omega) h0.2
      simp only [runs, hf', if_true, if_pos h0]
      refine ⟨by simp [bump], ?_, ?_, ?_⟩
      all_goals (simp [bump] at *; omega)
    · simp only [runs, hf', if_true, if_neg h0]
      refine ⟨by simp, ?_, ?_, ?_⟩
      all_goals (simp; try omega)

theorem runs_length (f : Nat → Bool) (k : Nat) : (runs f k).length ≤ k := by
  induction k with
  | zero => simp [runs]
  | succ k ih =>
    unfold runs
    split
    · split
      · rename_i h
        have := (runs_last f k (by omega) h.2).1
        rw [bump_length this]; omega
      · simp; omega
    · omega

theorem bump_get {xs : List (Int × Int)} {s n : Int} (h : ∃ ys, xs = ys ++ [(s, n)]) : flat (bump xs) = (flat xs).set ((xs.length - 1) * 2 + 1) (.int .i64 (n + 1)) := by
  obtain ⟨ys, rfl⟩ := h
  rw [flat_append]
  simp only [bump, List.dropLast_concat, List.getLastD_concat, flat_append]
  have : (ys ++ [(s, n)]).length - 1 = ys.length := by simp
  rw [this, List.set_append, if_neg (by rw [flat_length]; omega), flat_length]
  simp [flat]

theorem last_split {xs : List (Int × Int)} (h : xs ≠ []) : ∃ ys s n, xs = ys ++ [(s, n)] ∧ (xs.getLastD (0, 0)) = (s, n) := by
  rcases List.eq_nil_or_concat xs with rfl | ⟨ys, ⟨s, n⟩, rfl⟩
  · exact absurd rfl h
  · exact ⟨ys, s, n, by simp, by simp⟩

end Go.Proofs.Ytlbglcmajbhflaa
