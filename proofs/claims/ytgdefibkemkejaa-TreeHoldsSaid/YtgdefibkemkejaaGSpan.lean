/- Span: the texts SpanA, SpanB, SpanC, SpanD, SpanE, SpanF, SpanG, SpanH, SpanI, SpanJ, SpanK, SpanL, SpanM, SpanN, one behind the other. -/
import Derived.Test.YtgdefibkemkejaaRows
import Derived.Test.YtgdefibkemkejaaGBase
import Derived.RangeFuncBox
import Derived.Maps.AppendAt
import Derived.RangeFuncNested
import Derived.RangeFuncBound
import Derived.RangeFuncCalls
import Derived.RangeFuncLeaves
import Derived.RangeFuncWrites
import Derived.Shelf.Abstract
import Derived.Shelf.RegionOpen
import Derived.OwnWalkIn
import Derived.TacticsInMore
import Derived.LoopNIn
import Derived.LoopIn
/- span.within answers for every span whether it can be in a set. -/
namespace Go.Proofs.Ytgdefibkemkejaa
open Go.ChangeShapes Go.WideShapes Go.ChangeAt Go.RowKit
set_option linter.unusedVariables false
set_option maxRecDepth 20000

/-- a span that can be in a set -/
def withinB (s n : Int) : Bool := decide (0 ≤ s ∧ 1 ≤ n ∧ n ≤ 4096 - s)

theorem within_eq {s n : Int} {b : Bool} (h : b = true ↔ (0 ≤ s ∧ 1 ≤ n ∧ n ≤ 4096 - s)) : Ending.returned (.bool b) = .returned (.bool (withinB s n)) := by
  congr 2
  rw [Bool.eq_iff_iff, h]
  simp [withinB]

set_option maxHeartbeats 400000 in
theorem within_any (s n : Int) (w : World) (hs1 : -9223372036854775808 ≤ s) (hs2 : s ≤ 9223372036854775807) (hn1 : -9223372036854775808 ≤ n) (hn2 : n ≤ 9223372036854775807) :
    Calls Try.prog 76 #[.agg #[.int .i64 s, .int .i64 n]] w fun e w' => e = .returned (.bool (withinB s n)) ∧ Below w.heap.size w w' := by
  by_cases h1 : 0 ≤ s
  · by_cases h2 : 1 ≤ n
    · by_cases h3 : n ≤ 4096 - s
      all_goals
        go_enter Try.func76, Try.ntmps76
        go_wp2
        go_ret
        refine ⟨within_eq ?_, (Below.refl _ _).alloc (Nat.le_refl _) _⟩
        first | exact ⟨fun _ => ⟨h1, h2, h3⟩, fun _ => rfl⟩ | exact ⟨fun h => (by simp at h), fun h => (by omega)⟩
    · go_enter Try.func76, Try.ntmps76
      go_wp2
      go_ret
      exact ⟨within_eq ⟨fun h => (by simp at h), fun h => (by omega)⟩, (Below.refl _ _).alloc (Nat.le_refl _) _⟩
  · go_enter Try.func76, Try.ntmps76
    go_wp2
    go_ret
    exact ⟨within_eq ⟨fun h => (by simp at h), fun h => (by omega)⟩, (Below.refl _ _).alloc (Nat.le_refl _) _⟩

end Go.Proofs.Ytgdefibkemkejaa

/- span.Right answers for every list of spans whether it is a set. -/
namespace Go.Proofs.Ytgdefibkemkejaa
open Go.ChangeShapes Go.WideShapes Go.ChangeAt Go.RowKit
set_option linter.unusedVariables false
set_option maxRecDepth 20000

/-- a list of spans in memory, at whatever address -/
def Spans (w : World) (ao : Option Addr) (xs : List (Int × Int)) : Prop :=
  ∀ i (h : i < xs.length), ∃ b off, ao = some ⟨b, off, none⟩ ∧ w.cell? ⟨b, off + i * 2, none⟩ = some (.int .i64 xs[i].1) ∧ w.cell? ⟨b, off + i * 2 + 1, none⟩ = some (.int .i64 xs[i].2)

def Fits (xs : List (Int × Int)) : Prop := (∀ p ∈ xs, I64 p.1 ∧ I64 p.2) ∧ xs.length * 16 ≤ 140737488351232

theorem Spans.below {w w' : World} {ao : Option Addr} {xs : List (Int × Int)} (h : Spans w ao xs) (hb : Below w.heap.size w w') : Spans w' ao xs := by
  intro i hi
  obtain ⟨b, off, e, c1, c2⟩ := h i hi
  exact ⟨b, off, e, (hb.cell (cell_lt c1)).trans c1, (hb.cell (cell_lt c2)).trans c2⟩

/-- one span of a list -/
theorem Spans.get {w : World} {ao : Option Addr} {xs : List (Int × Int)} (h : Spans w ao xs) (hf : Fits xs) {k : Nat} (hk : k < xs.length) :
    ∃ b off s n, ao = some ⟨b, off, none⟩ ∧ Hid (xs.drop k = (s, n) :: xs.drop (k + 1)) ∧ w.cell? ⟨b, off + k * 2, none⟩ = some (.int .i64 s) ∧ w.cell? ⟨b, off + k * 2 + 1, none⟩ = some (.int .i64 n) ∧
      b < w.heap.size ∧ -9223372036854775808 ≤ s ∧ s ≤ 9223372036854775807 ∧ -9223372036854775808 ≤ n ∧ n ≤ 9223372036854775807 := by
  obtain ⟨b, off, e, c1, c2⟩ := h k hk
  obtain ⟨⟨h1, h2⟩, h3, h4⟩ := hf.1 _ (List.getElem_mem hk)
  exact ⟨b, off, _, _, e, List.drop_eq_getElem_cons hk, c1, c2, cell_lt c1, h1, h2, h3, h4⟩

theorem withinB_true {s n : Int} (h : withinB s n = true) : 0 ≤ s ∧ 1 ≤ n ∧ n ≤ 4096 - s := by simpa [withinB] using h

def rightFrom : Int → List (Int × Int) → Bool
  | _, [] => true
  | low, (s, n) :: r => withinB s n && decide (low ≤ s) && rightFrom (s + n + 1) r

end Go.Proofs.Ytgdefibkemkejaa

/- Blocks of 4096 bools: what is read, stored and laid in them. -/
namespace Go.Proofs.Ytgdefibkemkejaa
open Go.ChangeShapes Go.WideShapes Go.ChangeAt Go.RowKit

/-- an array of 4096 bools -/
def bools (f : Nat → Bool) : Array Value := ((List.range 4096).map fun i => Value.bool (f i)).toArray

theorem bools_size (f : Nat → Bool) : (bools f).size = 4096 := by simp [bools]

theorem bools_get (f : Nat → Bool) {i : Nat} (h : i < 4096) : (bools f)[i]? = some (.bool (f i)) := by
  simp [bools, h]

theorem bools_none : Array.replicate 4096 (Value.bool false) = bools fun _ => false := by
  apply Array.ext
  · simp [bools]
  · intro i h1 h2
    simp [bools]

theorem zero48 (w : World) : Sem.run Try.prog (zeroValue 112) w = .ok (.agg (bools fun _ => false)) w := by
  rw [← bools_none]
  kernel_rfl

theorem zero47 (w : World) : Sem.run Try.prog (zeroValue 53) w = .ok (.agg (bools fun _ => false)) w := by
  rw [← bools_none]
  kernel_rfl

theorem bools_set (f : Nat → Bool) (i : Nat) (v : Bool) : (bools f).setIfInBounds i (.bool v) = bools fun j => if j = i then v else f j := by
  apply Array.ext_getElem?
  intro k
  rw [Array.getElem?_setIfInBounds]
  by_cases hk : k < 4096
  · rw [bools_get _ hk, bools_get _ hk]
    by_cases e : i = k
    · subst e; simp [bools_size, hk]
    · have : ¬ k = i := fun h => e h.symm
      simp [e, this]
  · rw [Array.getElem?_eq_none (by rw [bools_size]; omega), Array.getElem?_eq_none (by rw [bools_size]; omega)]
    split <;> simp_all [bools_size]

/-- a block that is such an array -/
def Marked (w : World) (B T : Nat) (f : Nat → Bool) : Prop := w.heap[B]? = some (.cells (bools f) T (0, 0))

theorem Marked.cell {w : World} {B T : Nat} {f : Nat → Bool} (h : Marked w B T f) {i : Nat} (hi : i < 4096) : w.cell? ⟨B, i, none⟩ = some (.bool (f i)) := by
  rw [cell_of_row w B i _ _ _ h, bools_get f hi]

theorem Marked.frozen {w : World} {B T : Nat} {f : Nat → Bool} (h : Marked w B T f) (i : Nat) : w.frozen? ⟨B, i, none⟩ = false := frozen_of_row w B i _ _ h

theorem Marked.lt {w : World} {B T : Nat} {f : Nat → Bool} (h : Marked w B T f) : B < w.heap.size := by
  unfold Marked at h
  by_cases hb : B < w.heap.size
  · exact hb
  · rw [Array.getElem?_eq_none (by omega)] at h; simp at h

theorem Marked.below {w w' : World} {B T D : Nat} {f : Nat → Bool} (h : Marked w B T f) (hb : Below D w w') (hD : B < D) : Marked w' B T f := by
  unfold Marked at *
  rw [hb.block B hD, h]

theorem Marked.new (w : World) (T : Nat) (f : Nat → Bool) : Marked (w.alloc (.cells (bools f) T)) w.heap.size T f := heap_alloc_new w _

theorem Marked.alloc {w : World} {B T : Nat} {f : Nat → Bool} (h : Marked w B T f) (o : Obj) : Marked (w.alloc o) B T f := by
  unfold Marked at *
  rw [Below.heap_alloc w o B (Marked.lt h), h]

theorem Marked.set {w : World} {B T : Nat} {f : Nat → Bool} (h : Marked w B T f) (i : Nat) (v : Bool) : Marked (w.setCell ⟨B, i, none⟩ (.bool v)) B T fun j => if j = i then v else f j := by
  unfold Marked at *
  rw [heap_setCell_same w B i _ _ _ h, bools_set]

theorem Marked.other {w : World} {B T : Nat} {f : Nat → Bool} (h : Marked w B T f) {a : Addr} (v : Value) (ha : B ≠ a.block) : Marked (w.setCell a v) B T f := by
  unfold Marked at *
  rw [heap_setCell_other w a B v ha, h]

theorem Marked.drew {w : World} {B T : Nat} {f : Nat → Bool} (h : Marked w B T f) : Marked w.drew B T f := h


theorem bools_one (f : Nat → Bool) : ∀ v ∈ (bools f).toList, v.oneCell' = true := by
  intro v hv
  simp only [bools, List.mem_map] at hv
  obtain ⟨i, _, rfl⟩ := hv
  rfl

theorem store_bools {P : Program} {w : World} {B T : Nat} {f : Nat → Bool} (h : Marked w B T f) (g : Nat → Bool) : (storeCells ⟨B, 0, none⟩ (bools g).toList).run P w = .ok () (w.setRow B (bools g)) := by
  have hg := run_storeCells_at P B 0 T (bools g).toList 0 (bools f) w h (by simp [bools_size]) (bools_one g)
  have e : ((bools f).toList.take (0 + 0) ++ (bools g).toList ++ (bools f).toList.drop (0 + 0 + (bools g).toList.length)).toArray = bools g := by
    rw [Nat.add_zero, List.take_zero, List.drop_of_length_le (by simp [bools_size]), List.nil_append, List.append_nil, Array.toArray_toList]
  rw [hg, e]

theorem store_bools_new {P : Program} (w : World) (T : Nat) (f g : Nat → Bool) : (storeCells ⟨w.heap.size, 0, none⟩ (bools g).toList).run P (w.alloc (.cells (bools f) T)) = .ok () (w.alloc (.cells (bools g) T)) := by
  rw [store_bools (Marked.new w T f)]
  have e : ((w.alloc (.cells (bools f) T)).setRow w.heap.size (bools g)).heap = (w.alloc (.cells (bools g) T)).heap := ?_
  · show Result.ok () { (w.alloc (.cells (bools f) T)) with heap := ((w.alloc (.cells (bools f) T)).setRow w.heap.size (bools g)).heap } = _
    rw [e]
    rfl
  unfold World.setRow World.alloc
  apply Array.ext_getElem?
  intro k
  rw [Array.getElem?_modify]
  by_cases hk : w.heap.size = k
  · subst hk; simp
  · have hk' : k ≠ w.heap.size := fun e => hk e.symm
    simp [hk, hk', Array.getElem?_push]

theorem Marked.setRow {w : World} {B T : Nat} {f : Nat → Bool} (h : Marked w B T f) (g : Nat → Bool) : Marked (w.setRow B (bools g)) B T g := setRow_heap w B _ _ T _ h

theorem below_setRow' {D : Nat} {a w : World} (h : Below D a w) (B : Nat) (cs : Array Value) (hB : D ≤ B) : Below D a (w.setRow B cs) :=
  ⟨h.os, h.tape, h.output, by simpa using h.size, fun k hk => by rw [setRow_other w B k cs (by omega)]; exact h.block k hk⟩

end Go.Proofs.Ytgdefibkemkejaa

/- Slices of spans of the call's own, and the spans of marked numbers. -/
namespace Go.Proofs.Ytgdefibkemkejaa
open Go.ChangeShapes Go.WideShapes Go.ChangeAt Go.RowKit

/-- the spans as cells -/
def flat (xs : List (Int × Int)) : List Value := xs.flatMap fun p => [.int .i64 p.1, .int .i64 p.2]

theorem flat_length (xs : List (Int × Int)) : (flat xs).length = xs.length * 2 := by
  induction xs with
  | nil => rfl
  | cons p r ih => simp only [flat, List.flatMap_cons, List.length_append, List.length_cons, List.length_nil] at *; omega

theorem flat_append (xs ys : List (Int × Int)) : flat (xs ++ ys) = flat xs ++ flat ys := by simp [flat]

theorem flat_get1 (xs : List (Int × Int)) (i : Nat) (h : i < xs.length) : (flat xs)[i * 2]? = some (.int .i64 xs[i].1) := by
  induction xs generalizing i with
  | nil => simp at h
  | cons p r ih =>
    cases i with
    | zero => simp [flat]
    | succ i =>
      have := ih i (by simpa using h)
      simp only [flat, List.flatMap_cons] at *
      rw [show (i + 1) * 2 = i * 2 + 2 from by omega]
      simpa using this

theorem flat_get2 (xs : List (Int × Int)) (i : Nat) (h : i < xs.length) : (flat xs)[i * 2 + 1]? = some (.int .i64 xs[i].2) := by
  induction xs generalizing i with
  | nil => simp at h
  | cons p r ih =>
    cases i with
    | zero => simp [flat]
    | succ i =>
      have := ih i (by simpa using h)
      simp only [flat, List.flatMap_cons] at *
      rw [show (i + 1) * 2 + 1 = i * 2 + 1 + 2 from by omega]
      simpa using this

/-- a slice of the call's own that holds these spans -/
def OwnS (w : World) (base : Nat) (v : Value) (xs : List (Int × Int)) : Prop := w.ownsRow base 87 2 v xs.length (flat xs)

theorem OwnS.shape {w : World} {base : Nat} {v : Value} {xs : List (Int × Int)} (h : OwnS w base v xs) : ∃ ao cap, v = .slice ao xs.length cap ∧ Spans w ao xs ∧ (∀ a, ao = some a → base ≤ a.block ∧ a.block < w.heap.size) := by
  have hc := h
  have hlt := World.ownsRow.lt h
  obtain ⟨hl, h | h⟩ := h
  · obtain ⟨rfl, hn⟩ := h
    obtain rfl : xs = [] := List.eq_nil_of_length_eq_zero hn
    exact ⟨none, 0, rfl, (fun i hi => by simp at hi), (fun a h => by cases h)⟩
  · obtain ⟨g, cap, cur, rfl, _⟩ := h
    refine ⟨some ⟨g, 0, none⟩, cap, rfl, ?_, ?_⟩
    · intro i hi
      refine ⟨g, 0, rfl, ?_, ?_⟩
      · rw [Nat.zero_add, hc.cellAt (i * 2) (by omega), flat_get1 xs i hi]
      · rw [Nat.zero_add, hc.cellAt (i * 2 + 1) (by omega), flat_get2 xs i hi]
    · intro a ha
      cases ha
      exact hlt g rfl

theorem OwnS.below {w w' : World} {base : Nat} {v : Value} {xs : List (Int × Int)} (h : OwnS w base v xs) (hb : Below w.heap.size w w') : OwnS w' base v xs := by
  obtain ⟨hl, h | h⟩ := h
  · exact ⟨hl, .inl h⟩
  · obtain ⟨g, cap, cur, rfl, h1, h2, h3⟩ := h
    refine ⟨hl, .inr ⟨g, cap, cur, rfl, h1, ?_, h3⟩⟩
    have : g < w.heap.size := by
      by_cases hb : g < w.heap.size
      · exact hb
      · rw [Array.getElem?_eq_none (by omega)] at h2; simp at h2
    rw [hb.block g this, h2]

theorem OwnS.le {w : World} {base base' : Nat} {v : Value} {xs : List (Int × Int)} (h : OwnS w base v xs) (hb : base' ≤ base) : OwnS w base' v xs := by
  obtain ⟨hl, h | h⟩ := h
  · exact ⟨hl, .inl h⟩
  · obtain ⟨g, cap, cur, rfl, h1, h2⟩ := h
    exact ⟨hl, .inr ⟨g, cap, cur, rfl, by omega, h2⟩⟩

/-- the last span is one longer -/
def bump (xs : List (Int × Int)) : List (Int × Int) := xs.dropLast ++ [((xs.getLastD (0, 0)).1, (xs.getLastD (0, 0)).2 + 1)]

theorem bump_length {xs : List (Int × Int)} (h : xs ≠ []) : (bump xs).length = xs.length := by
  have : xs.length ≠ 0 := fun e => h (List.eq_nil_of_length_eq_zero e)
  simp [bump]; omega

/-- the spans of what is marked among the first k numbers -/
def runs (f : Nat → Bool) : Nat → List (Int × Int)
  | 0 => []
  | k + 1 => if f k then (if k ≠ 0 ∧ f (k - 1) then bump (runs f k) else runs f k ++ [((k : Int), 1)]) else runs f k

theorem runs_congr {f g : Nat → Bool} {n : Nat} (h : ∀ i, i < n → f i = g i) : runs f n = runs g n := by
  induction n with
  | zero => rfl
  | succ n ih =>
    have i1 := ih fun i hi => h i (by omega)
    have i2 := h n (by omega)
    by_cases h0 : n = 0
    · subst h0; simp [runs, i2]
    · have i3 := h (n - 1) (by omega)
      simp only [runs, i1, i2, i3]

theorem runs_last (f : Nat → Bool) : ∀ k, 0 < k → f (k - 1) = true → runs f k ≠ [] ∧ ((runs f k).getLastD (0, 0)).1 + ((runs f k).getLastD (0, 0)).2 = k ∧ 0 ≤ ((runs f k).getLastD (0, 0)).1 ∧ 1 ≤ ((runs f k).getLastD (0, 0)).2
  | 0, h, _ => absurd h (by omega)
  | k + 1, _, hf => by
    have hf' : f k = true := by simpa using hf
    by_cases h0 : k ≠ 0 ∧ f (k - 1) = true
    · obtain ⟨i1, i2, i3, i4⟩ := runs_last f k (by omega) h0.2
      simp only [runs, hf', if_true, if_pos h0]
      refine ⟨by simp [bump], ?_, ?_, ?_⟩
      all_goals (simp [bump] at *; omega)
    · simp only [runs, hf', if_true, if_neg h0]
      refine ⟨by simp, ?_, ?_, ?_⟩
      all_goals (simp; try omega)

theorem runs_length (f : Nat → Bool) (k : Nat) : (runs f k).length ≤ k := by
  induction k with
  | zero => simp [runs]
  | succ k ih =>
    unfold runs
    split
    · split
      · rename_i h
        have := (runs_last f k (by omega) h.2).1
        rw [bump_length this]; omega
      · simp; omega
    · omega

theorem bump_get {xs : List (Int × Int)} {s n : Int} (h : ∃ ys, xs = ys ++ [(s, n)]) : flat (bump xs) = (flat xs).set ((xs.length - 1) * 2 + 1) (.int .i64 (n + 1)) := by
  obtain ⟨ys, rfl⟩ := h
  rw [flat_append]
  simp only [bump, List.dropLast_concat, List.getLastD_concat, flat_append]
  have : (ys ++ [(s, n)]).length - 1 = ys.length := by simp
  rw [this, List.set_append, if_neg (by rw [flat_length]; omega), flat_length]
  simp [flat]

theorem last_split {xs : List (Int × Int)} (h : xs ≠ []) : ∃ ys s n, xs = ys ++ [(s, n)] ∧ (xs.getLastD (0, 0)) = (s, n) := by
  rcases List.eq_nil_or_concat xs with rfl | ⟨ys, ⟨s, n⟩, rfl⟩
  · exact absurd rfl h
  · exact ⟨ys, s, n, by simp, by simp⟩

end Go.Proofs.Ytgdefibkemkejaa

/- (*span.marks).spans answers the spans of what is marked, for every array of marks. -/
namespace Go.Proofs.Ytgdefibkemkejaa
open Go.ChangeShapes Go.WideShapes Go.ChangeAt Go.RowKit
set_option linter.unusedVariables false
set_option maxRecDepth 20000

theorem infoSpan : (Try.prog.info? 87).map (fun i => (i.zero, i.size, i.bytes)) = some (some (.agg #[.int .i64 0, .int .i64 0]), 2, 16) := by kernel_rfl

/-- what the loop of 'spans' does to a row of its own: nothing, one more, one longer -/
def MoreS (w : World) (base : Nat) (v : Value) (f : Nat → Bool) (k : Nat) : Prop := OwnS w base v (runs f k)

theorem MoreS.skip {w : World} {base : Nat} {v : Value} {f : Nat → Bool} {k : Nat} (h : MoreS w base v f k) (hf : f k = false) : MoreS w base v f (k + 1) := by
  unfold MoreS at *; simpa [runs, hf] using h

theorem MoreS.add {w : World} {base : Nat} {v : Value} {f : Nat → Bool} {k : Nat} (hf : f k = true) (hp : ¬ (k ≠ 0 ∧ f (k - 1) = true))
    (h : w.ownsRow base 87 2 v ((runs f k).length + 1) (flat (runs f k) ++ [.int .i64 k, .int .i64 1])) : MoreS w base v f (k + 1) := by
  unfold MoreS OwnS
  simp only [runs, hf, if_true, if_neg hp]
  rw [flat_append]
  simpa [flat] using h

theorem MoreS.last {w : World} {base : Nat} {v : Value} {f : Nat → Bool} {k : Nat} (h : MoreS w base v f k) (hk : 0 < k) (hp : f (k - 1) = true) :
    ∃ g cap m n, v = .slice (some ⟨g, 0, none⟩) (m + 1) cap ∧ Hid ((runs f k).length = m + 1) ∧ base ≤ g ∧ g < w.heap.size ∧ w.cell? ⟨g, m * 2 + 1, none⟩ = some (.int .i64 n) ∧ w.frozen? ⟨g, m * 2 + 1, none⟩ = false ∧ m ≤ k ∧ 1 ≤ n ∧ n ≤ k ∧
      ∀ k', k' = k → f k = true → MoreS (w.setCell ⟨g, m * 2 + 1, none⟩ (.int .i64 (n + 1))) base v f (k' + 1) := by
  obtain ⟨h1, h2, h3, h4⟩ := runs_last f k hk hp
  obtain ⟨ys, s, n, e, el⟩ := last_split h1
  have hlen := runs_length f k
  rw [el] at h2 h3 h4
  have hle : (runs f k).length = ys.length + 1 := by rw [e]; simp
  have h' : w.ownsRow base 87 2 v (runs f k).length (flat (runs f k)) := h
  rw [hle] at h'
  obtain ⟨g, cap, rfl⟩ := ownsRow_succ h'
  have hlt := World.ownsRow.lt h' g rfl
  refine ⟨g, cap, ys.length, n, rfl, hle, hlt.1, hlt.2, ?_, h'.frozenAt _, by omega, h4, by simp at h2 h3 h4; omega, ?_⟩
  · rw [h'.cellAt _ (by omega), flat_get2 _ _ (by omega)]
    simp [e]
  · rintro k' rfl hf
    have hs := (h'.stored (ys.length * 2 + 1) (.int .i64 (n + 1))).1
    unfold MoreS OwnS
    simp only [runs, hf, if_true]
    rw [if_pos ⟨by omega, hp⟩, bump_length h1, bump_get ⟨ys, e⟩, hle]
    exact hs

theorem MoreS.drewN {w : World} {base : Nat} {v : Value} {f : Nat → Bool} {k : Nat} (h : MoreS w base v f k) (n : Nat) : MoreS (w.drewN n) base v f k := h

theorem MoreS.row {w : World} {base : Nat} {v : Value} {f : Nat → Bool} {k : Nat} (h : MoreS w base v f k) (n : Nat) : (w.drewN n).ownsRow base 87 2 v (runs f k).length (flat (runs f k)) := h

set_option maxHeartbeats 1000000 in
set_option maxRecDepth 20000 in
theorem spans_any (B T : Nat) (f : Nat → Bool) (w : World) (hm : Marked w B T f) :
    Calls Try.prog 55 #[.pointer (some ⟨B, 0, none⟩)] w fun e w' => ∃ v, e = .returned v ∧ OwnS w' w.heap.size v (runs f 4096) ∧ Below w.heap.size w w' := by
  have hBw := hm.lt
  obtain ⟨i0, hi, hz0, hz1, hz2⟩ := info_parts infoSpan
  have hm := Lib.hid hm
  go_enter Try.func55, Try.ntmps55
  go_wp2
  go_loopw [3, 7] (fun v i wr => ∃ k : Nat, k ≤ 4096 ∧ i = .int .i64 k ∧ MoreS wr w.heap.size v f k ∧ Below w.heap.size w wr)
    (fun _ i _ => 4096 - (intOf i).toNat)
  case atStart => exact ⟨0, by omega, rfl, World.ownsRow_nil _ _ _ _, Below.refl _ _⟩
  case round =>
    obtain ⟨k, hk, rfl, hown, hb⟩ := hrel
    have hrl := runs_length f k
    by_cases hlt : k < 4096
    · have hmr := hm.out.below hb hBw
      have c1 := hmr.cell hlt
      have hown := Lib.hid hown
      have hsz := hb.size
      have hb := Lib.hid hb
      have hmr := Lib.hid hmr
      cases hf : f k
      · rw [hf] at c1
        go_wp2
        go_quiet (fail)
        go_wp2
        go_roundw
        case rel => exact ⟨k + 1, by omega, by go_num, (hown.out.drewN _).skip hf, below_drewN' hb.out _⟩
        case measure => simp [intOf] <;> omega
      · rw [hf] at c1
        by_cases hp : k ≠ 0 ∧ f (k - 1) = true
        · obtain ⟨h0, hp⟩ := hp
          have hk0 : 0 < k := by omega
          have c2 := hmr.out.cell (i := k - 1) (by omega)
          rw [hp] at c2
          obtain ⟨g, cap, m, n, rfl, hlen, hg1, hg2, cn, fn, hm1, hn1, hn2, hstep⟩ := hown.out.last hk0 hp
          have hstep := Lib.hid hstep
          have hp := Lib.hid hp
          clear h0
          go_wp2
          go_quiet (fail)
          go_wp2
          go_roundw
          case rel => exact ⟨k + 1, by omega, by go_num, hstep.out k rfl hf, (below_drewN' hb.out _).setCell (by exact hg1) _⟩
          case measure => simp [intOf] <;> omega
        · have hpp : k = 0 ∨ (0 < k ∧ wr.cell? ⟨B, k - 1, none⟩ = some (.bool false)) := by
            by_cases h0 : k = 0
            · exact .inl h0
            · right
              refine ⟨by omega, ?_⟩
              rw [hmr.out.cell (by omega)]
              simp [h0] at hp
              simp [hp]
          have hp := Lib.hid hp
          rcases hpp with rfl | ⟨hk0, c2⟩
          · go_wp2
            go_quiet (fail)
            go_wp2_with (at_builtin; go_loud (refine wpList_push rfl _ _ 55 rfl w.heap.size 87 i0 _ 2 16 Try.underlying55 hi hz0 hz1 hz2 rfl (by decide) u3 _ _ (wr.drewN nq) rfl (MoreS.row hown.out nq) 1 #[.int .i64 0, .int .i64 1] rfl rfl rfl (by omega) (by omega) hsz ?_); intro v' w' ho hg hv; obtain ⟨g, cap, rfl⟩ := hv; have hg := Lib.hid hg; have ho := Lib.hid ho)
            go_roundw
            case rel => exact ⟨0 + 1, by omega, by go_num, MoreS.add hf hp.out ho.out, Below.pushed (below_drewN' hb.out _) (MoreS.row hown.out nq) hg.out (Nat.le_refl _) hsz⟩
            case measure => simp [intOf] <;> omega
          · go_wp2
            go_quiet (fail)
            go_wp2_with (at_builtin; go_loud (refine wpList_push rfl _ _ 55 rfl w.heap.size 87 i0 _ 2 16 Try.underlying55 hi hz0 hz1 hz2 rfl (by decide) u3 _ _ (wr.drewN nq) rfl (MoreS.row hown.out nq) 1 #[.int .i64 k, .int .i64 1] rfl rfl rfl (by omega) (by omega) hsz ?_); intro v' w' ho hg hv; obtain ⟨g, cap, rfl⟩ := hv; have hg := Lib.hid hg; have ho := Lib.hid ho)
            go_roundw
            case rel => exact ⟨k + 1, by omega, by go_num, MoreS.add hf hp.out ho.out, Below.pushed (below_drewN' hb.out _) (MoreS.row hown.out nq) hg.out (Nat.le_refl _) hsz⟩
            case measure => simp [intOf] <;> omega
    · obtain rfl : k = 4096 := by omega
      go_wp2
      go_ret
      exact ⟨_, rfl, hown, hb⟩
end Go.Proofs.Ytgdefibkemkejaa

/- span.Of answers the set of any numbers. -/
namespace Go.Proofs.Ytgdefibkemkejaa
open Go.ChangeShapes Go.WideShapes Go.ChangeAt Go.RowKit
set_option linter.unusedVariables false
set_option maxRecDepth 20000

/-- a list of numbers in memory, at whatever address -/
def Nums (w : World) (ao : Option Addr) (zs : List Int) : Prop :=
  ∀ i (h : i < zs.length), ∃ b off, ao = some ⟨b, off, none⟩ ∧ w.cell? ⟨b, off + i, none⟩ = some (.int .i64 zs[i])

def FitsI (zs : List Int) : Prop := (∀ z ∈ zs, I64 z) ∧ zs.length * 8 ≤ 140737488351232

theorem Nums.below {w w' : World} {ao : Option Addr} {zs : List Int} (h : Nums w ao zs) (hb : Below w.heap.size w w') : Nums w' ao zs := by
  intro i hi
  obtain ⟨b, off, e, c1⟩ := h i hi
  exact ⟨b, off, e, (hb.cell (cell_lt c1)).trans c1⟩

theorem Nums.get {w : World} {ao : Option Addr} {zs : List Int} (h : Nums w ao zs) (hf : FitsI zs) {k : Nat} (hk : k < zs.length) :
    ∃ b off z, ao = some ⟨b, off, none⟩ ∧ Hid (zs.drop k = z :: zs.drop (k + 1)) ∧ Hid (zs.take (k + 1) = zs.take k ++ [z]) ∧ w.cell? ⟨b, off + k, none⟩ = some (.int .i64 z) ∧
      b < w.heap.size ∧ -9223372036854775808 ≤ z ∧ z ≤ 9223372036854775807 := by
  obtain ⟨b, off, e, c1⟩ := h k hk
  obtain ⟨h1, h2⟩ := hf.1 _ (List.getElem_mem hk)
  exact ⟨b, off, _, e, List.drop_eq_getElem_cons hk, (by rw [List.take_succ_eq_append_getElem hk] : zs.take (k + 1) = zs.take k ++ [zs[k]]), c1, cell_lt c1, h1, h2⟩

/-- which numbers are among these -/
def maskOf (zs : List Int) (j : Nat) : Bool := decide ((j : Int) ∈ zs)

theorem Marked.congr {w : World} {B T : Nat} {f g : Nat → Bool} (h : Marked w B T f) (he : ∀ i, i < 4096 → f i = g i) : Marked w B T g := by
  unfold Marked at *
  have : bools f = bools g := by
    have e : (List.range 4096).map (fun i => Value.bool (f i)) = (List.range 4096).map (fun i => Value.bool (g i)) := List.map_congr_left fun i hi => by rw [he i (by simpa using hi)]
    unfold bools
    rw [e]
  rw [← this, h]

theorem mask_in {zs : List Int} {m : Nat} (j : Nat) : maskOf (zs ++ [(m : Int)]) j = if j = m then true else maskOf zs j := by
  by_cases h : j = m
  · subst h; simp [maskOf]
  · have : ¬ (j : Int) = m := by omega
    simp [maskOf, h, this]

theorem mask_out {zs : List Int} {z : Int} (h : z < 0 ∨ 4096 ≤ z) (j : Nat) (hj : j < 4096) : maskOf (zs ++ [z]) j = maskOf zs j := by
  have : ¬ (j : Int) = z := by omega
  simp [maskOf, this]

theorem mask_nil (j : Nat) : maskOf [] j = false := by simp [maskOf]

set_option maxHeartbeats 1000000 in
set_option maxRecDepth 20000 in
theorem sOf_any (ao : Option Addr) (cap : Nat) (zs : List Int) (w : World) (hx : Nums w ao zs) (hf : FitsI zs) :
    Calls Try.prog 40 #[.slice ao zs.length cap] w fun e w' => ∃ v, e = .returned v ∧ OwnS w' w.heap.size v (runs (maskOf zs) 4096) ∧ Below w.heap.size w w' := by
  have hl := hf.2
  have hf := Lib.hid hf
  have hx := Lib.hid hx
  have hz := zero48
  go_enter Try.func40, Try.ntmps40
  go_wp2
  go_loopw [8] (fun i wr => ∃ k : Nat, k ≤ zs.length ∧ i = .int .i64 k ∧ Marked wr w.heap.size 112 (maskOf (zs.take k)) ∧ Below w.heap.size w wr)
    (fun i _ => zs.length - (intOf i).toNat)
  case atStart => exact ⟨0, by omega, rfl, (Marked.new w _ _).congr (fun i _ => by simp [maskOf]), (Below.refl _ _).alloc (Nat.le_refl _) _⟩
  case round =>
    obtain ⟨k, hk, rfl, hm, hb⟩ := hrel
    by_cases hlt : k < zs.length
    · obtain ⟨b, off, z, rfl, hd, ht, c1, hbb, hz1, hz2⟩ := (hx.out.below hb).get hf.out hlt
      by_cases hin : 0 ≤ z ∧ z < 4096
      · obtain ⟨h0, h1⟩ := hin
        obtain ⟨m, rfl⟩ := Int.eq_ofNat_of_zero_le h0
        have hm4 : m < 4096 := by omega
        have c2 := hm.cell hm4
        have f2 := hm.frozen m
        have hm := Lib.hid hm
        have hb := Lib.hid hb
        go_wp2
        go_roundw
        case rel => exact ⟨k + 1, by omega, by go_num, (hm.out.set m true).congr (fun j _ => by rw [ht.out, mask_in]), hb.out.setCell (Nat.le_refl _) _⟩
        case measure => simp [intOf] <;> omega
      · have hin' : z < 0 ∨ 4096 ≤ z := by omega
        have hm := Lib.hid hm
        have hb := Lib.hid hb
        rcases hin' with h0 | h0
        · go_wp2
          go_roundw
          case rel => exact ⟨k + 1, by omega, by go_num, hm.out.congr (fun j hj => by rw [ht.out, mask_out (.inl h0) j hj]), hb.out⟩
          case measure => simp [intOf] <;> omega
        · go_wp2
          go_roundw
          case rel => exact ⟨k + 1, by omega, by go_num, hm.out.congr (fun j hj => by rw [ht.out, mask_out (.inr h0) j hj]), hb.out⟩
          case measure => simp [intOf] <;> omega
    · obtain rfl : k = zs.length := by omega
      rw [List.take_length] at hm
      have hb := Lib.hid hb
      have hz := hb.out.size
      go_wp2_with (go_at_call 55; refine (spans_any _ _ _ _ hm).mono ?_; rintro e w' ⟨v, rfl, ho, hb'⟩)
      go_ret
      exact ⟨_, rfl, ho.le hz, hb.out.trans (hb'.mono hz)⟩
end Go.Proofs.Ytgdefibkemkejaa

/- The document's own Set and Of answer the same sets, for every input. -/
namespace Go.Proofs.Ytgdefibkemkejaa
open Go.ChangeShapes Go.WideShapes Go.ChangeAt Go.RowKit
set_option linter.unusedVariables false
set_option maxRecDepth 20000

theorem Marked.pushed {w w' : World} {B T : Nat} {f : Nat → Bool} {base e size n : Nat} {v : Value} {xs : List Value} (h : Marked w B T f) (hown : w.ownsRow base e size v n xs) (hg : w.grownBy w' v.ownBlock) (hB : B < base) : Marked w' B T f := by
  have hlt := h.lt
  unfold Marked at *
  rw [hg.block B hlt (fun e => by have := (World.ownsRow.lt hown B e.symm).1; omega), h]

theorem MoreS.row0 {w : World} {base : Nat} {v : Value} {f : Nat → Bool} {k : Nat} (h : MoreS w base v f k) : w.ownsRow base 87 2 v (runs f k).length (flat (runs f k)) := h

set_option maxHeartbeats 1000000 in
set_option maxRecDepth 20000 in
theorem refSet_any (f : Nat → Bool) (w : World) :
    Calls Try.prog 21 #[.agg (bools f)] w fun e w' => ∃ v, e = .returned v ∧ OwnS w' w.heap.size v (runs f 4096) ∧ Below w.heap.size w w' := by
  obtain ⟨i0, hi, hz0, hz1, hz2⟩ := info_parts infoSpan
  go_enter Try.func21, Try.ntmps21
  go_wp2
  go_loopw [3, 4] (fun v i wr => ∃ k : Nat, k ≤ 4096 ∧ i = .int .i64 k ∧ MoreS wr (w.heap.size + 1) v f k ∧ Marked wr w.heap.size 53 f ∧ Below w.heap.size w wr)
    (fun _ i _ => 4096 - (intOf i).toNat)
  case atStart => exact ⟨0, by omega, rfl, (by have := World.ownsRow_made (w.alloc (.cells (bools f) 53)) (e := 87) (base := w.heap.size + 1) (size := 2) #[] 0 (by simp) (by decide) (by simp); simpa [MoreS, OwnS, runs, flat] using this), (Marked.new _ _ _).alloc _, ((Below.refl _ _).alloc (Nat.le_refl _) _).alloc (by simp) _⟩
  case round =>
    obtain ⟨k, hk, rfl, hown, hmr, hb⟩ := hrel
    have hrl := runs_length f k
    by_cases hlt : k < 4096
    · have c1 := hmr.cell hlt
      have hown := Lib.hid hown
      have hsz := hb.size
      have hlt0 := hmr.lt
      have hb := Lib.hid hb
      have hmr := Lib.hid hmr
      cases hf : f k
      · rw [hf] at c1
        go_wp2
        go_roundw
        case rel => exact ⟨k + 1, by omega, by go_num, hown.out.skip hf, hmr.out, hb.out⟩
        case measure => simp [intOf] <;> omega
      · rw [hf] at c1
        by_cases hp : k ≠ 0 ∧ f (k - 1) = true
        · obtain ⟨h0, hp⟩ := hp
          have hk0 : 0 < k := by omega
          have c2 := hmr.out.cell (i := k - 1) (by omega)
          rw [hp] at c2
          obtain ⟨g, cap, m, n, rfl, hlen, hg1, hg2, cn, fn, hm1, hn1, hn2, hstep⟩ := hown.out.last hk0 hp
          have hstep := Lib.hid hstep
          have hp := Lib.hid hp
          clear h0
          go_wp2
          go_roundw
          case rel => exact ⟨k + 1, by omega, by go_num, hstep.out k rfl hf, hmr.out.other _ (by simp; omega), hb.out.setCell (by show w.heap.size ≤ g; omega) _⟩
          case measure => simp [intOf] <;> omega
        · have hpp : k = 0 ∨ (0 < k ∧ wr.cell? ⟨w.heap.size, k - 1, none⟩ = some (.bool false)) := by
            by_cases h0 : k = 0
            · exact .inl h0
            · right
              refine ⟨by omega, ?_⟩
              rw [hmr.out.cell (by omega)]
              simp [h0] at hp
              simp [hp]
          have hp := Lib.hid hp
          rcases hpp with rfl | ⟨hk0, c2⟩
          · go_wp2_with (at_builtin; go_loud (refine wpList_push rfl _ _ 55 rfl (w.heap.size + 1) 87 i0 _ 2 16 Try.underlying55 hi hz0 hz1 hz2 rfl (by decide) u3 _ _ wr rfl (MoreS.row0 hown.out) 1 #[.int .i64 0, .int .i64 1] rfl rfl rfl (by omega) (by omega) hlt0 ?_); intro v' w' ho hg hv; obtain ⟨g, cap, rfl⟩ := hv; have hg := Lib.hid hg; have ho := Lib.hid ho)
            go_roundw
            case rel => exact ⟨0 + 1, by omega, by go_num, MoreS.add hf hp.out ho.out, hmr.out.pushed (MoreS.row0 hown.out) hg.out (by omega), Below.pushed hb.out (MoreS.row0 hown.out) hg.out (by omega) hsz⟩
            case measure => simp [intOf] <;> omega
          · go_wp2_with (at_builtin; go_loud (refine wpList_push rfl _ _ 55 rfl (w.heap.size + 1) 87 i0 _ 2 16 Try.underlying55 hi hz0 hz1 hz2 rfl (by decide) u3 _ _ wr rfl (MoreS.row0 hown.out) 1 #[.int .i64 k, .int .i64 1] rfl rfl rfl (by omega) (by omega) hlt0 ?_); intro v' w' ho hg hv; obtain ⟨g, cap, rfl⟩ := hv; have hg := Lib.hid hg; have ho := Lib.hid ho)
            go_roundw
            case rel => exact ⟨k + 1, by omega, by go_num, MoreS.add hf hp.out ho.out, hmr.out.pushed (MoreS.row0 hown.out) hg.out (by omega), Below.pushed hb.out (MoreS.row0 hown.out) hg.out (by omega) hsz⟩
            case measure => simp [intOf] <;> omega
    · obtain rfl : k = 4096 := by omega
      go_wp2
      go_ret
      exact ⟨_, rfl, hown.le (by omega), hb⟩

end Go.Proofs.Ytgdefibkemkejaa

/- Same, SameInts and span.First answer as their plain functions do, for every input. -/
namespace Go.Proofs.Ytgdefibkemkejaa
open Go.ChangeShapes Go.WideShapes Go.ChangeAt Go.RowKit
set_option linter.unusedVariables false
set_option maxRecDepth 20000

theorem take_of_drop {α : Type} {xs : List α} {k : Nat} {a : α} (h : xs.drop k = a :: xs.drop (k + 1)) : xs.take (k + 1) = xs.take k ++ [a] := by
  have hk : k < xs.length := by
    by_cases hk : k < xs.length
    · exact hk
    · rw [List.drop_of_length_le (by omega)] at h; cases h
  rw [List.drop_eq_getElem_cons hk] at h
  rw [List.take_succ_eq_append_getElem hk, (List.cons.inj h).1]

theorem ne_of_drop {α : Type} {xs ys : List α} {k : Nat} {a b : α} {r s : List α} (h : xs.drop k = a :: r) (h' : ys.drop k = b :: s) (hab : a ≠ b) : xs ≠ ys := by
  rintro rfl
  rw [h] at h'
  exact hab (List.cons.inj h').1

set_option maxHeartbeats 1000000 in
theorem Same_any (ao bo : Option Addr) (cap cap' : Nat) (xs ys : List (Int × Int)) (w : World) (hx : Spans w ao xs) (hy : Spans w bo ys) (hf : Fits xs) (hg : Fits ys) :
    Calls Try.prog 18 #[.slice ao xs.length cap, .slice bo ys.length cap'] w fun e w' => e = .returned (.bool (decide (xs = ys))) ∧ Below w.heap.size w w' := by
  have hl := hf.2
  have hl' := hg.2
  have hf := Lib.hid hf
  have hg := Lib.hid hg
  have hx := Lib.hid hx
  have hy := Lib.hid hy
  by_cases hlen : xs.length = ys.length
  · have hne : ((xs.length : Int) != (ys.length : Int)) = false := by simp [hlen]
    have hlen := Lib.hid hlen
    go_enter Try.func18, Try.ntmps18
    go_wp2
    go_loopw [13] (fun i wr => ∃ k : Nat, k ≤ xs.length ∧ i = .int .i64 k ∧ Hid (xs.take k = ys.take k) ∧ Below w.heap.size w wr)
      (fun i _ => xs.length - (intOf i).toNat)
    case atStart => exact ⟨0, by omega, rfl, Lib.hid (by simp), Below.refl _ _⟩
    case round =>
      obtain ⟨k, hk, rfl, he, hb⟩ := hrel
      by_cases hlt : k < xs.length
      · have hlt' : k < ys.length := by have := hlen.out; omega
        obtain ⟨b, off, s, n, rfl, hd, c1, c2, hbb, hs1, hs2, hn1, hn2⟩ := (hx.out.below hb).get hf.out hlt
        obtain ⟨b', off', s', n', rfl, hd', c1', c2', hbb', hs1', hs2', hn1', hn2'⟩ := (hy.out.below hb).get hg.out hlt'
        have hb := Lib.hid hb
        by_cases e1 : s = s'
        · subst e1
          by_cases e2 : n = n'
          · subst e2
            go_wp2
            go_quiet (fail)
            go_wp2
            go_roundw
            case rel => exact ⟨k + 1, by omega, by go_num, Lib.hid (by rw [take_of_drop hd.out, take_of_drop hd'.out, he.out]), below_drewN' hb.out _⟩
            case measure => simp [intOf] <;> omega
          · have e2 : (n == n') = false := by simp [e2]
            go_wp2
            go_quiet (fail)
            go_wp2
            go_ret
            exact ⟨ret_bool (by simp; exact ne_of_drop hd.out hd'.out (by simp at e2; simp [e2])), below_drewN' hb.out _⟩
        · have e1 : (s == s') = false := by simp [e1]
          go_wp2
          go_quiet (fail)
          go_wp2
          go_ret
          exact ⟨ret_bool (by simp; exact ne_of_drop hd.out hd'.out (by simp at e1; simp [e1])), below_drewN' hb.out _⟩
      · go_wp2
        go_ret
        refine ⟨ret_bool ?_, hb⟩
        have h1 := he.out
        have h2 := hlen.out
        rw [List.take_of_length_le (by omega), List.take_of_length_le (by omega)] at h1
        simp [h1]
  · have hne : ((xs.length : Int) != (ys.length : Int)) = true := by simp; omega
    go_enter Try.func18, Try.ntmps18
    go_wp2
    go_ret
    exact ⟨ret_bool (by simp; rintro rfl; exact hlen rfl), Below.refl _ _⟩

set_option maxHeartbeats 1000000 in
theorem SameInts_any (ao bo : Option Addr) (cap cap' : Nat) (xs ys : List Int) (w : World) (hx : Nums w ao xs) (hy : Nums w bo ys) (hf : FitsI xs) (hg : FitsI ys) :
    Calls Try.prog 15 #[.slice ao xs.length cap, .slice bo ys.length cap'] w fun e w' => e = .returned (.bool (decide (xs = ys))) ∧ Below w.heap.size w w' := by
  have hl := hf.2
  have hl' := hg.2
  have hf := Lib.hid hf
  have hg := Lib.hid hg
  have hx := Lib.hid hx
  have hy := Lib.hid hy
  by_cases hlen : xs.length = ys.length
  · have hne : ((xs.length : Int) != (ys.length : Int)) = false := by simp [hlen]
    have hlen := Lib.hid hlen
    go_enter Try.func15, Try.ntmps15
    go_wp2
    go_loopw [13] (fun i wr => ∃ k : Nat, k ≤ xs.length ∧ i = .int .i64 k ∧ Hid (xs.take k = ys.take k) ∧ Below w.heap.size w wr)
      (fun i _ => xs.length - (intOf i).toNat)
    case atStart => exact ⟨0, by omega, rfl, Lib.hid (by simp), Below.refl _ _⟩
    case round =>
      obtain ⟨k, hk, rfl, he, hb⟩ := hrel
      by_cases hlt : k < xs.length
      · have hlt' : k < ys.length := by have := hlen.out; omega
        obtain ⟨b, off, s, rfl, hd, ht, c1, hbb, hs1, hs2⟩ := (hx.out.below hb).get hf.out hlt
        obtain ⟨b', off', s', rfl, hd', ht', c1', hbb', hs1', hs2'⟩ := (hy.out.below hb).get hg.out hlt'
        have hb := Lib.hid hb
        by_cases e1 : s = s'
        · subst e1
          go_wp2
          go_quiet (fail)
          go_wp2
          go_roundw
          case rel => exact ⟨k + 1, by omega, by go_num, Lib.hid (by rw [take_of_drop hd.out, take_of_drop hd'.out, he.out]), below_drewN' hb.out _⟩
          case measure => simp [intOf] <;> omega
        · have e1 : (s == s') = false := by simp [e1]
          have e2 : (s != s') = true := by simp at e1; simp [e1]
          go_wp2
          go_quiet (fail)
          go_wp2
          go_ret
          exact ⟨ret_bool (by simp; exact ne_of_drop hd.out hd'.out (by simp at e1; simp [e1])), below_drewN' hb.out _⟩
      · go_wp2
        go_ret
        refine ⟨ret_bool ?_, hb⟩
        have h1 := he.out
        have h2 := hlen.out
        rw [List.take_of_length_le (by omega), List.take_of_length_le (by omega)] at h1
        simp [h1]
  · have hne : ((xs.length : Int) != (ys.length : Int)) = true := by simp; omega
    go_enter Try.func15, Try.ntmps15
    go_wp2
    go_ret
    exact ⟨ret_bool (by simp; rintro rfl; exact hlen rfl), Below.refl _ _⟩

/-- the first so many numbers side by side -/
def firstL (xs : List (Int × Int)) (m : Int) : Option (Int × Int) := if 1 ≤ m then (xs.find? fun p => decide (m ≤ p.2)).map (fun p => (p.1, m)) else none

/-- what a call of First answers -/
def FirstSays (r : Option (Int × Int)) (w : World) (e : Ending) (w' : World) : Prop :=
  (match r with
    | some p => e = .returned (.tuple #[.agg #[.int .i64 p.1, .int .i64 p.2], .bool true])
    | none => e = .returned (.tuple #[.agg #[.int .i64 0, .int .i64 0], .bool false])) ∧ Below w.heap.size w w'

theorem find_step {α : Type} {p : α → Bool} {xs : List α} {k : Nat} {a : α} (h : xs.drop k = a :: xs.drop (k + 1)) : (xs.drop k).find? p = if p a then some a else (xs.drop (k + 1)).find? p := by
  rw [h, List.find?_cons]
  cases p a <;> simp

end Go.Proofs.Ytgdefibkemkejaa

/- The document's own First, Has and Right answer as their plain functions do, for every input (Has: of spans that can be in a set). -/
namespace Go.Proofs.Ytgdefibkemkejaa
open Go.ChangeShapes Go.WideShapes Go.ChangeAt Go.RowKit
set_option linter.unusedVariables false
set_option maxRecDepth 20000

/-- spans of numbers that can be in a set -/
def Good (xs : List (Int × Int)) : Prop := ∀ p ∈ xs, 0 ≤ p.1 ∧ 1 ≤ p.2 ∧ p.2 ≤ 4096 - p.1

/-- is the number in one of them? -/
def hasL (xs : List (Int × Int)) (n : Int) : Bool := xs.any fun p => decide (p.1 ≤ n ∧ n < p.1 + p.2)

theorem right_good {low : Int} {xs : List (Int × Int)} (h : rightFrom low xs = true) : Good xs := by
  induction xs generalizing low with
  | nil => intro p hp; cases hp
  | cons q r ih =>
    obtain ⟨s, n⟩ := q
    simp only [rightFrom, Bool.and_eq_true] at h
    intro p hp
    rcases List.mem_cons.1 hp with rfl | hp
    · exact withinB_true h.1.1
    · exact ih h.2 p hp

theorem good_drop {xs : List (Int × Int)} (h : Good xs) {k : Nat} {p : Int × Int} {r : List (Int × Int)} (hd : xs.drop k = p :: r) : 0 ≤ p.1 ∧ 1 ≤ p.2 ∧ p.2 ≤ 4096 - p.1 :=
  h p (List.mem_of_mem_drop (i := k) (by rw [hd]; exact List.mem_cons_self))

/-- what went ahead of the k-th span -/
def PrevIs (xs : List (Int × Int)) (k : Nat) (low : Int) : Prop :=
  rightFrom 0 xs = rightFrom low (xs.drop k) ∧ (k = 0 → low = 0) ∧ (0 < k → ∃ s n, withinB s n = true ∧ xs.drop (k - 1) = (s, n) :: xs.drop k ∧ low = s + n + 1)

end Go.Proofs.Ytgdefibkemkejaa

/- The document's own Bits answers the marks of any set. -/
namespace Go.Proofs.Ytgdefibkemkejaa
open Go.ChangeShapes Go.WideShapes Go.ChangeAt Go.RowKit
set_option linter.unusedVariables false
set_option maxRecDepth 20000

/-- which numbers are in a list of spans -/
def maskS (xs : List (Int × Int)) (j : Nat) : Bool := hasL xs (j : Int)

theorem maskS_snoc (xs : List (Int × Int)) (s n : Int) (j : Nat) : maskS (xs ++ [(s, n)]) j = (maskS xs j || decide (s ≤ (j : Int) ∧ (j : Int) < s + n)) := by
  simp [maskS, hasL]

theorem Marked.or_set {w : World} {B T : Nat} {f : Nat → Bool} {s : Int} {i m : Nat} (h : Marked w B T fun j => f j || decide (s ≤ (j : Int) ∧ (j : Int) < s + (i : Int))) (hm : (m : Int) = s + i) (hi : m < 4096) :
    Marked (w.setCell ⟨B, m, none⟩ (.bool true)) B T fun j => f j || decide (s ≤ (j : Int) ∧ (j : Int) < s + ((i + 1 : Nat) : Int)) :=
  (h.set m true).congr fun j _ => by
    by_cases e : j = m
    · subst e
      simp; right; omega
    · have h1 : (s ≤ (j : Int) ∧ (j : Int) < s + ((i + 1 : Nat) : Int)) ↔ (s ≤ (j : Int) ∧ (j : Int) < s + (i : Int)) := by omega
      simp only [e, if_false, h1]

end Go.Proofs.Ytgdefibkemkejaa

/- The document's own List and Mix answer for any sets. -/
namespace Go.Proofs.Ytgdefibkemkejaa
open Go.ChangeShapes Go.WideShapes Go.ChangeAt Go.RowKit
set_option linter.unusedVariables false
set_option maxRecDepth 20000

theorem sInfoInt : (Try.prog.info? 3).map (fun i => (i.zero, i.size, i.bytes)) = some (some (.int .i64 0), 1, 8) := by kernel_rfl

/-- a slice of the call's own that holds these numbers -/
def OwnI (w : World) (base : Nat) (v : Value) (zs : List Int) : Prop := w.ownsRow base 3 1 v zs.length (zs.map (.int .i64))

theorem OwnI.shape {w : World} {base : Nat} {v : Value} {zs : List Int} (h : OwnI w base v zs) : ∃ ao cap, v = .slice ao zs.length cap ∧ Nums w ao zs ∧ (∀ a, ao = some a → base ≤ a.block ∧ a.block < w.heap.size) := by
  have hc := h
  have hlt := World.ownsRow.lt h
  obtain ⟨hl, h | h⟩ := h
  · obtain ⟨rfl, hn⟩ := h
    obtain rfl : zs = [] := List.eq_nil_of_length_eq_zero hn
    exact ⟨none, 0, rfl, (fun i hi => by simp at hi), (fun a h => by cases h)⟩
  · obtain ⟨g, cap, cur, rfl, _⟩ := h
    refine ⟨some ⟨g, 0, none⟩, cap, rfl, ?_, ?_⟩
    · intro i hi
      refine ⟨g, 0, rfl, ?_⟩
      rw [Nat.zero_add, hc.cellAt i (by omega)]
      simp [hi]
    · intro a ha
      cases ha
      exact hlt g rfl

theorem OwnI.below {w w' : World} {base : Nat} {v : Value} {zs : List Int} (h : OwnI w base v zs) (hb : Below w.heap.size w w') : OwnI w' base v zs := by
  obtain ⟨hl, h | h⟩ := h
  · exact ⟨hl, .inl h⟩
  · obtain ⟨g, cap, cur, rfl, h1, h2, h3⟩ := h
    refine ⟨hl, .inr ⟨g, cap, cur, rfl, h1, ?_, h3⟩⟩
    have : g < w.heap.size := by
      by_cases hb : g < w.heap.size
      · exact hb
      · rw [Array.getElem?_eq_none (by omega)] at h2; simp at h2
    rw [hb.block g this, h2]

theorem OwnI.le {w : World} {base base' : Nat} {v : Value} {zs : List Int} (h : OwnI w base v zs) (hb : base' ≤ base) : OwnI w base' v zs := by
  obtain ⟨hl, h | h⟩ := h
  · exact ⟨hl, .inl h⟩
  · obtain ⟨g, cap, cur, rfl, h1, h2⟩ := h
    exact ⟨hl, .inr ⟨g, cap, cur, rfl, by omega, h2⟩⟩

/-- the marked numbers below k, rising -/
def numsL (f : Nat → Bool) (k : Nat) : List Int := ((List.range k).filter f).map Int.ofNat

theorem numsL_succ (f : Nat → Bool) (k : Nat) : numsL f (k + 1) = if f k then numsL f k ++ [(k : Int)] else numsL f k := by
  unfold numsL
  rw [List.range_succ, List.filter_append]
  cases h : f k <;> simp [h]

theorem numsL_length (f : Nat → Bool) (k : Nat) : (numsL f k).length ≤ k := by
  unfold numsL
  rw [List.length_map]
  exact Nat.le_trans (List.length_filter_le _ _) (by simp)

theorem OwnI.row {w : World} {base : Nat} {v : Value} {zs : List Int} (h : OwnI w base v zs) : w.ownsRow base 3 1 v zs.length (zs.map (.int .i64)) := h

theorem OwnI.pushed {w : World} {base : Nat} {v : Value} {zs : List Int} {z : Int} (h : w.ownsRow base 3 1 v (zs.length + 1) (zs.map (.int .i64) ++ [.int .i64 z])) : OwnI w base v (zs ++ [z]) := by
  unfold OwnI
  simpa using h

/-- in either (0), in the first alone (1), in both (2) -/
def mixB (how : Int) (x y : Bool) : Bool := if how = 0 then x || y else if how = 1 then x && !y else x && y

theorem Marked.mix {w : World} {B T : Nat} {f g : Nat → Bool} {how : Int} {k : Nat} {v : Bool} (h : Marked w B T fun j => if j < k then mixB how (f j) (g j) else f j) (hv : v = mixB how (f k) (g k)) :
    Marked (w.setCell ⟨B, k, none⟩ (.bool v)) B T fun j => if j < k + 1 then mixB how (f j) (g j) else f j :=
  (h.set k v).congr fun j _ => by
    by_cases e : j = k
    · subst e; simp [hv]
    · have h1 : j < k + 1 ↔ j < k := by omega
      simp only [e, if_false, h1]

end Go.Proofs.Ytgdefibkemkejaa

/- The iterator over a set's numbers yields them rising, for every set and every loop body that keeps its memory. -/
namespace Go.Proofs.Ytgdefibkemkejaa
open Go.ChangeShapes Go.WideShapes Go.ChangeAt Go.RowKit Go.Shelf
attribute [local go_sem] Oper.semAt_some
set_option linter.unusedVariables false
set_option maxRecDepth 20000

/-- cells of the blocks and types that A does not name lie as they lay -/
structure Stays (A : Nat → TypeId → Prop) (W W' : World) : Prop where
  size : W.heap.size ≤ W'.heap.size
  same : ∀ k cs T fr, ¬ A k T → W.heap[k]? = some (.cells cs T fr) → W'.heap[k]? = some (.cells cs T fr)

theorem Stays.refl (A : Nat → TypeId → Prop) (W : World) : Stays A W W := ⟨Nat.le_refl _, fun _ _ _ _ _ h => h⟩
theorem Stays.trans {A : Nat → TypeId → Prop} {X Y Z : World} (h : Stays A X Y) (k : Stays A Y Z) : Stays A X Z := ⟨Nat.le_trans h.size k.size, fun i cs T fr hi e => k.same i cs T fr hi (h.same i cs T fr hi e)⟩
theorem Stays.grown {A : Nat → TypeId → Prop} {W W' : World} {row : Option Nat} (hg : W.grownBy W' row) (hr : ∀ k cs T fr, row = some k → W.heap[k]? = some (.cells cs T fr) → A k T) : Stays A W W' :=
  ⟨hg.size, fun k cs T fr hk e => by rw [hg.block k (Array.getElem?_eq_some_iff.1 e).1 (fun e' => hk (hr k cs T fr e'.symm e)), e]⟩
theorem Stays.alloc (A : Nat → TypeId → Prop) (W : World) (o : Obj) : Stays A W (W.alloc o) := ⟨by simp, fun k cs T fr _ e => by
  rw [Below.heap_alloc W o k (Array.getElem?_eq_some_iff.1 e).1, e]⟩
theorem Stays.setCell {A : Nat → TypeId → Prop} (W : World) {a : Addr} (v : Value) (h : ∀ T, A a.block T) : Stays A W (W.setCell a v) := ⟨by simp, fun k cs T fr hk e => by
  rw [heap_setCell_other W a k v (fun e => hk (e ▸ h T)), e]⟩
theorem Stays.drew (A : Nat → TypeId → Prop) (W : World) : Stays A W W.drew := ⟨Nat.le_refl _, fun _ _ _ _ _ h => h⟩
theorem Stays.cell {A : Nat → TypeId → Prop} {W W' : World} (h : Stays A W W') {a : Addr} {v : Value} (ha : ∀ T, ¬ A a.block T) (hc : W.cell? a = some v) : W'.cell? a = some v := by
  unfold World.cell? at hc ⊢
  cases e : W.heap[a.block]? with
  | none => rw [e] at hc; simp at hc
  | some o =>
    cases o with
    | cells cs T fr => rw [h.same _ _ _ _ (ha T) e]; rw [e] at hc; exact hc
    | _ => rw [e] at hc; simp at hc
theorem Stays.t {A : Nat → TypeId → Prop} {X Y Z : World} (h : Stays A X Y) (k : Stays A Y Z) : Stays A X Z := h.trans k
theorem Stays.b {A : Nat → TypeId → Prop} (n : Nat) (W : World) (l : Nat) (o o' : Obj) (_ : n ≤ l) (h : W.heap[l]? = some o) (ho : o.isCells = false) (_ : o.isWalk = false) : Stays A W (W.putObj l o') :=
  ⟨by simp, fun k cs T fr _ e => by
    rw [World.putObj_heap_other (fun (e' : k = l) => by subst e'; rw [h] at e; cases e; cases ho)]; exact e⟩

/-- the block of a pair of numbers of the call's own -/
def STwo (W : World) (B T : Nat) (p q : Int) : Prop := W.heap[B]? = some (.cells #[.int .i64 p, .int .i64 q] T (0, 0))
theorem STwo.stays {A : Nat → TypeId → Prop} {W W' : World} {B T : Nat} {p q : Int} (h : STwo W B T p q) (hs : Stays A W W') (hA : ¬ A B T) : STwo W' B T p q := hs.same _ _ _ _ hA h
theorem STwo.c0 {W : World} {B T : Nat} {p q : Int} (h : STwo W B T p q) : W.cell? ⟨B, 0, none⟩ = some (.int .i64 p) := by rw [cell_of_row W B 0 _ _ _ h]; rfl
theorem STwo.c1 {W : World} {B T : Nat} {p q : Int} (h : STwo W B T p q) : W.cell? ⟨B, 1, none⟩ = some (.int .i64 q) := by rw [cell_of_row W B 1 _ _ _ h]; rfl
theorem STwo.new (W : World) (T : Nat) (p q : Int) : STwo (W.alloc (.cells #[.int .i64 p, .int .i64 q] T)) W.heap.size T p q := heap_alloc_new W _
theorem STwo.alloc {W : World} {B T : Nat} {p q : Int} (h : STwo W B T p q) (o : Obj) : STwo (W.alloc o) B T p q := by
  unfold STwo at *
  rw [Below.heap_alloc W o B (Array.getElem?_eq_some_iff.1 h).1, h]

theorem Spans.stays {A : Nat → TypeId → Prop} {w w' : World} {ao : Option Addr} {xs : List (Int × Int)} (h : Spans w ao xs) (hs : Stays A w w') (hA : xs ≠ [] → ∀ a, ao = some a → ∀ T, ¬ A a.block T) : Spans w' ao xs := by
  intro i hi
  have hne : xs ≠ [] := by rintro rfl; simp at hi
  obtain ⟨b, off, e, c1, c2⟩ := h i hi
  exact ⟨b, off, e, hs.cell (by have := hA hne _ e; exact this) c1, hs.cell (by have := hA hne _ e; exact this) c2⟩

theorem Spans.lt {w : World} {ao : Option Addr} {xs : List (Int × Int)} (h : Spans w ao xs) : xs ≠ [] → ∀ a, ao = some a → a.block < w.heap.size := by
  intro hne a e
  have hl : 0 < xs.length := by
    rcases Nat.eq_zero_or_pos xs.length with h | h
    · exact absurd (List.eq_nil_of_length_eq_zero h) hne
    · exact h
  obtain ⟨b, off, e', c1, _⟩ := h 0 hl
  rw [e] at e'; cases e'
  exact cell_lt c1

/-- the members below m, rising -/
def upTo (f : Nat → Bool) (m : Nat) : List (Fin 4096) := (List.finRange 4096).filter fun j => decide (j.val < m) && f j.val

theorem filter_rise {n : Nat} (p q : Fin n → Bool) (m : Nat) (hm : m < n) (h : ∀ j : Fin n, q j = (p j || decide (j.val = m))) (hp : ∀ j : Fin n, p j = true → j.val < m) : (List.finRange n).filter q = (List.finRange n).filter p ++ [⟨m, hm⟩] := by
  have key : ∀ l : List (Fin n), l.Pairwise (fun a b => a.val < b.val) → (⟨m, hm⟩ : Fin n) ∈ l → l.filter q = l.filter p ++ [⟨m, hm⟩] := by
    intro l
    induction l with
    | nil => intro _ h; cases h
    | cons a r ih =>
      intro hpw hmem
      obtain ⟨h1, h2⟩ := List.pairwise_cons.1 hpw
      by_cases e : a.val = m
      · have ea : a = ⟨m, hm⟩ := Fin.ext e
        have hr1 : r.filter p = [] := by
          rw [List.filter_eq_nil_iff]
          intro x hx hpx
          have := h1 x hx
          have := hp x hpx
          omega
        have hr2 : r.filter q = [] := by
          rw [List.filter_eq_nil_iff]
          intro x hx hqx
          rw [h x] at hqx
          have := h1 x hx
          simp at hqx
          rcases hqx with hqx | hqx
          · have := hp x hqx; omega
          · omega
        have hpa : p a = false := by
          cases hpa : p a
          · rfl
          · have := hp a hpa; omega
        have hqa : q a = true := by rw [h a]; simp [e]
        rw [List.filter_cons, List.filter_cons, hr1, hr2, hpa, hqa, ea]
        simp
      · have hmem' : (⟨m, hm⟩ : Fin n) ∈ r := by
          rcases List.mem_cons.1 hmem with h | h
          · exact absurd (congrArg Fin.val h).symm e
          · exact h
        have hqa : q a = p a := by rw [h a]; simp [e]
        rw [List.filter_cons, List.filter_cons, ih h2 hmem', hqa]
        cases p a <;> simp
  refine key _ ?_ (List.mem_finRange _)
  rw [List.pairwise_iff_getElem]
  intro i j hi hj hij
  simp
  exact hij

theorem upTo_in {f : Nat → Bool} {m : Nat} (hm : m < 4096) (hf : f m = true) : upTo f (m + 1) = upTo f m ++ [⟨m, hm⟩] := by
  refine filter_rise _ _ m hm (fun j => ?_) (fun j hj => by simp at hj; exact hj.1)
  by_cases e : j.val = m
  · simp [e, hf]
  · have : decide (j.val < m + 1) = decide (j.val < m) := by congr 1; apply propext; omega
    simp [e, this]

theorem upTo_gap {f : Nat → Bool} {a b : Nat} (hab : a ≤ b) (h : ∀ j, a ≤ j → j < b → f j = false) : upTo f a = upTo f b := by
  unfold upTo
  apply List.filter_congr
  intro j _
  by_cases h1 : j.val < a
  · have h2 : j.val < b := by omega
    simp [h1, h2]
  · by_cases h2 : j.val < b
    · simp [h1, h2, h j.val (by omega) h2]
    · simp [h1, h2]

theorem upTo_zero (f : Nat → Bool) : upTo f 0 = [] := by simp [upTo]

theorem upTo_length (f : Nat → Bool) : ∀ m, (upTo f m).length ≤ m
  | 0 => by simp [upTo_zero]
  | m + 1 => by
    by_cases hm : m < 4096
    · cases hf : f m
      · rw [← upTo_gap (a := m) (b := m + 1) (by omega) (fun j h1 h2 => by rw [show j = m from by omega]; exact hf)]
        have := upTo_length f m
        omega
      · rw [upTo_in hm hf]
        have := upTo_length f m
        simp; omega
    · have : (upTo f (m + 1)).length ≤ (List.finRange 4096).length := List.length_filter_le _ _
      simp at this; omega

theorem right_low {low : Int} {xs : List (Int × Int)} (h : rightFrom low xs = true) {j : Int} (hj : j < low) : hasL xs j = false := by
  induction xs generalizing low with
  | nil => rfl
  | cons q r ih =>
    obtain ⟨s, n⟩ := q
    simp only [rightFrom, Bool.and_eq_true, decide_eq_true_eq] at h
    obtain ⟨⟨h1, h2⟩, h3⟩ := h
    obtain ⟨g0, g1, g2⟩ := withinB_true h1
    have := ih h3 (by omega)
    simp only [hasL, List.any_cons] at this ⊢
    rw [this]
    simp; omega

theorem within_exact (s n : Int) (w : World) (hs1 : -9223372036854775808 ≤ s) (hs2 : s ≤ 9223372036854775807) (hn1 : -9223372036854775808 ≤ n) (hn2 : n ≤ 9223372036854775807) (hw : withinB s n = true) :
    Calls Try.prog 76 #[.agg #[.int .i64 s, .int .i64 n]] w fun e w' => e = .returned (.bool true) ∧ w' = w.alloc (.cells #[.int .i64 s, .int .i64 n] 87) := by
  obtain ⟨h1, h2, h3⟩ := withinB_true hw
  go_enter Try.func76, Try.ntmps76
  go_wp2
  go_ret
  exact ⟨rfl, rfl⟩

set_option maxRecDepth 100000 in
set_option maxHeartbeats 2000000 in
theorem numbers1_in (n : Nat) (hn : 1 ≤ n) (A : Nat → TypeId → Prop) (l Bs : Nat) (ao : Option Addr) (cap : Nat) (xs : List (Int × Int)) (hr : rightFrom 0 xs = true) (hf : Fits xs) (J Jx : List (Fin 4096) → World → Prop)
    (W : World) (hJ : AbidesFrom W.heap.size J) (hx : Spans W ao xs) (hA : xs ≠ [] → ∀ a, ao = some a → ∀ T, ¬ A a.block T) (hAW : ∀ k, W.heap.size ≤ k → ¬ A k 87) (hBs : W.cell? ⟨Bs, 0, none⟩ = some (.slice ao xs.length cap))
    (hY : ∀ pre (x : Fin 4096) W1, J pre W1 → pre.length < 4096 → YieldAt Fence.wide (n - 1) Try.prog l #[.int .i64 (x.val : Int)] W1 fun e W' =>
      (e = .returned (.bool true) ∧ J (pre ++ [x]) W' ∧ Stays A W1 W') ∨ (e = .returned (.bool false) ∧ Jx (pre ++ [x]) W')) (h0 : J [] W) :
    CallsIn Fence.wide n Try.prog 75 #[.func (.yield l) #[] #[], .pointer (some ⟨Bs, 0, none⟩)] W fun e W' => (∃ v, e = .returned v) ∧
      ((∃ ys, ys = upTo (maskS xs) 4096 ∧ J ys W') ∨ (∃ pre, (∃ m, m < 4096 ∧ maskS xs m = true ∧ pre = upTo (maskS xs) (m + 1)) ∧ Jx pre W')) := by
  have hl := hf.2
  have hf := Lib.hid hf
  have hx := Lib.hid hx
  have hr := Lib.hid hr
  have hY := Lib.hid hY
  have hJ := Lib.hid hJ
  have hAW := Lib.hid hAW
  have hA := Lib.hid hA
  refine callsIn_of_wp Try.func75 rfl trivial ?_ rfl
  simp only [Try.ntmps75, List.size_toArray, List.length_cons, List.length_nil, Nat.reduceAdd, Nat.reduceSub, Array.replicate_succ, Array.replicate_zero, List.push_toArray, List.append_toArray, List.nil_append, List.cons_append]
  gi_wp2
  gi_loopw [3, 8] (fun nx i wr => ∃ (k next : Nat) (low : Int), k ≤ xs.length ∧ i = .int .i64 k ∧ nx = .int .i64 next ∧ next ≤ 4096 ∧ (next : Int) ≤ low ∧ Hid (rightFrom low (xs.drop k) = true) ∧ Hid (∀ j, next ≤ j → maskS xs j = maskS (xs.drop k) j) ∧ Hid (J (upTo (maskS xs) next) wr) ∧ Hid (Stays A W wr))
    (fun _ i _ => xs.length - (intOf i).toNat)
  case atStart => exact ⟨0, 0, 0, by omega, rfl, rfl, by omega, by omega, Lib.hid (by simpa using hr.out), Lib.hid (fun j _ => by simp), Lib.hid (by rw [upTo_zero]; exact h0), Lib.hid (Stays.refl _ _)⟩
  case round =>
    obtain ⟨k, next, low, hk, rfl, rfl, hnx, hlow, hro, hmask, hJs, hst⟩ := hrel
    by_cases hlt : k < xs.length
    · obtain ⟨b, off, s, m, rfl, hd, c1, c2, hbb, hs1, hs2, hn1, hn2⟩ := (hx.out.stays hst.out hA.out).get hf.out hlt
      have hro2 := hro.out
      rw [hd.out] at hro2
      simp only [rightFrom, Bool.and_eq_true, decide_eq_true_eq] at hro2
      obtain ⟨⟨hw, h2⟩, h3⟩ := hro2
      obtain ⟨g0, g1, g2⟩ := withinB_true hw
      have hw := Lib.hid hw
      have h3 := Lib.hid h3
      obtain ⟨s, rfl⟩ := Int.eq_ofNat_of_zero_le g0
      obtain ⟨m, rfl⟩ := Int.eq_ofNat_of_zero_le (show 0 ≤ m from by omega)
      have hDA : ¬ A wr.heap.size 87 := hAW.out _ hst.out.size
      have hDA := Lib.hid hDA
      have hf2 : ∀ j, next ≤ j → maskS xs j = maskS (((s : Int), (m : Int)) :: xs.drop (k + 1)) j := fun j hj => by rw [hmask.out j hj, hd.out]
      have hgap : ∀ j, next ≤ j → j < s → maskS xs j = false := fun j h1 h4 => by
        rw [hf2 j h1]
        have := right_low h3.out (j := (j : Int)) (by omega)
        simp only [maskS, hasL, List.any_cons] at this ⊢
        rw [this]; simp; omega
      have hin : ∀ j, s ≤ j → j < s + m → maskS xs j = true := fun j h1 h4 => by
        rw [hf2 j (by omega)]
        simp only [maskS, hasL, List.any_cons]
        have : decide ((s : Int) ≤ (j : Int) ∧ (j : Int) < (s : Int) + (m : Int)) = true := by simp; omega
        simp only [this, Bool.true_or]
      have hout : ∀ j, s + m ≤ j → maskS xs j = maskS (xs.drop (k + 1)) j := fun j h1 => by
        rw [hf2 j (by omega)]
        simp only [maskS, hasL, List.any_cons]
        have : decide ((s : Int) ≤ (j : Int) ∧ (j : Int) < (s : Int) + (m : Int)) = false := by simp; omega
        simp only [this, Bool.false_or]
      have hJ0 : J (upTo (maskS xs) s) ((wr.alloc (.cells #[.int .i64 s, .int .i64 m] 87)).alloc (.cells #[.int .i64 s, .int .i64 m] 87)) := by
        rw [← upTo_gap (a := next) (b := s) (by omega) hgap]
        exact hJ.out _ _ _ none (hJ.out _ _ _ none hJs.out (World.grownBy_alloc _ _ none) (fun r e => by cases e)) (World.grownBy_alloc _ _ none) (fun r e => by cases e)
      have hS0 : Stays A W ((wr.alloc (.cells #[.int .i64 s, .int .i64 m] 87)).alloc (.cells #[.int .i64 s, .int .i64 m] 87)) := (hst.out.trans (Stays.alloc _ _ _)).trans (Stays.alloc _ _ _)
      have hf2 := Lib.hid hf2
      have hgap := Lib.hid hgap
      have hin := Lib.hid hin
      have hout := Lib.hid hout
      have hJ0 := Lib.hid hJ0
      have hS0 := Lib.hid hS0
      have hns : next ≤ s := by omega
      obtain ⟨wo, hwo⟩ : ∃ wo : World, wo = wr := ⟨_, rfl⟩
      subst hwo
      rcases (Nat.lt_or_eq_of_le hns).imp_right Eq.symm with hns | rfl
      all_goals
        gi_wp2_with (refine ⟨trivial, ?_⟩; gi_at_call 76; refine (callsIn_wide.2 (within_exact _ _ _ hs1 hs2 hn1 hn2 hw.out)).mono ?_; rintro e w' ⟨rfl, rfl⟩)
        gi_loopw [3] (fun nx wi => ∃ p : Nat, nx = .int .i64 p ∧ s ≤ p ∧ p ≤ s + m ∧ Hid (J (upTo (maskS xs) p) wi) ∧ Hid (Stays A W wi) ∧ Hid (STwo wi wo.heap.size 87 s m))
          (fun nx _ => s + m - (intOf nx).toNat)
        case atStart => exact ⟨_, rfl, by omega, by omega, hJ0, hS0, Lib.hid ((STwo.new _ _ _ _).alloc _)⟩
        case round =>
          obtain ⟨p, rfl, hp1, hp2, hJp, hSp, htwo⟩ := hrel
          have d1 := htwo.out.c0
          have d2 := htwo.out.c1
          by_cases hpl : p < s + m
          · have hp4 : p < 4096 := by omega
            obtain ⟨fn, tmps, assign, body, hy, hR⟩ := hY.out _ ⟨p, hp4⟩ _ hJp.out (by have := upTo_length (maskS xs) p; omega)
            dsimp only at hy
            gi_wp2
            refine hR.mono ?_
            rintro e W3 (⟨rfl, hJ3, hk3⟩ | ⟨rfl, hJx3⟩)
            · have d1 := (htwo.out.stays hk3 hDA.out).c0
              have d2 := (htwo.out.stays hk3 hDA.out).c1
              gi_wp2
              go_roundw
              case rel => exact ⟨p + 1, by go_num, by omega, by omega, Lib.hid (by rw [upTo_in hp4 (hin.out p hp1 hpl)]; exact hJ3), Lib.hid (hSp.out.trans hk3), Lib.hid (htwo.out.stays hk3 hDA.out)⟩
              case measure => simp [intOf] <;> omega
            · gi_wp2
              refine bodyPost_ret (results_none rfl _ _ _) rfl ?_
              exact ⟨⟨_, rfl⟩, .inr ⟨_, ⟨p, hp4, hin.out p hp1 hpl, (upTo_in hp4 (hin.out p hp1 hpl)).symm⟩, hJx3⟩⟩
          · obtain rfl : p = s + m := by omega
            gi_wp2
            go_roundw
            case rel => exact ⟨k + 1, s + m, s + m + 1, by omega, by go_num, rfl, by omega, by omega, h3, hout, hJp, hSp⟩
            case measure => simp [intOf] <;> omega
    · gi_wp2
      go_end0
      have he : k = xs.length := by omega
      refine ⟨⟨_, rfl⟩, .inl ⟨_, (upTo_gap hnx fun j h1 h2 => ?_), hJs.out⟩⟩
      rw [hmask.out j h1, he, List.drop_length]; rfl
end Go.Proofs.Ytgdefibkemkejaa

/- (*span.marks).put marks all numbers of any set. -/
namespace Go.Proofs.Ytgdefibkemkejaa
open Go.ChangeShapes Go.WideShapes Go.ChangeAt Go.RowKit Go.Shelf
attribute [local go_sem] Oper.semAt_some
set_option linter.unusedVariables false
set_option maxRecDepth 20000

theorem numbers_in (n : Nat) (ao : Option Addr) (len cap : Nat) (w : World) :
    CallsIn Fence.wide n Try.prog 69 #[.slice ao len cap] w fun e w' => e = .returned (.func (.func 75) #[] #[.pointer (some ⟨w.heap.size, 0, none⟩)]) ∧ w' = w.alloc (.cells #[.slice ao len cap] 55) := by
  refine callsIn_wide.2 ?_
  go_enter Try.func69, Try.ntmps69
  go_wp2
  go_ret
  exact ⟨rfl, rfl⟩

theorem numbers_stops (n : Nat) (hn : 1 ≤ n) (A : Nat → TypeId → Prop) (Bs : Nat) (ao : Option Addr) (cap : Nat) (xs : List (Int × Int)) (hr : rightFrom 0 xs = true) (hf : Fits xs) (w : World) (hBw : Bs < w.heap.size)
    (hx : Spans w ao xs) (hA : xs ≠ [] → ∀ a, ao = some a → ∀ T, ¬ A a.block T) (hAw : ∀ k, w.heap.size ≤ k → ¬ A k 87) (hBs : w.cell? ⟨Bs, 0, none⟩ = some (.slice ao xs.length cap)) :
    SeqStopsK Fence.wide n Try.prog 75 #[.pointer (some ⟨Bs, 0, none⟩)] (fun x : Fin 4096 => #[Value.int .i64 (x.val : Int)]) (Stays A) (fun ys => ys = upTo (maskS xs) 4096)
      (fun pre => ∃ m, m < 4096 ∧ maskS xs m = true ∧ pre = upTo (maskS xs) (m + 1)) 4096 w := fun l J Jx W hW hJ hJx hY h0 =>
  numbers1_in n hn A l Bs ao cap xs hr hf J Jx W hJ (hx.below hW) hA (fun k hk => hAw k (Nat.le_trans hW.size hk)) ((hW.cell hBw).trans hBs) hY h0

theorem Marked.kept {W W' : World} {row : Option Nat} {B T : Nat} {f : Nat → Bool} (h : Marked W B T f) (hg : W.grownBy W' row) (hr : ∀ r, row = some r → ∃ o : Obj, W.heap[r]? = some o ∧ o.isCells = false) : Marked W' B T f := by
  have hlt := h.lt
  unfold Marked at *
  rw [hg.block B hlt (fun e => by
    obtain ⟨o, ho, hc⟩ := hr B e.symm
    rw [h] at ho; cases ho; cases hc), h]

/-- behind a put: what was passed is as told -/
def putMask (f : Nat → Bool) (b : Bool) (pre : List (Fin 4096)) (j : Nat) : Bool := if pre.any (fun x => decide (x.val = j)) then b else f j

theorem putMask_snoc (f : Nat → Bool) (b : Bool) (pre : List (Fin 4096)) (x : Fin 4096) (j : Nat) : putMask f b (pre ++ [x]) j = if j = x.val then b else putMask f b pre j := by
  unfold putMask
  by_cases e : j = x.val
  · subst e; simp
  · have : ¬ x.val = j := fun h => e h.symm
    simp [e, this]

theorem putMask_all (f g : Nat → Bool) (b : Bool) {j : Nat} (hj : j < 4096) : putMask f b (upTo g 4096) j = if g j then b else f j := by
  unfold putMask
  have : (upTo g 4096).any (fun x => decide (x.val = j)) = g j := by
    rw [Bool.eq_iff_iff, List.any_eq_true]
    constructor
    · rintro ⟨x, hx, e⟩
      simp [upTo] at hx e
      rw [← e]; exact hx
    · intro h
      exact ⟨⟨j, hj⟩, by simp [upTo, h], by simp⟩
  rw [this]

theorem ownFrom_marked {β : Type} (D B T : Nat) (f : β → Nat → Bool) : OwnFrom D (fun (s : β) W => Marked W B T (f s)) := fun s W W' row hs hg hr => hs.kept hg fun r e => (hr r e).2

theorem ownFrom_cell {β : Type} (D : Nat) (a : Addr) (v : β → Value) : OwnFrom D (fun (s : β) W => W.cell? a = some (v s)) := fun s W W' row hs hg hr => cell_kept hs hg (fun r e => (hr r e).2)

theorem Marked.setBy {w : World} {B T : Nat} {f g : Nat → Bool} {m : Nat} {b : Bool} (h : Marked w B T f) (hg : ∀ j, g j = if j = m then b else f j) : Marked (w.setCell ⟨B, m, none⟩ (.bool b)) B T g :=
  (h.set m b).congr fun j _ => (hg j).symm

end Go.Proofs.Ytgdefibkemkejaa

/- span.Count, Has, List, Join and Cut answer for any sets as their plain functions do. -/
namespace Go.Proofs.Ytgdefibkemkejaa
open Go.ChangeShapes Go.WideShapes Go.ChangeAt Go.RowKit Go.Shelf
attribute [local go_sem] Oper.semAt_some
set_option linter.unusedVariables false
set_option maxRecDepth 20000

set_option maxRecDepth 100000 in
set_option maxHeartbeats 2000000 in
theorem Has_any (ao : Option Addr) (cap : Nat) (xs : List (Int × Int)) (q : Int) (w : World) (hx : Spans w ao xs) (hf : Fits xs) (hr : rightFrom 0 xs = true) :
    Calls Try.prog 63 #[.slice ao xs.length cap, .int .i64 q] w fun e w' => e = .returned (.bool (hasL xs q)) ∧ Below w.heap.size w w' := by
  refine (callsIn_wide (n := 5)).1 ?_
  refine callsIn_of_wp_marks Try.func63 rfl trivial ?_ rfl
  simp only [Try.ntmps63, List.size_toArray, List.length_cons, List.length_nil, Nat.reduceAdd, Nat.reduceSub, Array.replicate_succ, Array.replicate_zero, List.push_toArray, List.append_toArray, List.nil_append, List.cons_append]
  have hA := Lib.hid hx.lt
  have hx := Lib.hid hx
  have hf := Lib.hid hf
  have hr := Lib.hid hr
  gi_wp2_with (refine ⟨trivial, ?_⟩; gi_at_call 69; refine (numbers_in _ _ _ _ _).mono ?_; rintro e w' ⟨rfl, rfl⟩)
  obtain ⟨w3, hw3⟩ : ∃ w3 : World, w3 = (((w.alloc (.cells #[.int .i64 q] 3)).alloc (.cells #[.bool false] 4)).alloc (.cells #[.slice ao xs.length cap] 55)) := ⟨_, rfl⟩
  have hsz : w3.heap.size = w.heap.size + 3 := by rw [hw3]; simp
  have hB3 : Below w.heap.size w w3 := by rw [hw3]; exact (((Below.refl _ _).alloc (Nat.le_refl _) _).alloc (by simp) _).alloc (by simp; omega) _
  have c1 : w3.cell? ⟨w.heap.size, 0, none⟩ = some (.int .i64 q) := by rw [hw3]; simp [go_sem]
  have c2 : w3.cell? ⟨w.heap.size + 1, 0, none⟩ = some (.bool false) := by rw [hw3]; simp [go_sem]
  have f2 : w3.frozen? ⟨w.heap.size + 1, 0, none⟩ = false := by rw [hw3]; simp [go_sem]
  have c3 : w3.cell? ⟨w.heap.size + 1 + 1, 0, none⟩ = some (.slice ao xs.length cap) := by rw [hw3]; simp [go_sem]
  rw [← hw3]
  refine wpIn_rangeFunc_ownF rfl (by omega) (gf := 75) (lb := #[.pointer (some ⟨w.heap.size + 1 + 1, 0, none⟩)]) rfl trivial (enters_of Try.func75 (by kernel_rfl) rfl)
    (numbers_stops 4 (by omega) (fun k _ => k = w.heap.size + 1) (w.heap.size + 1 + 1) ao cap xs hr.out hf.out w3 (by omega) (hx.out.below hB3) (fun hne a e T h => by have := hA.out hne a e; omega) (fun k hk e => by omega) c3)
    Stays.t (fun W l o o' h1 h2 h3 h4 => Stays.b _ W l o o' h1 h2 h3 h4) (Below.refl _ _) (fun _ => rfl)
    (fun pre W => (Hid (∀ y ∈ pre, ((y : Fin 4096).val : Int) < q) ∧ W.cell? ⟨w.heap.size, 0, none⟩ = some (.int .i64 q) ∧ W.cell? ⟨w.heap.size + 1, 0, none⟩ = some (.bool false) ∧ W.frozen? ⟨w.heap.size + 1, 0, none⟩ = false) ∧ Below w.heap.size w W)
    (fun c pre W => (c = .ret ∧ (∃ pr x, pre = pr ++ [x] ∧ (∀ y ∈ pr, ((y : Fin 4096).val : Int) < q) ∧ q ≤ ((x : Fin 4096).val : Int) ∧ W.cell? ⟨w.heap.size + 1, 0, none⟩ = some (.bool ((x.val : Int) == q)))) ∧ Below w.heap.size w W)
    (OwnFrom.and (Own.from (fun s A B row hs hg hr => ⟨hs.1, cell_kept hs.2.1 hg hr, cell_kept hs.2.2.1 hg hr, (frozen_kept hs.2.2.1 hg hr).trans hs.2.2.2⟩) _) (ownFrom_below (by omega) (by omega)))
    (fun c => OwnFrom.and (Own.from (fun s A B row hs hg hr => ⟨hs.1, by obtain ⟨pr, x, e, h1, h2, h3⟩ := hs.2; exact ⟨pr, x, e, h1, h2, cell_kept h3 hg hr⟩⟩) _) (ownFrom_below (by omega) (by omega)))
    ⟨⟨Lib.hid (fun y hy => by cases hy), c1, c2, f2⟩, hB3⟩
    (fun x => { tmps := #[.slice ao xs.length cap, .int .i64 q, undef, .pointer (some ⟨w.heap.size, 0, none⟩), .pointer (some ⟨w.heap.size + 1, 0, none⟩), .int .i64 (x.val : Int), .slice ao xs.length cap, .func (.func 75) #[] #[.pointer (some ⟨w.heap.size + 1 + 1, 0, none⟩)], .int .i64 (x.val : Int), undef, undef, undef, undef, undef, undef], defers := [] }) ?assign ?body ?done ?stop
  case assign =>
    intro l x W K hK
    gi_wp2
    exact hK
  case body =>
    rintro l pre x W ⟨⟨hall, d1, d2, d3⟩, hB⟩ hlen
    have hB := Lib.hid hB
    by_cases hq : q ≤ (x.val : Int)
    · gi_wp2
      exact ⟨KeepsOthers.setCell _ _ _, ⟨rfl, pre, x, rfl, hall.out, hq, World.cell?_setCell_same' _ _ _ (by rw [d2]; rfl)⟩, hB.out.setCell (by simp) _⟩
    · gi_wp2
      exact ⟨KeepsOthers.refl _, Stays.refl _ _, ⟨Lib.hid (fun y hy => (List.mem_append.1 hy).elim (hall.out y) (fun e => by simp at e; subst e; omega)), d1, d2, d3⟩, hB.out⟩
  case done =>
    rintro D ys W hD rfl ⟨⟨hall, _, hcr, hfr⟩, hB⟩ hK
    have hno : hasL xs q = false := by
      by_cases h1 : q < 0
      · exact right_low hr.out h1
      · obtain ⟨m, rfl⟩ := Int.eq_ofNat_of_zero_le (show 0 ≤ q from by omega)
        cases hm : hasL xs m
        · rfl
        · exfalso
          have hm4 : m < 4096 := by
            have hg := right_good hr.out
            simp only [hasL, List.any_eq_true] at hm
            obtain ⟨p, hp, hpq⟩ := hm
            have := hg p hp
            simp at hpq
            omega
          have := hall.out ⟨m, hm4⟩ (by simp [upTo, maskS, hm])
          simp at this
    have hno := Lib.hid hno
    gi_wp2
    have hK' := (KeepsOthers.setCell W ⟨w.heap.size + 1, 0, none⟩ (.bool false)).same D _ hK rfl
    refine ⟨by simp, .inl ⟨_, _, rfl, run_takeDeferred hK', ?_⟩⟩
    have hc5 := cell_kept (World.cell?_setCell_same' W ⟨w.heap.size + 1, 0, none⟩ (.bool false) (by rw [hcr]; rfl)) (grownBy_putObj' _ D (.deferred none)) (fun r e => by cases e; exact ⟨_, hK', rfl⟩)
    refine ⟨.bool false, ?_, by rw [hno.out], (hB.setCell (p := ⟨w.heap.size + 1, 0, none⟩) (by simp) _).trans (belowK_b (w := w) (Nat.le_refl _) _ D _ _ (by omega) hK' rfl rfl)⟩
    simp [results, Try.f63, go_sem, hc5]
  case stop =>
    rintro D c pre W hD ⟨m, hm4, hmask, hpre⟩ ⟨⟨rfl, pr, x, hpx, hall, hqx, hcr⟩, hB⟩ hK
    rw [upTo_in hm4 hmask] at hpre
    rw [hpx] at hpre
    obtain ⟨e1, e2⟩ := List.append_inj' hpre rfl
    simp at e2
    have hval : ((x.val : Int) == q) = hasL xs q := by
      by_cases he : (x.val : Int) = q
      · rw [beq_iff_eq.2 he, ← he, e2]; exact hmask.symm
      · rw [beq_eq_false_iff_ne.2 he]
        symm
        by_cases h1 : q < 0
        · exact right_low hr.out h1
        · obtain ⟨p, rfl⟩ := Int.eq_ofNat_of_zero_le (show 0 ≤ q from by omega)
          cases hp : hasL xs p
          · rfl
          · exfalso
            have hpm : p < m := by rw [e2] at he hqx; simp at he hqx; omega
            have := hall ⟨p, by omega⟩ (by rw [e1]; simp [upTo, maskS, hp, hpm])
            simp at this
    rw [hval] at hcr
    gi_wp2
    refine ⟨by simp, .inl ⟨_, _, rfl, run_takeDeferred hK, ?_⟩⟩
    have hc5 := cell_kept hcr (grownBy_putObj' _ D (.deferred none)) (fun r e => by cases e; exact ⟨_, hK, rfl⟩)
    refine ⟨.bool (hasL xs q), ?_, rfl, hB.trans (belowK_b (w := w) (Nat.le_refl _) W D _ _ (by omega) hK rfl rfl)⟩
    simp [results, Try.f63, go_sem, hc5]

theorem stays_push {W w1 : World} {n₀ B : Nat} {e : TypeId} {v : Value} {k : Nat} {xs : List Value} {tmp : Obj} (hrow : W.ownsRow n₀ e 1 v k xs) (hgrow : (W.alloc tmp).grownBy w1 v.ownBlock) : Stays (fun k T => k = B ∨ (T = e ∧ n₀ ≤ k)) W w1 := by
  refine (Stays.alloc _ W tmp).trans (Stays.grown hgrow fun k cs T fr hk e => ?_)
  rcases (hrow.alloc tmp).2 with ⟨rfl, _⟩ | ⟨g, cap, cur, rfl, hbg, hg, _⟩
  · simp [Value.ownBlock] at hk
  · simp [Value.ownBlock] at hk
    subst hk
    rw [hg] at e
    cases e
    exact .inr ⟨rfl, hbg⟩

theorem upTo_nums (f : Nat → Bool) : (upTo f 4096).map (fun x => (x.val : Int)) = numsL f 4096 := by
  unfold upTo numsL
  have h1 : (List.range 4096).filter f = ((List.finRange 4096).filter fun j => f j.val).map (fun j => j.val) := by
    have h0 : List.range 4096 = (List.finRange 4096).map fun j => j.val := by
      apply List.ext_getElem
      · simp
      · intro i h1 h2; simp
    rw [h0, List.filter_map]
    rfl
  rw [h1, List.map_map]
  have h2 : (List.finRange 4096).filter (fun j => decide (j.val < 4096) && f j.val) = (List.finRange 4096).filter fun j => f j.val := List.filter_congr fun j _ => by simp
  rw [h2]
  rfl

/-- the marks of either of two, of the first alone, of both -/
theorem OwnS.lt {w : World} {base : Nat} {v : Value} {xs : List (Int × Int)} (h : OwnS w base v xs) : ∃ ao cap, v = .slice ao xs.length cap ∧ Spans w ao xs ∧ (∀ a, ao = some a → a.block < w.heap.size) := by
  obtain ⟨ao, cap, h1, h2, h3⟩ := h.shape
  exact ⟨ao, cap, h1, h2, fun a e => (h3 a e).2⟩

end Go.Proofs.Ytgdefibkemkejaa
