/- Moves in memory; slog.right, the document's own right, slog.kind, slog.widths, (*slog.marks).do, (*slog.marks).set. -/
import Derived.Test.YtlbglcmajbhflaaSlogM
namespace Go.Proofs.Ytlbglcmajbhflaa
open Go.ChangeShapes Go.WideShapes Go.ChangeAt Go.RowKit
set_option linter.unusedVariables false
set_option maxRecDepth 20000

/-- a list of moves in memory, at whatever address -/
def Moves (w : World) (ao : Option Addr) (ms : List (Bool × Int × Int)) : Prop :=
  ∀ i (h : i < ms.length), ∃ b off, ao = some ⟨b, off, none⟩ ∧ w.cell? ⟨b, off + i * 3, none⟩ = some (.bool ms[i].1) ∧ w.cell? ⟨b, off + i * 3 + 1, none⟩ = some (.int .i64 ms[i].2.1) ∧ w.cell? ⟨b, off + i * 3 + 2, none⟩ = some (.int .i64 ms[i].2.2)

def FitM (ms : List (Bool × Int × Int)) : Prop := (∀ m ∈ ms, I64 m.2.1 ∧ I64 m.2.2) ∧ ms.length * 24 ≤ 140737488351232

theorem Moves.below {w w' : World} {ao : Option Addr} {ms : List (Bool × Int × Int)} (h : Moves w ao ms) (hb : Below w.heap.size w w') : Moves w' ao ms := by
  intro i hi
  obtain ⟨b, off, e, c0, c1, c2⟩ := h i hi
  exact ⟨b, off, e, (hb.cell (cell_lt c0)).trans c0, (hb.cell (cell_lt c1)).trans c1, (hb.cell (cell_lt c2)).trans c2⟩
theorem Moves.nil (w : World) (ao : Option Addr) : Moves w ao [] := fun i h => by simp at h

/-- one move of a list -/
theorem Moves.get {w : World} {ao : Option Addr} {ms : List (Bool × Int × Int)} (h : Moves w ao ms) (hf : FitM ms) {k : Nat} (hk : k < ms.length) :
    ∃ b off t s n, ao = some ⟨b, off, none⟩ ∧ Hid (ms.drop k = (t, s, n) :: ms.drop (k + 1)) ∧ w.cell? ⟨b, off + k * 3, none⟩ = some (.bool t) ∧ w.cell? ⟨b, off + k * 3 + 1, none⟩ = some (.int .i64 s) ∧ w.cell? ⟨b, off + k * 3 + 2, none⟩ = some (.int .i64 n) ∧
      b < w.heap.size ∧ -9223372036854775808 ≤ s ∧ s ≤ 9223372036854775807 ∧ -9223372036854775808 ≤ n ∧ n ≤ 9223372036854775807 := by
  obtain ⟨b, off, e, c0, c1, c2⟩ := h k hk
  obtain ⟨⟨h1, h2⟩, h3, h4⟩ := hf.1 _ (List.getElem_mem hk)
  exact ⟨b, off, _, _, _, e, List.drop_eq_getElem_cons hk, c0, c1, c2, cell_lt c0, h1, h2, h3, h4⟩

theorem span_new (w : World) (s n : Int) (h : I64 s ∧ I64 n) : Spans (w.alloc (.cells #[.int .i64 s, .int .i64 n] 53)) (some ⟨w.heap.size, 0, none⟩) [(s, n)] ∧ Fits [(s, n)] := by
  refine ⟨fun i hi => ?_, ⟨fun p hp => ?_, by simp⟩⟩
  · obtain rfl : i = 0 := by simp at hi; omega
    exact ⟨w.heap.size, 0, rfl, by simp, by simp⟩
  · simp at hp; subst hp; exact h

set_option maxHeartbeats 1000000 in
theorem mRight_any (t : Bool) (s n : Int) (w : World) (hs1 : -9223372036854775808 ≤ s) (hs2 : s ≤ 9223372036854775807) (hn1 : -9223372036854775808 ≤ n) (hn2 : n ≤ 9223372036854775807) :
    Calls Try.prog 25 #[.agg #[.bool t, .int .i64 s, .int .i64 n]] w fun e w' => e = .returned (.bool (withinB s n)) ∧ Below w.heap.size w w' := by
  have hx := Lib.hid (span_new (w.alloc (.cells #[.bool t, .int .i64 s, .int .i64 n] 55)) s n ⟨⟨hs1, hs2⟩, ⟨hn1, hn2⟩⟩)
  go_enter Try.func25, Try.ntmps25
  go_wp2_with fail
  refine (sRight_any _ 1 [(s, n)] _ (by simpa using hx.out.1) hx.out.2).mono ?_
  rintro e w1 ⟨rfl, hb1⟩
  rw [right_one]
  have hb1 := Lib.hid hb1
  go_wp2
  go_ret
  exact ⟨rfl, (((Below.refl _ _).alloc (Nat.le_refl _) _).alloc (by simp) _).trans (hb1.out.mono (by simp; omega))⟩

set_option maxHeartbeats 1000000 in
theorem mRefRight_any (t : Bool) (s n : Int) (w : World) (hs1 : -9223372036854775808 ≤ s) (hs2 : s ≤ 9223372036854775807) (hn1 : -9223372036854775808 ≤ n) (hn2 : n ≤ 9223372036854775807) :
    Calls Try.prog 29 #[.agg #[.bool t, .int .i64 s, .int .i64 n]] w fun e w' => e = .returned (.bool (withinB s n)) ∧ Below w.heap.size w w' := by
  have hx := Lib.hid (span_new (w.alloc (.cells #[.bool t, .int .i64 s, .int .i64 n] 55)) s n ⟨⟨hs1, hs2⟩, ⟨hn1, hn2⟩⟩)
  go_enter Try.func29, Try.ntmps29
  go_wp2_with fail
  refine (sRefRight_any _ 1 [(s, n)] _ (by simpa using hx.out.1) hx.out.2).mono ?_
  rintro e w1 ⟨rfl, hb1⟩
  rw [right_one]
  have hb1 := Lib.hid hb1
  go_wp2
  go_ret
  exact ⟨rfl, (((Below.refl _ _).alloc (Nat.le_refl _) _).alloc (by simp) _).trans (hb1.out.mono (by simp; omega))⟩

theorem mKind_any (t : Bool) (s n : Int) (w : World) :
    Calls Try.prog 35 #[.agg #[.bool t, .int .i64 s, .int .i64 n]] w fun e w' => e = .returned (.int .u64 (kindN t : Nat)) ∧ Below w.heap.size w w' := by
  cases t
  all_goals
    go_enter Try.func35, Try.ntmps35
    go_wp2
    go_ret
    exact ⟨rfl, (Below.refl _ _).alloc (Nat.le_refl _) _⟩

theorem mWidths_any (w : World) :
    Calls Try.prog 34 #[] w fun e w' => e = .returned (.slice (some ⟨w.heap.size, 0, none⟩) 3 3) ∧ w.alloc (.cells #[.int .i64 1, .int .i64 2, .int .i64 2] 3) = w' := by
  go_enter Try.func34, Try.ntmps34
  go_wp2
  go_ret
  exact ⟨rfl, rfl⟩
end Go.Proofs.Ytlbglcmajbhflaa
