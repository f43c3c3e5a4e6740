/- span.Right answers for every list of spans whether it is a set. -/
import Derived.Test.YthnncohkdgaipaaSpanA
namespace Go.Proofs.Ythnncohkdgaipaa
open Go.ChangeShapes Go.WideShapes Go.ChangeAt Go.RowKit
set_option linter.unusedVariables false
set_option maxRecDepth 20000

/-- a list of spans in memory, at whatever address -/
def Spans (w : World) (ao : Option Addr) (xs : List (Int × Int)) : Prop :=
  ∀ i (h : i < xs.length), ∃ b off, ao = some ⟨b, off, none⟩ ∧ w.cell? ⟨b, off + i * 2, none⟩ = some (.int .i64 xs[i].1) ∧ w.cell? ⟨b, off + i * 2 + 1, none⟩ = some (.int .i64 xs[i].2)

def Fits (xs : List (Int × Int)) : Prop := (∀ p ∈ xs, I64 p.1 ∧ I64 p.2) ∧ xs.length * 16 ≤ 140737488351232

theorem Spans.below {w w' : World} {ao : Option Addr} {xs : List (Int × Int)} (h : Spans w ao xs) (hb : Below w.heap.size w w') : Spans w' ao xs := by
  intro i hi
  obtain ⟨b, off, e, c1, c2⟩ := h i hi
  exact ⟨b, off, e, (hb.cell (cell_lt c1)).trans c1, (hb.cell (cell_lt c2)).trans c2⟩

/-- one span of a list -/
theorem Spans.get {w : World} {ao : Option Addr} {xs : List (Int × Int)} (h : Spans w ao xs) (hf : Fits xs) {k : Nat} (hk : k < xs.length) :
    ∃ b off s n, ao = some ⟨b, off, none⟩ ∧ Hid (xs.drop k = (s, n) :: xs.drop (k + 1)) ∧ w.cell? ⟨b, off + k * 2, none⟩ = some (.int .i64 s) ∧ w.cell? ⟨b, off + k * 2 + 1, none⟩ = some (.int .i64 n) ∧
      b < w.heap.size ∧ -9223372036854775808 ≤ s ∧ s ≤ 9223372036854775807 ∧ -9223372036854775808 ≤ n ∧ n ≤ 9223372036854775807 := by
  obtain ⟨b, off, e, c1, c2⟩ := h k hk
  obtain ⟨⟨h1, h2⟩, h3, h4⟩ := hf.1 _ (List.getElem_mem hk)
  exact ⟨b, off, _, _, e, List.drop_eq_getElem_cons hk, c1, c2, cell_lt c1, h1, h2, h3, h4⟩

theorem withinB_true {s n : Int} (h : withinB s n = true) : 0 ≤ s ∧ 1 ≤ n ∧ n ≤ 4096 - s := by simpa [withinB] using h

def rightFrom : Int → List (Int × Int) → Bool
  | _, [] => true
  | low, (s, n) :: r => withinB s n && decide (low ≤ s) && rightFrom (s + n + 1) r

end Go.Proofs.Ythnncohkdgaipaa
