/- A store into a row of the call's own; a make of zeros at its full length; what holds for every program. -/
import Derived.Test.YtkapdagmffbbhaaMem
namespace Go.Proofs.Ytkapdagmffbbhaa
open Go.ChangeShapes Go.WideShapes Go.ChangeAt Go.RowKit
set_option linter.unusedVariables false
set_option maxRecDepth 20000

section
variable {w w' : World} {base : Nat} {e : TypeId} {v : Value} {cs : List Value}
theorem Own.open (h : Own w base e v cs) (hne : 0 < cs.length) : ∃ g cap, v = .slice (some ⟨g, 0, none⟩) cs.length cap ∧ base ≤ g ∧ g < w.heap.size ∧ cs.length ≤ cap ∧ cap ≤ maxLen := by
  have hlt := World.ownsRow.lt h
  obtain ⟨hl, h | h⟩ := h
  · omega
  · obtain ⟨g, cap, cur, rfl, _, _, h1, h2, _⟩ := h
    exact ⟨g, cap, rfl, (hlt g rfl).1, (hlt g rfl).2, h1, h2⟩
variable {g n cap : Nat}
theorem Own.cell (h : Own w base e (.slice (some ⟨g, 0, none⟩) n cap) cs) {j : Nat} (hj : j < cs.length) : w.cell? ⟨g, j, none⟩ = some cs[j] := by
  obtain ⟨a, c, e1, _⟩ := h.shape
  injection e1 with _ e2 _
  subst e2
  rw [World.ownsRow.cellAt h j (by omega)]
  simp [hj]
theorem Own.frozen (h : Own w base e (.slice (some ⟨g, 0, none⟩) n cap) cs) (j : Nat) : w.frozen? ⟨g, j, none⟩ = false := by
  obtain ⟨a, c, e1, _⟩ := h.shape
  injection e1 with _ e2 _
  subst e2
  exact World.ownsRow.frozenAt h j
theorem Own.set (h : Own w base e (.slice (some ⟨g, 0, none⟩) n cap) cs) (j : Nat) (u : Value) : Own (w.setCell ⟨g, j, none⟩ u) base e (.slice (some ⟨g, 0, none⟩) n cap) (cs.set j u) := by
  obtain ⟨a, c, e1, _⟩ := h.shape
  injection e1 with _ e2 _
  subst e2
  unfold Own
  rw [List.length_set]
  exact (World.ownsRow.stored h j u).1
end

theorem bytesV_set (bs : List UInt8) (j : Nat) (y : UInt8) : (bytesV bs).set j (byteV y) = bytesV (bs.set j y) := by
  unfold bytesV; rw [List.map_set]

theorem bytesV_zeros (n : Nat) : (madeCells #[.int .u8 0] n).toList = bytesV (List.replicate n 0) := by
  rw [toList_madeCells_one]; unfold bytesV; rw [List.map_replicate]; rfl

/-- make([]byte, n) -/
theorem run_make_zeros {P : Program} (t e : TypeId) (i : TypeInfo) (ht : P.underlying t = some (.slice e)) (hi : P.info? e = some i) (hz : i.zero = some (.int .u8 0)) (hsize : i.size = 1) (hby : i.bytes = 1) (n : Nat) (hn : n ≤ 140737488355328) (w : World) :
    (Instr.makeSlice t (.int .i64 (n : Int)) (.int .i64 (n : Int))).run P w = .ok (.slice (some ⟨w.heap.size, 0, none⟩) n n) (w.alloc (.cells (madeCells #[.int .u8 0] n) e)) := by
  have := run_make (P := P) w t e i (.int .u8 0) ht hi hz .i64 .i64 n n (by omega) (Int.le_refl _) (by rw [hby]; omega) (by omega)
  simpa [hsize, Value.cells] using this
theorem Bytes.made (w : World) (e : TypeId) (n : Nat) : Bytes (w.alloc (.cells (madeCells #[.int .u8 0] n) e)) (some ⟨w.heap.size, 0, none⟩) (List.replicate n 0) := by
  unfold Bytes
  rw [← bytesV_zeros]
  intro i hi
  refine ⟨w.heap.size, 0, rfl, ?_⟩
  have hi' : i < (madeCells #[.int .u8 0] n).size := by simpa using hi
  rw [cell_of_row (w.alloc (.cells (madeCells #[.int .u8 0] n) e)) w.heap.size (0 + i) (madeCells #[.int .u8 0] n) e (0, 0) (heap_alloc_new w _)]
  simp only [Nat.zero_add, Array.getElem_toList]
  exact Array.getElem?_eq_getElem hi'
end Go.Proofs.Ytkapdagmffbbhaa
