/- Blocks of 4096 bools: what is read, stored and laid in them. -/
import Derived.Test.YtlbglcmajbhflaaSpanB
namespace Go.Proofs.Ytlbglcmajbhflaa
open Go.ChangeShapes Go.WideShapes Go.ChangeAt Go.RowKit

/-- an array of 4096 bools -/
def bools (f : Nat → Bool) : Array Value := ((List.range 4096).map fun i => Value.bool (f i)).toArray

theorem bools_size (f : Nat → Bool) : (bools f).size = 4096 := by simp [bools]

theorem bools_get (f : Nat → Bool) {i : Nat} (h : i < 4096) : (bools f)[i]? = some (.bool (f i)) := by
  simp [bools, h]

theorem bools_none : Array.replicate 4096 (Value.bool false) = bools fun _ => false := by
  apply Array.ext
  · simp [bools]
  · intro i h1 h2
    simp [bools]

theorem zero48 (w : World) : Sem.run Try.prog (zeroValue 76) w = .ok (.agg (bools fun _ => false)) w := by
  rw [← bools_none]
  kernel_rfl

theorem zero47 (w : World) : Sem.run Try.prog (zeroValue 48) w = .ok (.agg (bools fun _ => false)) w := by
  rw [← bools_none]
  kernel_rfl

theorem bools_set (f : Nat → Bool) (i : Nat) (v : Bool) : (bools f).setIfInBounds i (.bool v) = bools fun j => if j = i then v else f j := by
  apply Array.ext_getElem?
  intro k
  rw [Array.getElem?_setIfInBounds]
  by_cases hk : k < 4096
  · rw [bools_get _ hk, bools_get _ hk]
    by_cases e : i = k
    · subst e; simp [bools_size, hk]
    · have : ¬ k = i := fun h => e h.symm
      simp [e, this]
  · rw [Array.getElem?_eq_none (by rw [bools_size]; omega), Array.getElem?_eq_none (by rw [bools_size]; omega)]
    split <;> simp_all [bools_size]

/-- a block that is such an array -/
def Marked (w : World) (B T : Nat) (f : Nat → Bool) : Prop := w.heap[B]? = some (.cells (bools f) T (0, 0))

theorem Marked.cell {w : World} {B T : Nat} {f : Nat → Bool} (h : Marked w B T f) {i : Nat} (hi : i < 4096) : w.cell? ⟨B, i, none⟩ = some (.bool (f i)) := by
  rw [cell_of_row w B i _ _ _ h, bools_get f hi]

theorem Marked.frozen {w : World} {B T : Nat} {f : Nat → Bool} (h : Marked w B T f) (i : Nat) : w.frozen? ⟨B, i, none⟩ = false := frozen_of_row w B i _ _ h

theorem Marked.lt {w : World} {B T : Nat} {f : Nat → Bool} (h : Marked w B T f) : B < w.heap.size := by
  unfold Marked at h
  by_cases hb : B < w.heap.size
  · exact hb
  · rw [Array.getElem?_eq_none (by omega)] at h; simp at h

theorem Marked.below {w w' : World} {B T D : Nat} {f : Nat → Bool} (h : Marked w B T f) (hb : Below D w w') (hD : B < D) : Marked w' B T f := by
  unfold Marked at *
  rw [hb.block B hD, h]

theorem Marked.new (w : World) (T : Nat) (f : Nat → Bool) : Marked (w.alloc (.cells (bools f) T)) w.heap.size T f := heap_alloc_new w _

theorem Marked.alloc {w : World} {B T : Nat} {f : Nat → Bool} (h : Marked w B T f) (o : Obj) : Marked (w.alloc o) B T f := by
  unfold Marked at *
  rw [Below.heap_alloc w o B (Marked.lt h), h]

theorem Marked.set {w : World} {B T : Nat} {f : Nat → Bool} (h : Marked w B T f) (i : Nat) (v : Bool) : Marked (w.setCell ⟨B, i, none⟩ (.bool v)) B T fun j => if j = i then v else f j := by
  unfold Marked at *
  rw [heap_setCell_same w B i _ _ _ h, bools_set]

theorem Marked.other {w : World} {B T : Nat} {f : Nat → Bool} (h : Marked w B T f) {a : Addr} (v : Value) (ha : B ≠ a.block) : Marked (w.setCell a v) B T f := by
  unfold Marked at *
  rw [heap_setCell_other w a B v ha, h]

theorem Marked.drew {w : World} {B T : Nat} {f : Nat → Bool} (h : Marked w B T f) : Marked w.drew B T f := h


theorem bools_one (f : Nat → Bool) : ∀ v ∈ (bools f).toList, v.oneCell' = true := by
  intro v hv
  simp only [bools, List.mem_map] at hv
  obtain ⟨i, _, rfl⟩ := hv
  rfl

theorem store_bools {P : Program} {w : World} {B T : Nat} {f : Nat → Bool} (h : Marked w B T f) (g : Nat → Bool) : (storeCells ⟨B, 0, none⟩ (bools g).toList).run P w = .ok () (w.setRow B (bools g)) := by
  have hg := run_storeCells_at P B 0 T (bools g).toList 0 (bools f) w h (by simp [bools_size]) (bools_one g)
  have e : ((bools f).toList.take (0 + 0) ++ (bools g).toList ++ (bools f).toList.drop (0 + 0 + (bools g).toList.length)).toArray = bools g := by
    rw [Nat.add_zero, List.take_zero, List.drop_of_length_le (by simp [bools_size]), List.nil_append, List.append_nil, Array.toArray_toList]
  rw [hg, e]

theorem store_bools_new {P : Program} (w : World) (T : Nat) (f g : Nat → Bool) : (storeCells ⟨w.heap.size, 0, none⟩ (bools g).toList).run P (w.alloc (.cells (bools f) T)) = .ok () (w.alloc (.cells (bools g) T)) := by
  rw [store_bools (Marked.new w T f)]
  have e : ((w.alloc (.cells (bools f) T)).setRow w.heap.size (bools g)).heap = (w.alloc (.cells (bools g) T)).heap := ?_
  · show Result.ok () { (w.alloc (.cells (bools f) T)) with heap := ((w.alloc (.cells (bools f) T)).setRow w.heap.size (bools g)).heap } = _
    rw [e]
    rfl
  unfold World.setRow World.alloc
  apply Array.ext_getElem?
  intro k
  rw [Array.getElem?_modify]
  by_cases hk : w.heap.size = k
  · subst hk; simp
  · have hk' : k ≠ w.heap.size := fun e => hk e.symm
    simp [hk, hk', Array.getElem?_push]

theorem Marked.setRow {w : World} {B T : Nat} {f : Nat → Bool} (h : Marked w B T f) (g : Nat → Bool) : Marked (w.setRow B (bools g)) B T g := setRow_heap w B _ _ T _ h

theorem below_setRow' {D : Nat} {a w : World} (h : Below D a w) (B : Nat) (cs : Array Value) (hB : D ≤ B) : Below D a (w.setRow B cs) :=
  ⟨h.os, h.tape, h.output, by simpa using h.size, fun k hk => by rw [setRow_other w B k cs (by omega)]; exact h.block k hk⟩

end Go.Proofs.Ytlbglcmajbhflaa
