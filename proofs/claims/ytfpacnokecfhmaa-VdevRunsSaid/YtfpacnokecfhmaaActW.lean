/- Acts in memory; what the laws of a device lean on. -/
import Derived.Test.YtfpacnokecfhmaaActs
import Derived.Test.YtfpacnokecfhmaaWant
import Derived.Deep.Cut
namespace Go.Proofs.Ytfpacnokecfhmaa
open Go.ChangeShapes Go.WideShapes Go.ChangeAt Go.RowKit
set_option linter.unusedVariables false

theorem ActOk.below {w w' : World} {a : ActM} (h : ActOk w a) (hb : Below w.heap.size w w') : ActOk w' a := ⟨h.kind, h.at_, h.keep.below hb, h.cap, h.nil, fun b e hn => Nat.lt_of_lt_of_le (h.low b e hn) hb.size⟩
theorem Acts.below {w w' : World} {ao : Option Addr} {as_ : List ActM} (h : Acts w ao as_) (hb : Below w.heap.size w w') : Acts w' ao as_ := ⟨h.cells.below hb, fun a ha => (h.each a ha).below hb⟩
theorem Acts.range {w : World} {ao : Option Addr} {as_ : List ActM} (h : Acts w ao as_) {k : Nat} (hk : k < as_.length) : ∃ b off, ao = some ⟨b, off, none⟩ ∧ b < w.heap.size ∧ w.rangeAt b (off + k * 131) (actL as_[k]) := by
  have hl : (rowsL actL as_).length = as_.length * 131 := rowsL_length actL_length _
  obtain ⟨b, off, e, _, hb⟩ := h.cells.at (k := k * 131) (by omega)
  refine ⟨b, off, e, hb, fun j v hv => ?_⟩
  have hj : j < 131 := by rw [← actL_length as_[k]]; exact (List.getElem?_eq_some_iff.1 hv).1
  have h1 := rowsL_at actL_length as_ k hk j v hv
  obtain ⟨b', off', e', c', _⟩ := h.cells.at (k := k * 131 + j) (by omega)
  rw [e] at e'
  cases e'
  rw [Nat.add_assoc, c']
  obtain ⟨hlt, e2⟩ := List.getElem?_eq_some_iff.1 h1
  rw [← e2]
section
variable {w : World} {A : Nat} {t : TypeId} {a : ActM}
theorem act_c0 (h : Blk w A t (actL a)) : w.cell? ⟨A, 0, none⟩ = some (.int .i64 a.kind) := by rw [h.cell]; rfl
theorem act_c1 (h : Blk w A t (actL a)) : w.cell? ⟨A, 1, none⟩ = some (.int .i64 a.at_) := by rw [h.cell]; rfl
theorem act_r2 (h : Blk w A t (actL a)) : w.rangeAt A 2 (secL a.data) := h.range fun j v hv => by
  have hj : j < (secL a.data).length := (List.getElem?_eq_some_iff.1 hv).1
  rw [show 2 + j = j + 1 + 1 from by omega, actL, List.getElem?_cons_succ, List.getElem?_cons_succ, List.getElem?_append_left hj, hv]
theorem act_c3 (h : Blk w A t (actL a)) : w.cell? ⟨A, 130, none⟩ = some (.slice a.kao a.keep.length a.kcap) := by
  rw [h.cell, actL, show (130 : Nat) = 128 + 1 + 1 from rfl, List.getElem?_cons_succ, List.getElem?_cons_succ, List.getElem?_append_right (by rw [secL_length]; omega), secL_length]
  rfl
end
def act0 : ActM := ⟨0, 0, sec0, none, 0, []⟩
theorem zeroAct (w : World) : Sem.run Try.prog (zeroValue 36) w = .ok (.agg (actL act0).toArray) w := by kernel_rfl
theorem infoActL (a : ActM) : (Try.prog.info? 36).map (·.size) = some (actL a).length := by
  rw [actL_length]; kernel_rfl

/-- an object in the midst of a law: its blocks are the call's own, and none of these -/
structure Obj1 (B : Nat) (w : World) (d : Nat) (F : Nat → Prop) (m : DevM) (x : Nat) : Prop where
  dev : IsDev w d F m
  low : ∀ k, F k → B ≤ k
  not : ¬ F x
theorem Obj1.turned {B x : Nat} {w w' : World} {d : Nat} {F F' : Nat → Prop} {m m' : DevM} (h : Obj1 B w d F m x) (hB : B ≤ w.heap.size) (hx : x < w.heap.size) (h' : IsDev w' d F' m') (g : Grows w.heap.size F F') : Obj1 B w' d F' m' x :=
  ⟨h', g.low h.low hB, g.not h.not hx⟩
end Go.Proofs.Ytfpacnokecfhmaa
