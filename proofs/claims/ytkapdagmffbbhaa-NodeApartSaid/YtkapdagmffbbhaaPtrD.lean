/- The chapter's example holds; how a pointer reads that came in. -/
import Derived.Test.YtkapdagmffbbhaaPtrC
import Derived.Lib.SmallJoins
namespace Go.Proofs.Ytkapdagmffbbhaa
open Go.ChangeShapes Go.WideShapes Go.ChangeAt Go.RowKit Go.Deep Go.Joins
set_option linter.unusedVariables false
set_option maxRecDepth 20000
set_option linter.unusedSimpArgs false

theorem u64_wf {z : Nat} (h : z < 18446744073709551616) : (Lit.int .u64 (z : Int)).wf = true := by
  simp [Lit.wf, IntKind.min, IntKind.max, IntKind.signed, IntKind.bits]; omega
theorem u32_wf {z : Nat} (h : z < 4294967296) : (Lit.int .u32 (z : Int)).wf = true := by
  simp [Lit.wf, IntKind.min, IntKind.max, IntKind.signed, IntKind.bits]; omega
theorem i64_wf {z : Int} (h : I64 z) : (Lit.int .i64 z).wf = true := by
  unfold I64 at h
  simp [Lit.wf, IntKind.min, IntKind.max, IntKind.signed, IntKind.bits]; omega

def p3D {H : Type} (p : P3) : DataW H := .agg [.lit (.int .i64 p.a), .lit (.int .u64 (p.b : Int)), .lit (.int .u32 (p.s : Int))]

section
variable {H : Type} {enc : TypeId × Value → H} {W : World} {base : Nat} {v : Value} {d : DataW H} {ps : List MemPlace}
theorem cellsPtr : Try.prog.cellsOf 30 = 3 := by kernel_rfl
theorem open_ptr (hv : Value.okWide Try.prog W .any base 30 v) (h : DataW.Trod enc Try.prog W 0 (fun _ => true) true 30 v d ps) :
    ∃ p : P3, v = p3V p ∧ d = p3D p ∧ ps = [] ∧ p.Fit := by
  obtain ⟨v0, v1, v2, y0, y1, y2, n, rfl, rfl, rfl, t0, t1, t2⟩ := open_agg3 Try.underlying30 (by kernel_rfl) cellsPtr hv h
  obtain ⟨a, e0, rfl, wa⟩ := DataW.trod_int Try.underlying3 t0
  obtain ⟨b, e1, rfl, wb⟩ := DataW.trod_int Try.underlying27 t1
  obtain ⟨s, e2, rfl, ws⟩ := DataW.trod_int Try.underlying28 t2
  cases e0; cases e1; cases e2
  obtain ⟨b', rfl, hb⟩ := nat_u64 wb
  obtain ⟨s', rfl, hs⟩ := nat_u32 ws
  exact ⟨⟨a, b', s'⟩, rfl, rfl, rfl, wf_i64 wa, hb, hs⟩
theorem shut_ptr {spare : Nat → Bool} {held : Bool} {p : P3} (hf : p.Fit) : DataW.Trod enc Try.prog W base spare held 30 (p3V p) (p3D p) [] := by
  have := shut_agg3 (enc := enc) (w := W) (base := base) (spare := spare) (held := held) Try.underlying30 (by kernel_rfl) cellsPtr
    ⟨1, trod_int_mk 0 Try.underlying3 (i64_wf hf.1)⟩ ⟨1, trod_int_mk 0 Try.underlying27 (u64_wf hf.2.1)⟩ ⟨1, trod_int_mk 0 Try.underlying28 (u32_wf hf.2.2)⟩
  exact this
end

/-- a cell stays behind a call that leaves all cells -/
theorem keepCell {w w1 : World} {p : Addr} {v : Value} (hb : Below w.heap.size w w1) (c : w.cell? p = some v) : w1.cell? p = some v := (hb.cell (cell_lt c)).trans c

theorem BRes.yes {n : Int} {o : Option (List UInt8)} {w w' : World} {e : Ending} (h : BRes n o w e w') {x : List UInt8} (ho : o = some x) {m : Nat} (hm : x.length = m) :
    ∃ (ao : Option Addr) (cap : Nat), e = .returned (.tuple #[.slice ao m cap, .int .i64 0]) ∧ Hid (Bytes w' ao x) ∧ m ≤ cap ∧ cap ≤ 9223372036854775807 ∧ Hid (ao = none → cap = 0) ∧ Below w.heap.size w w' := by
  subst ho
  obtain ⟨v, rfl, h1, h2⟩ := h
  obtain ⟨ao, cap, rfl, a1, a2, a3, a4, a5⟩ := h1.shapeN (n := m) (by rw [bytesV_length]; exact hm)
  exact ⟨ao, cap, rfl, a4, a1, a2, a3, h2⟩
theorem BRes.nope {n : Int} {o : Option (List UInt8)} {w w' : World} {e : Ending} (h : BRes n o w e w') (ho : o = none) :
    ∃ (ao : Option Addr) (cap : Nat), e = .returned (.tuple #[.slice ao 0 cap, .int .i64 n]) ∧ Hid (Bytes w' ao []) ∧ Hid (ao = none → cap = 0) ∧ Below w.heap.size w w' := by
  subst ho
  obtain ⟨v, rfl, h1, h2⟩ := h
  obtain ⟨ao, cap, rfl, a1, a2, a3, a4, a5⟩ := h1.shapeN (n := 0) rfl
  exact ⟨ao, cap, rfl, a4, a3, h2⟩

theorem RRes.yes {n : Int} {o : Option P3} {w w' : World} {e : Ending} (h : RRes n o w e w') {p : P3} (ho : o = some p) :
    e = .returned (.tuple #[.agg #[.int .i64 p.a, .int .u64 (p.b : Int), .int .u32 (p.s : Int)], .int .i64 0]) ∧ Below w.heap.size w w' := by
  subst ho; exact h
theorem RRes.nope {n : Int} {o : Option P3} {w w' : World} {e : Ending} (h : RRes n o w e w') (ho : o = none) :
    e = .returned (.tuple #[.agg #[.int .i64 0, .int .u64 0, .int .u32 0], .int .i64 n]) ∧ Below w.heap.size w w' := by
  subst ho; exact h

end Go.Proofs.Ytkapdagmffbbhaa
