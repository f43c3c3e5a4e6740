/- A pointer's bytes are its own, and back; a pointer that lies in memory. -/
import Derived.Test.YtkapdagmffbbhaaPtrD
import Derived.Test.YtkapdagmffbbhaaCall
namespace Go.Proofs.Ytkapdagmffbbhaa
open Go.ChangeShapes Go.WideShapes Go.ChangeAt Go.RowKit Go.Deep Go.Joins
set_option linter.unusedVariables false
set_option maxRecDepth 20000
set_option linter.unusedSimpArgs false

theorem p3Of_bytes {p : P3} (hp : p.Fit) (h : p.rightB = true) : p3Of p.bytes = p := by
  obtain ⟨h0, h1, h2, _⟩ := rightB_bounds h
  obtain ⟨_, hb, hs⟩ := hp
  have e1 : p.bytes.take 4 = leB 4 p.a.toNat := by
    unfold P3.bytes
    rw [List.take_append_of_le_length (by simp [leB_length]), List.take_of_length_le (by simp [leB_length])]
  have e2 : p.bytes.drop 4 = leB 8 p.b ++ leB 4 p.s := by
    unfold P3.bytes
    have := List.drop_left (l₁ := leB 4 p.a.toNat) (l₂ := leB 8 p.b ++ leB 4 p.s)
    rwa [leB_length] at this
  have e3 : (p.bytes.drop 4).take 8 = leB 8 p.b := by
    rw [e2, List.take_append_of_le_length (by simp [leB_length]), List.take_of_length_le (by simp [leB_length])]
  have e4 : p.bytes.drop 12 = leB 4 p.s := by
    have : p.bytes.drop 12 = (p.bytes.drop 4).drop 8 := by rw [List.drop_drop]
    rw [this, e2]
    have := List.drop_left (l₁ := leB 8 p.b) (l₂ := leB 4 p.s)
    rwa [leB_length] at this
  unfold p3Of
  rw [e1, e3, e4, valB_leB 4 _ (by simp; omega), valB_leB 8 _ (by simpa using hb), valB_leB 4 _ (by simpa using hs)]
  exact P3.ext' (by show ((p.a.toNat : Nat) : Int) = p.a; omega) rfl rfl

theorem p3O_bytes {p : P3} (hp : p.Fit) (h : p.rightB = true) : p3O p.bytes = some p := by
  unfold p3O
  rw [p3Of_bytes hp h, if_pos ⟨p.bytes_length, h⟩]

theorem bytes_p3Of {bs : List UInt8} (h : bs.length = 16) : (p3Of bs).bytes = bs := by
  unfold p3Of P3.bytes
  dsimp only
  have e1 := leB_valB (bs.take 4)
  have e2 := leB_valB ((bs.drop 4).take 8)
  have e3 := leB_valB (bs.drop 12)
  rw [show (bs.take 4).length = 4 from by simp; omega] at e1
  rw [show ((bs.drop 4).take 8).length = 8 from by simp; omega] at e2
  rw [show (bs.drop 12).length = 4 from by simp; omega] at e3
  rw [Int.toNat_natCast, e1, e2, e3]
  have : bs.drop 12 = (bs.drop 4).drop 8 := by rw [List.drop_drop]
  rw [this, List.take_append_drop, List.take_append_drop]

theorem p3O_some {bs : List UInt8} {r : P3} (h : p3O bs = some r) : r.bytesO = some bs ∧ r.Fit ∧ bs.length = 16 := by
  unfold p3O at h
  split at h
  · rename_i hc
    cases h
    refine ⟨?_, P3.fit_of hc.1, hc.1⟩
    unfold P3.bytesO
    rw [hc.2, if_pos rfl, bytes_p3Of hc.1]
  · cases h

theorem bytes_inj {p q : P3} (hp : p.Fit) (hq : q.Fit) (h : p.rightB = true) (h' : q.rightB = true) (e : p.bytes = q.bytes) : p = q := by
  rw [← p3Of_bytes hp h, ← p3Of_bytes hq h', e]

theorem eqPtr (w : World) (p q : P3) : (Op.equalIn 10000 30 (.agg #[.int .i64 p.a, .int .u64 (p.b : Int), .int .u32 (p.s : Int)]) (.agg #[.int .i64 q.a, .int .u64 (q.b : Int), .int .u32 (q.s : Int)])).run Try.prog w = .ok (p.eqB q) w := by
  go_simp
  unfold P3.eqB
  by_cases h1 : p.a = q.a <;> by_cases h2 : p.b = q.b <;> by_cases h3 : p.s = q.s <;> simp [h1, h2, h3, Int.natCast_inj]

/-- a pointer that lies in a block of its own -/
def PtrAt (w : World) (g : Nat) (p : P3) : Prop := Blk w g 30 (p3L p)
theorem PtrAt.cells {w : World} {g : Nat} {p : P3} (h : PtrAt w g p) : w.cell? ⟨g, 0, none⟩ = some (.int .i64 p.a) ∧ w.cell? ⟨g, 1, none⟩ = some (.int .u64 (p.b : Int)) ∧ w.cell? ⟨g, 2, none⟩ = some (.int .u32 (p.s : Int)) :=
  ⟨Blk.cell h 0, Blk.cell h 1, Blk.cell h 2⟩
theorem PtrAt.below {w w' : World} {B g : Nat} {p : P3} (h : PtrAt w g p) (hb : Below B w w') (hg : g < B) : PtrAt w' g p := Blk.below h hb hg
theorem PtrAt.next {w w' : World} {g : Nat} {p : P3} (h : PtrAt w g p) (hb : Below w.heap.size w w') : PtrAt w' g p := Blk.below h hb (Blk.lt h)
theorem PtrAt.drew {w : World} {g : Nat} {p : P3} (h : PtrAt w g p) : PtrAt w.drew g p := h
theorem PtrAt.range {w : World} {g : Nat} {p : P3} (h : PtrAt w g p) : w.rangeAt g 0 [.int .i64 p.a, .int .u64 (p.b : Int), .int .u32 (p.s : Int)] := Blk.range h (fun j v hv => by rw [Nat.zero_add]; exact hv)
theorem PtrAt.first (w : World) (p : P3) : PtrAt (w.alloc (.cells #[.int .i64 p.a, .int .u64 (p.b : Int), .int .u32 (p.s : Int)] 30)) w.heap.size p := Blk.newA w 30 _
theorem PtrAt.alloc {w : World} {g : Nat} {p : P3} (h : PtrAt w g p) (o : Obj) : PtrAt (w.alloc o) g p := Blk.alloc h o

theorem BRes.out {n : Int} {o : Option (List UInt8)} {w w' : World} {e : Ending} (h : BRes n o w e w') :
    ∃ (ao : Option Addr) (cap : Nat), e = .returned (.tuple #[.slice ao (o.getD []).length cap, .int .i64 (errI n o)]) ∧ Hid (Bytes w' ao (o.getD [])) ∧ (o.getD []).length ≤ cap ∧ Hid (ao = none → cap = 0) ∧ Below w.heap.size w w' := by
  obtain ⟨v, rfl, h1, h2⟩ := h
  obtain ⟨ao, cap, rfl, a1, a2, a3, a4, a5⟩ := h1.shapeN (n := (o.getD []).length) (by rw [bytesV_length])
  exact ⟨ao, cap, rfl, a4, a1, a3, h2⟩
end Go.Proofs.Ytkapdagmffbbhaa
