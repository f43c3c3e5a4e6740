/- The document's own device: power, Break, New. -/
import Derived.Test.YtfpacnokecfhmaaRefB
namespace Go.Proofs.Ytfpacnokecfhmaa
open Go.ChangeShapes Go.WideShapes Go.ChangeAt Go.RowKit
set_option linter.unusedVariables false

/-- what is left behind asking for power, as the document's own device has it -/
def refLeft (f : Int) : Int := if 0 < f then f - 1 else f

/-- a device's five cells -/
def devL (so : Option Addr) (n sc : Nat) (po : Option Addr) (np pc : Nat) (ops f : Int) (dd : Bool) : List Value := [.slice so n sc, .slice po np pc, .int .i64 ops, .int .i64 f, .bool dd]
section
variable {so : Option Addr} {n sc : Nat} {po : Option Addr} {np pc : Nat} {ops f : Int} {dd : Bool}
theorem devL_one : ∀ v ∈ devL so n sc po np pc ops f dd, v.oneCell' = true := by
  intro v hv
  simp only [devL, List.mem_cons, List.not_mem_nil, or_false] at hv
  rcases hv with rfl | rfl | rfl | rfl | rfl <;> rfl
theorem infoDev5 : (Try.prog.info? 30).map (·.size) = some (devL so n sc po np pc ops f dd).length := by
  rw [show (devL so n sc po np pc ops f dd).length = 5 from rfl]; kernel_rfl
theorem rowDev {w : World} {g : Nat} {t : TypeId} (h : Blk w g t (devL so n sc po np pc ops f dd)) : RowRes Try.prog w 30 (.pointer (some ⟨g, 0, none⟩)) (devL so n sc po np pc ops f dd) :=
  ⟨⟨g, t, rfl, h⟩, ⟨_, Try.underlying30, rfl⟩, infoDev5⟩
end
theorem two_new (w : World) (o : Obj) (t : TypeId) (cs : List Value) : Blk ((w.alloc o).alloc (.cells cs.toArray t)) (w.heap.size + 1) t cs := by
  have := Blk.new (w.alloc o) t cs
  simpa using this
theorem two_below (w : World) (o o' : Obj) : Below w.heap.size w ((w.alloc o).alloc o') := ((Below.refl _ _).alloc (Nat.le_refl _) _).alloc (by simp) _

set_option maxHeartbeats 400000 in
theorem power_no (so : Option Addr) (n sc : Nat) (po : Option Addr) (np pc : Nat) (ops f : Int) (dd : Bool) (h : dd = true ∨ f = 0) (w : World) :
    Calls Try.prog 35 #[.agg #[.slice so n sc, .slice po np pc, .int .i64 ops, .int .i64 f, .bool dd]] w fun e w' =>
      e = .returned (.tuple #[.agg (devL so n sc po np pc ops f true).toArray, .bool false]) ∧ Below w.heap.size w w' := by
  cases dd
  · obtain rfl : f = 0 := by simpa using h
    go_enter Try.func35, Try.ntmps35
    go_wp2
    refine bodyPost_ret (results_row_tmp rfl (rowDev (two_new w _ _ (devL so n sc po np pc ops 0 true)))) rfl ⟨rfl, two_below _ _ _⟩
  · go_enter Try.func35, Try.ntmps35
    go_wp2
    refine bodyPost_ret (results_row_tmp rfl (rowDev (two_new w _ _ (devL so n sc po np pc ops f true)))) rfl ⟨rfl, two_below _ _ _⟩

set_option maxHeartbeats 400000 in
theorem power_yes (so : Option Addr) (n sc : Nat) (po : Option Addr) (np pc : Nat) (ops f f' : Int) (h0 : f ≠ 0) (hf : -1 ≤ f ∧ f ≤ 9223372036854775807) (he : Hid (f' = refLeft f)) (w : World) :
    Calls Try.prog 35 #[.agg #[.slice so n sc, .slice po np pc, .int .i64 ops, .int .i64 f, .bool false]] w fun e w' =>
      e = .returned (.tuple #[.agg (devL so n sc po np pc ops f' false).toArray, .bool true]) ∧ Below w.heap.size w w' := by
  by_cases h1 : 0 < f
  · go_enter Try.func35, Try.ntmps35
    go_wp2
    refine bodyPost_ret (results_row_tmp rfl (rowDev (two_new w _ _ (devL so n sc po np pc ops (f - 1) false)))) rfl ⟨?_, two_below _ _ _⟩
    rw [he.out, refLeft, if_pos h1]
    rfl
  · go_enter Try.func35, Try.ntmps35
    go_wp2
    refine bodyPost_ret (results_row_tmp rfl (rowDev (two_new w _ _ (devL so n sc po np pc ops f false)))) rfl ⟨?_, two_below _ _ _⟩
    rw [he.out, refLeft, if_neg (by omega)]
    rfl

set_option maxHeartbeats 400000 in
theorem rBreak_any (so : Option Addr) (n sc : Nat) (po : Option Addr) (np pc : Nat) (ops f : Int) (dd : Bool) (x y : Int) (hx : I64 x) (hy : Hid (y = max x (-1))) (w : World) :
    Calls Try.prog 20 #[.agg #[.slice so n sc, .slice po np pc, .int .i64 ops, .int .i64 f, .bool dd], .int .i64 x] w fun e w' =>
      e = .returned (.agg (devL so n sc po np pc ops y dd).toArray) ∧ Below w.heap.size w w' := by
  unfold I64 at hx
  by_cases h0 : x < 0
  · go_enter Try.func20, Try.ntmps20
    go_wp2
    refine bodyPost_ret (results_row rfl (rowDev (two_new w _ _ (devL so n sc po np pc ops (-1) dd)))) rfl ⟨?_, two_below _ _ _⟩
    rw [hy.out, show max x (-1) = -1 from by omega]
  · go_enter Try.func20, Try.ntmps20
    go_wp2
    refine bodyPost_ret (results_row rfl (rowDev (two_new w _ _ (devL so n sc po np pc ops x dd)))) rfl ⟨?_, two_below _ _ _⟩
    rw [hy.out, show max x (-1) = x from by omega]

set_option maxHeartbeats 400000 in
theorem rNew_any (x : Int) (k : Nat) (hx : I64 x) (hk : Hid (DevM.newLen x = k)) (w : World) :
    Calls Try.prog 12 #[.int .i64 x] w fun e w' =>
      ∃ so, e = .returned (.agg (devL so k k none 0 0 0 (-1) false).toArray) ∧ (∃ g, so = some ⟨g, 0, none⟩ ∧ w.heap.size ≤ g) ∧ Reads w' so (rowsL secL (List.replicate k sec0)) ∧ Below w.heap.size w w' := by
  unfold I64 at hx
  have hk' : k ≤ 1024 := by rw [← hk.out]; unfold DevM.newLen; omega
  by_cases h0 : x < 0
  · obtain rfl : k = 0 := by rw [← hk.out]; unfold DevM.newLen; omega
    have hm0 : ∀ w : World, (Instr.makeSlice 27 (.int .i64 0) (.int .i64 0)).run Try.prog w = .ok (.slice (some ⟨w.heap.size, 0, none⟩) 0 0) (w.alloc (.cells (rowsL secL (List.replicate 0 sec0)).toArray 33)) := fun w => make_secs 0 (by omega) w
    generalize rowsL secL (List.replicate 0 sec0) = R at *
    go_enter Try.func12, Try.ntmps12
    go_wp2
    refine bodyPost_ret (results_row rfl (rowDev ((Blk.new w _ (devL (some ⟨w.heap.size + 1, 0, none⟩) 0 0 none 0 0 0 (-1) false)).alloc _))) rfl ⟨_, rfl, ⟨_, rfl, by omega⟩, Reads.of_blk (two_new w _ _ R), two_below _ _ _⟩
  by_cases h1 : 1024 < x
  · obtain rfl : k = 1024 := by rw [← hk.out]; unfold DevM.newLen; omega
    have hm0 : ∀ w : World, (Instr.makeSlice 27 (.int .i64 1024) (.int .i64 1024)).run Try.prog w = .ok (.slice (some ⟨w.heap.size, 0, none⟩) 1024 1024) (w.alloc (.cells (rowsL secL (List.replicate 1024 sec0)).toArray 33)) := fun w => make_secs 1024 (by omega) w
    generalize rowsL secL (List.replicate 1024 sec0) = R at *
    go_enter Try.func12, Try.ntmps12
    go_wp2
    refine bodyPost_ret (results_row rfl (rowDev ((Blk.new w _ (devL (some ⟨w.heap.size + 1, 0, none⟩) 1024 1024 none 0 0 0 (-1) false)).alloc _))) rfl ⟨_, rfl, ⟨_, rfl, by omega⟩, Reads.of_blk (two_new w _ _ R), two_below _ _ _⟩
  · obtain rfl : x = (k : Int) := by have := hk.out; unfold DevM.newLen at this; omega
    have hm0 := fun w : World => make_secs k (by omega) w
    have i1 : (0 : Int) ≤ (k : Int) := by omega
    have i2 : (k : Int) ≤ 1024 := by omega
    clear hk h0 h1
    generalize rowsL secL (List.replicate k sec0) = R at *
    go_enter Try.func12, Try.ntmps12
    go_wp2
    refine bodyPost_ret (results_row rfl (rowDev ((Blk.new w _ (devL (some ⟨w.heap.size + 1, 0, none⟩) k k none 0 0 0 (-1) false)).alloc _))) rfl ⟨_, rfl, ⟨_, rfl, by omega⟩, Reads.of_blk (two_new w _ _ R), two_below _ _ _⟩
end Go.Proofs.Ytfpacnokecfhmaa
