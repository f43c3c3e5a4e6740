/- A device: New. -/
import Derived.Test.YtfpacnokecfhmaaVdevK
namespace Go.Proofs.Ytfpacnokecfhmaa
open Go.ChangeShapes Go.WideShapes Go.ChangeAt Go.RowKit
set_option linter.unusedVariables false

theorem secL_zero : secL sec0 = List.replicate 128 (.int .u8 0) := by
  unfold secL sec0 bytesV
  simp [byteV]
theorem rows_zero (n : Nat) : rowsL secL (List.replicate n sec0) = List.replicate (n * 128) (.int .u8 0) := by
  induction n with
  | zero => simp [rowsL]
  | succ n ih => rw [List.replicate_succ, rowsL_cons, ih, secL_zero, List.replicate_append_replicate]; congr 1; omega
theorem made_rep (v : Value) (c m : Nat) (hc : 0 < c) : (madeCells (List.replicate c v).toArray m).toList = List.replicate m v := by
  unfold madeCells
  apply List.ext_getElem
  · simp
  · intro i h1 h2
    have : i % c < c := Nat.mod_lt _ hc
    simp [this]
theorem made_zero (n : Nat) : madeCells (secL sec0).toArray (n * 128) = (rowsL secL (List.replicate n sec0)).toArray := by
  apply Array.ext'
  rw [rows_zero, secL_zero, made_rep _ _ _ (by omega)]
theorem infoSec3 : (Try.prog.info? 33).map (fun i => (i.zero, i.size, i.bytes)) = some (some (.agg (secL sec0).toArray), 128, 128) := by kernel_rfl
/-- make([]Sector, n, n) -/
theorem make_secs (n : Nat) (hn : n ≤ 1000000000) (w : World) : (Instr.makeSlice 27 (.int .i64 (n : Int)) (.int .i64 (n : Int))).run Try.prog w = .ok (.slice (some ⟨w.heap.size, 0, none⟩) n n) (w.alloc (.cells (rowsL secL (List.replicate n sec0)).toArray 33)) := by
  obtain ⟨i0, hi0, hz0, hz1, hz2⟩ := info_parts infoSec3
  have := run_make (P := Try.prog) w 27 33 i0 _ Try.underlying27 hi0 hz0 .i64 .i64 n n (by omega) (Int.le_refl _) (by rw [hz2]; omega) (by omega)
  rw [this, hz1]
  simp only [Int.toNat_natCast, Value.cells]
  rw [made_zero]

theorem fresh_at (w : World) (n : Nat) (hn : n ≤ 1024) (L : DevL) (hb : Blk w L.d 58 [.slice (some ⟨L.sb, 0, none⟩) n n, .slice (some ⟨L.nb, 0, none⟩) n n, L.pv, .int .i64 0, .int .i64 (-1), .bool false])
    (hs : Blk w L.sb 33 (rowsL secL (List.replicate n sec0))) (hw : Blk w L.nb 33 (rowsL secL (List.replicate n sec0))) (hp : L.pv = .slice none 0 0) (hne : L.sb ≠ L.nb) : DevAt w L (DevM.fresh n) := by
  have e1 : (List.replicate n sec0).length = n := List.length_replicate ..
  refine ⟨?_, hs, hw, by rw [hp]; exact World.ownsRow_nil _ _ _ _, hne, ⟨Nat.zero_le _, by show (-9223372036854775808 : Int) ≤ -1 ∧ (-1 : Int) ≤ 9223372036854775807; omega, ?_, fun p hp => by cases hp⟩⟩
  · show Blk w L.d _ [.slice _ (List.replicate n sec0).length (List.replicate n sec0).length, .slice _ (List.replicate n sec0).length (List.replicate n sec0).length, _, _, _, _]
    rw [e1]
    exact hb
  · show (List.replicate n sec0).length ≤ 1024
    rw [e1]; exact hn

theorem three_new (w : World) (A B C : List Value) (tA tB tC : TypeId) : Blk (((w.alloc (.cells A.toArray tA)).alloc (.cells B.toArray tB)).alloc (.cells C.toArray tC)).drew w.heap.size tA A ∧
    Blk (((w.alloc (.cells A.toArray tA)).alloc (.cells B.toArray tB)).alloc (.cells C.toArray tC)).drew (w.heap.size + 1) tB B ∧ Blk (((w.alloc (.cells A.toArray tA)).alloc (.cells B.toArray tB)).alloc (.cells C.toArray tC)).drew (w.heap.size + 2) tC C := by
  have e1 : (w.alloc (.cells A.toArray tA)).heap.size = w.heap.size + 1 := by simp
  have e2 : ((w.alloc (.cells A.toArray tA)).alloc (.cells B.toArray tB)).heap.size = w.heap.size + 2 := by simp
  refine ⟨(((Blk.new w tA A).alloc _).alloc _).drew, ?_, ?_⟩
  · have := ((Blk.new (w.alloc (.cells A.toArray tA)) tB B).alloc (.cells C.toArray tC)).drew
    rwa [e1] at this
  · have := (Blk.new ((w.alloc (.cells A.toArray tA)).alloc (.cells B.toArray tB)) tC C).drew
    rwa [e2] at this
theorem three_below (w : World) (A B C : Obj) : Below w.heap.size w (((w.alloc A).alloc B).alloc C) := (((Below.refl _ _).alloc (Nat.le_refl _) _).alloc (by simp) _).alloc (by simp; omega) _

set_option maxHeartbeats 1000000 in
theorem New_any (n : Int) (hn : I64 n) (w : World) : Calls Try.prog 10 #[.int .i64 n] w fun e w' => ∃ d F, e = .returned (.pointer (some ⟨d, 0, none⟩)) ∧ IsDev w' d F (DevM.fresh (DevM.newLen n)) ∧ (∀ k, F k → w.heap.size ≤ k) ∧ Below w.heap.size w w' := by
  unfold I64 at hn
  obtain ⟨k, hk, hz⟩ : ∃ k : Nat, k ≤ 1024 ∧ Hid (DevM.newLen n = k) := ⟨DevM.newLen n, by unfold DevM.newLen; omega, Lib.hid rfl⟩
  have hm := make_secs k (by omega)
  have key : ∀ (W : World) (a b : Nat), Blk W (w.heap.size + 2) 58 [.slice (some ⟨a, 0, none⟩) k k, .slice (some ⟨b, 0, none⟩) k k, .slice none 0 0, .int .i64 0, .int .i64 (-1), .bool false] → Blk W a 33 (rowsL secL (List.replicate k sec0)) → Blk W b 33 (rowsL secL (List.replicate k sec0)) →
      a ≠ b → w.heap.size ≤ a → w.heap.size ≤ b → Below w.heap.size w W → ∃ d F, Ending.returned (.pointer (some ⟨w.heap.size + 2, 0, none⟩)) = .returned (.pointer (some ⟨d, 0, none⟩)) ∧ IsDev W d F (DevM.fresh (DevM.newLen n)) ∧ (∀ k, F k → w.heap.size ≤ k) ∧ Below w.heap.size w W := by
    intro W a b h1 h2 h3 h4 h5 h6 h7
    rw [hz.out]
    refine ⟨_, DevL.foot ⟨w.heap.size + 2, a, b, .slice none 0 0⟩, rfl, ⟨⟨w.heap.size + 2, a, b, .slice none 0 0⟩, rfl, fresh_at W k hk _ h1 h2 h3 rfl h4, fun _ => id, (fresh_at W k hk _ h1 h2 h3 rfl h4).lt⟩, ?_, h7⟩
    rintro j (rfl | rfl | rfl | e)
    · exact Nat.le_add_right _ _
    · exact h5
    · exact h6
    · simp [Value.ownBlock] at e
  have key := Lib.hid key
  by_cases h0 : n < 0
  · have e0 : DevM.newLen n = 0 := by unfold DevM.newLen; omega
    obtain rfl : k = 0 := by rw [← hz.out, e0]
    have hm0 : ∀ w : World, (Instr.makeSlice 27 (.int .i64 0) (.int .i64 0)).run Try.prog w = .ok (.slice (some ⟨w.heap.size, 0, none⟩) 0 0) (w.alloc (.cells (rowsL secL (List.replicate 0 sec0)).toArray 33)) := fun w => make_secs 0 (by omega) w
    clear hm e0
    generalize rowsL secL (List.replicate 0 sec0) = R at *
    go_enter Try.func10, Try.ntmps10
    go_wp2
    go_region
    all_goals go_wp2
    all_goals go_ret
    · obtain ⟨b1, b2, b3⟩ := three_new w R R _ 33 33 58
      exact key.out _ _ _ b3 b1 b2 (by omega) (by omega) (by omega) (three_below w _ _ _).drew
    · obtain ⟨b1, b2, b3⟩ := three_new w R R _ 33 33 58
      exact key.out _ _ _ b3 b2 b1 (by omega) (by omega) (by omega) (three_below w _ _ _).drew
  by_cases h1 : 1024 < n
  · have e0 : DevM.newLen n = 1024 := by unfold DevM.newLen; omega
    obtain rfl : k = 1024 := by rw [← hz.out, e0]
    have hm0 : ∀ w : World, (Instr.makeSlice 27 (.int .i64 1024) (.int .i64 1024)).run Try.prog w = .ok (.slice (some ⟨w.heap.size, 0, none⟩) 1024 1024) (w.alloc (.cells (rowsL secL (List.replicate 1024 sec0)).toArray 33)) := fun w => make_secs 1024 (by omega) w
    clear hm e0
    generalize rowsL secL (List.replicate 1024 sec0) = R at *
    go_enter Try.func10, Try.ntmps10
    go_wp2
    go_region
    all_goals go_wp2
    all_goals go_ret
    · obtain ⟨b1, b2, b3⟩ := three_new w R R _ 33 33 58
      exact key.out _ _ _ b3 b1 b2 (by omega) (by omega) (by omega) (three_below w _ _ _).drew
    · obtain ⟨b1, b2, b3⟩ := three_new w R R _ 33 33 58
      exact key.out _ _ _ b3 b2 b1 (by omega) (by omega) (by omega) (three_below w _ _ _).drew
  · have e0 : n = (k : Int) := by have := hz.out; unfold DevM.newLen at this; omega
    subst e0
    have hm0 := fun w : World => make_secs k (by omega) w
    have i1 : (0 : Int) ≤ (k : Int) := by omega
    have i2 : (k : Int) ≤ 1024 := by omega
    clear hm h0 h1
    generalize rowsL secL (List.replicate k sec0) = R at *
    go_enter Try.func10, Try.ntmps10
    go_wp2
    go_region
    all_goals go_wp2
    all_goals go_ret
    · obtain ⟨b1, b2, b3⟩ := three_new w R R _ 33 33 58
      exact key.out _ _ _ b3 b1 b2 (by omega) (by omega) (by omega) (three_below w _ _ _).drew
    · obtain ⟨b1, b2, b3⟩ := three_new w R R _ 33 33 58
      exact key.out _ _ _ b3 b2 b1 (by omega) (by omega) (by omega) (three_below w _ _ _).drew
end Go.Proofs.Ytfpacnokecfhmaa
