/- field.put lays a number's bytes behind others. -/
import Derived.Test.YtkapdagmffbbhaaRows
import Derived.Test.YtkapdagmffbbhaaNum
import Derived.Test.YtkapdagmffbbhaaBytes
namespace Go.Proofs.Ytkapdagmffbbhaa
open Go.ChangeShapes Go.WideShapes Go.ChangeAt Go.RowKit
set_option linter.unusedVariables false
set_option maxRecDepth 20000

theorem two_pow_cast (k : Nat) : (2 : Int) ^ (8 * k) = ((256 ^ k : Nat) : Int) := by
  rw [← two_pow_8 k, Int.natCast_pow]; rfl

theorem put_byte (z k : Nat) : Value.int .u8 ((z : Int) / 2 ^ (8 * k) % 256) = byteV (UInt8.ofNat (z / 256 ^ k % 256)) := by
  unfold byteV
  congr 1
  rw [two_pow_cast, ← Int.natCast_ediv]
  rw [show (256 : Int) = ((256 : Nat) : Int) from rfl, ← Int.natCast_emod]
  congr 1
  simp

set_option maxHeartbeats 1000000 in
theorem fPut_any (base : Nat) (v : Value) (bs : List UInt8) (width z : Nat) (w : World) (hown : Own w base 5 v (bytesV bs)) (hbase : base ≤ w.heap.size) (hw : width ≤ 8) (hz : z < 18446744073709551616) (hl : bs.length + 8 ≤ 140737488355328) :
    Calls Try.prog 33 #[v, .int .i64 (width : Int), .int .u64 (z : Int)] w fun e w' => ∃ v', e = .returned v' ∧ Own w' base 5 v' (bytesV (bs ++ leB width z)) ∧ Grew w w' v v' := by
  obtain ⟨i0, hi, hz0, hz1, hz2⟩ := info_parts infoU8
  have hown := Lib.hid hown
  go_enter Try.func33, Try.ntmps33
  go_wp2
  go_loopw [0, 7, 9] (fun b i j wr => ∃ k : Nat, k ≤ width ∧ j = .int .i64 k ∧ Own wr base 5 b (bytesV (bs ++ leB k z)) ∧ Grew w wr v b)
    (fun _ _ j _ => width - (intOf j).toNat)
  case atStart => exact ⟨0, by omega, rfl, by simpa [leB] using hown.out, Grew.refl _ _⟩
  case round =>
    obtain ⟨k, hk, rfl, ho, hg⟩ := hrel
    by_cases hlt : k < width
    · have ho := Lib.hid ho
      have hsz := hg.size
      have hg := Lib.hid hg
      go_wp2_with (at_builtin; go_loud (refine wpList_own_push rfl _ _ 46 rfl base 5 i0 (.int .u8 0) 1 Try.underlying46 hi hz0 hz1 hz2 rfl u0 _ wr rfl ho.out 1 (.int .u8 ((z : Int) / 2 ^ (8 * k) % 256)) rfl rfl (by simp [bytesV_length, leB_length]; omega) (by simp [bytesV_length, leB_length]; omega) (by omega) ?_); intro v' w' ho' hg'; have ho' := Lib.hid ho'; have hg' := Lib.hid hg')
      go_roundw
      case rel => exact ⟨k + 1, by omega, by go_num, (by have := ho'.out; rw [put_byte] at this; simpa [leB_snoc, bytesV] using this), hg.out.trans hg'.out⟩
      case measure => simp [intOf] <;> omega
    · obtain rfl : k = width := by omega
      go_wp2
      go_ret
      exact ⟨_, rfl, ho, hg⟩
end Go.Proofs.Ytkapdagmffbbhaa
