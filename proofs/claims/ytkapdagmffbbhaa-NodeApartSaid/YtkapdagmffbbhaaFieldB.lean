/- field.get, the document's Value and Number. -/
import Derived.Test.YtkapdagmffbbhaaFieldA
namespace Go.Proofs.Ytkapdagmffbbhaa
open Go.ChangeShapes Go.WideShapes Go.ChangeAt Go.RowKit
set_option linter.unusedVariables false
set_option maxRecDepth 20000

theorem Bytes.at {w : World} {ao : Option Addr} {bs : List UInt8} (h : Bytes w ao bs) {k : Nat} (hk : k < bs.length) :
    ∃ b off, ao = some ⟨b, off, none⟩ ∧ w.cell? ⟨b, off + k, none⟩ = some (.int .u8 (bs[k].toNat : Int)) ∧ b < w.heap.size := by
  obtain ⟨b, off, e, c, hb⟩ := Reads.at h (k := k) (by simpa [bytesV_length] using hk)
  exact ⟨b, off, e, by rw [c]; simp [bytesV, byteV], hb⟩

theorem take_snoc_b {α : Type} (l : List α) (k : Nat) (h : k < l.length) : l.take (k + 1) = l.take k ++ [l[k]] := by
  rw [List.take_succ_eq_append_getElem h]

theorem get_step (bs : List UInt8) (k : Nat) (hk : k < bs.length) (hl : bs.length ≤ 8) :
    Value.int IntKind.u64 (bits BinOp.or IntKind.u64 (↑(valB (List.take k bs))) (IntKind.u64.wrap (IntKind.u64.wrap ↑bs[k].toNat * 2 ^ (8 * k)))) = Value.int IntKind.u64 ↑(valB (List.take (k + 1) bs)) := by
  have hx := bs[k].toNat_lt
  have hlen : (bs.take k).length = k := by simp; omega
  have h1 := valB_lt (bs.take k)
  rw [hlen] at h1
  have h2 := pow_le_64 (k := k) (by omega)
  have h3 := pow_le_64 (k := k + 1) (by omega)
  have h4 := valB_lt_64 (bs.take (k + 1)) (by simp; omega)
  have e := take_snoc_b bs k hk
  have e2 : valB (bs.take (k + 1)) = valB (bs.take k) + bs[k].toNat * 256 ^ k := by rw [e, valB_snoc, hlen]
  have h5 : bs[k].toNat * 256 ^ k < 18446744073709551616 := by omega
  congr 1
  rw [IntWalk.u64_in (bs[k].toNat : Int) (by omega), two_pow_cast, ← Int.natCast_mul, IntWalk.u64_in ((bs[k].toNat * 256 ^ k : Nat) : Int) (by omega), u64_or_nat _ _ (by omega) h5]
  congr 1
  rw [e2, Nat.or_comm, Nat.mul_comm, ← two_pow_8 k, ← Nat.two_pow_add_eq_or_of_lt (by rw [two_pow_8]; omega)]
  omega

set_option maxHeartbeats 1000000 in
theorem get_any (ao : Option Addr) (cap : Nat) (bs : List UInt8) (w : World) (hx : Bytes w ao bs) (hl : bs.length ≤ 8) :
    Calls Try.prog 34 #[.slice ao bs.length cap] w fun e w' => e = .returned (.int .u64 (valB bs : Int)) ∧ w = w' := by
  have hx := Lib.hid hx
  go_enter Try.func34, Try.ntmps34
  go_wp2
  go_loop [3, 4, 5, 8] (fun n i x j => ∃ k : Nat, k ≤ bs.length ∧ j = .int .i64 k ∧ n = .int .u64 (valB (bs.take k) : Int))
    (fun _ _ _ j => bs.length - (intOf j).toNat)
  case atStart => exact ⟨0, by omega, rfl, rfl⟩
  case round =>
    obtain ⟨k, hk, rfl, rfl⟩ := hrel
    by_cases hlt : k < bs.length
    · obtain ⟨b, off, rfl, c, hb⟩ := hx.out.at hlt
      go_wp2
      go_round
      case rel => refine ⟨k + 1, by omega, by go_num, get_step bs k hlt hl⟩
      case measure => simp [intOf] <;> omega
    · obtain rfl : k = bs.length := by omega
      go_wp2
      go_ret
      exact ⟨rfl, rfl⟩

theorem value_step (bs : List UInt8) (k : Nat) (hk : k < bs.length) (hl : bs.length ≤ 8) :
    (valB (bs.drop (k + 1)) : Int) * 256 + (bs[k].toNat : Int) = (valB (bs.drop k) : Int) := by
  rw [List.drop_eq_getElem_cons hk]
  simp only [valB]
  rw [Int.natCast_add, Int.natCast_mul]
  omega

set_option maxHeartbeats 1000000 in
theorem refValue_any (ao : Option Addr) (cap : Nat) (bs : List UInt8) (w : World) (hx : Bytes w ao bs) (hl : bs.length ≤ 8) :
    Calls Try.prog 31 #[.slice ao bs.length cap] w fun e w' => e = .returned (.int .u64 (valB bs : Int)) ∧ w = w' := by
  have hx := Lib.hid hx
  go_enter Try.func31, Try.ntmps31
  go_wp2
  go_loop [3, 4] (fun n j => ∃ k : Nat, k ≤ bs.length ∧ j = .int .i64 ((k : Int) - 1) ∧ n = .int .u64 (valB (bs.drop k) : Int))
    (fun _ j => (intOf j + 1).toNat)
  case atStart => exact ⟨bs.length, by omega, rfl, by rw [List.drop_length]; rfl⟩
  case round =>
    obtain ⟨k, hk, rfl, rfl⟩ := hrel
    cases k with
    | zero =>
      go_wp2
      go_ret
      exact ⟨rfl, rfl⟩
    | succ k =>
      obtain ⟨b, off, rfl, c, hb⟩ := hx.out.at (k := k) (by omega)
      have hs := value_step bs k (by omega) hl
      have hv := valB_lt_64 (bs.drop k) (by simp; omega)
      have hv' := valB_lt_64 (bs.drop (k + 1)) (by simp; omega)
      have hbk := bs[k].toNat_lt
      have hs := Lib.hid hs
      go_wp2
      go_round
      case rel => refine ⟨k, by omega, rfl, rfl⟩
      case measure => simp [intOf] <;> omega

/-- does the number have no more bytes? -/
def fitsB (k z : Nat) : Bool := decide (z < 256 ^ k)

theorem num_byte (q : Nat) : Value.int .u8 ((q : Int) % 256) = byteV (UInt8.ofNat (q % 256)) := by
  unfold byteV
  congr 1
  simp

set_option maxHeartbeats 1000000 in
theorem refNumber_any (width z : Nat) (w : World) (hw : width ≤ 8) (hz : z < 18446744073709551616) :
    Calls Try.prog 29 #[.int .u64 (z : Int), .int .i64 (width : Int)] w fun e w' => ∃ v', e = .returned (.tuple #[v', .bool (fitsB width z)]) ∧ Own w' w.heap.size 5 v' (bytesV (leB width z)) ∧ Below w.heap.size w w' := by
  obtain ⟨i0, hi, hz0, hz1, hz2⟩ := info_parts infoU8
  have hB := Lib.hid ((Below.refl w.heap.size w).alloc (Nat.le_refl _) (.cells #[] 5))
  have hO := Lib.hid (Own.made w #[] 0 (base := w.heap.size) (e := 5) (Nat.le_refl _) (by decide) rfl)
  go_enter Try.func29, Try.ntmps29
  go_wp2
  go_loopw [0, 6, 7] (fun n b j wr => ∃ k q : Nat, k ≤ width ∧ j = .int .i64 k ∧ n = .int .u64 (q : Int) ∧ Hid (q = z / 256 ^ k) ∧ q < 18446744073709551616 ∧ Own wr w.heap.size 5 b (bytesV (leB k z)) ∧ Below w.heap.size w wr)
    (fun _ _ j _ => width - (intOf j).toNat)
  case atStart => exact ⟨0, z, by omega, rfl, rfl, Lib.hid (by simp), hz, hO.out, hB.out⟩
  case round =>
    obtain ⟨k, q, hk, rfl, rfl, hq, hq64, ho, hb⟩ := hrel
    by_cases hlt : k < width
    · have hsz := hb.size
      have ho := Lib.hid ho
      have hb := Lib.hid hb
      go_wp2_with (at_builtin; go_loud (refine wpList_own_push rfl _ _ 46 rfl w.heap.size 5 i0 (.int .u8 0) 1 Try.underlying46 hi hz0 hz1 hz2 rfl u6 _ wr rfl ho.out 1 (.int .u8 ((q : Int) % 256)) rfl rfl (by simp [bytesV_length, leB_length]; omega) (by simp [bytesV_length, leB_length]; omega) (by omega) ?_); intro v' w' ho' hg'; have ho' := Lib.hid ho'; have hg' := Lib.hid hg')
      go_roundw
      case rel => exact ⟨k + 1, q / 256, by omega, by go_num, (by simp), Lib.hid (by rw [hq.out, Nat.div_div_eq_div_mul, Nat.pow_succ]), by omega, (by have := ho'.out; rw [num_byte q] at this; rw [leB_snoc, ← hq.out]; simpa [bytesV] using this), hb.out.trans (hg'.out.out hsz (fun g hg => (ho.out.lt g hg).1))⟩
      case measure => simp [intOf] <;> omega
    · obtain rfl : k = width := by omega
      have ho := Lib.hid ho
      have hb := Lib.hid hb
      by_cases h0 : q = 0
      · have hf : fitsB k z = true := by unfold fitsB; rw [decide_eq_true_iff]; exact (Nat.div_eq_zero_iff_lt (Nat.pow_pos (by omega))).1 (hq.out ▸ h0)
        have hf := Lib.hid hf
        subst h0
        go_wp2
        go_ret2
        rw [hf.out]
        exact ⟨_, rfl, ho.out, hb.out⟩
      · have hf : fitsB k z = false := by unfold fitsB; rw [decide_eq_false_iff_not]; intro h; exact h0 (hq.out ▸ Nat.div_eq_of_lt h)
        have hf := Lib.hid hf
        have hb0 : ((q : Int) == 0) = false := by simp; omega
        go_wp2
        go_ret2
        rw [hf.out]
        exact ⟨_, rfl, ho.out, hb.out⟩
end Go.Proofs.Ytkapdagmffbbhaa
