/- More and Of: the sum of bytes. -/
import Derived.Test.YtbnfciefllbcdaaSumA
namespace Go.Proofs.Ytbnfciefllbcdaa
open Go.ChangeShapes Go.WideShapes Go.ChangeAt Go.RowKit
set_option linter.unusedVariables false

theorem u32_mix {s : Nat} (b : UInt8) (hs : s < 4294967296) : bits .xor .u32 (s : Int) (b.toNat : Int) = ((s ^^^ b.toNat : Nat) : Int) := u32_xor_nat s b.toNat hs (by have := b.toNat_lt; omega)
theorem u32_not {s : Nat} (hs : s < 4294967296) : bits .xor .u32 IntKind.u32.max (s : Int) = (crcNot s : Int) := by
  rw [show IntKind.u32.max = ((4294967295 : Nat) : Int) from rfl, u32_xor_nat 4294967295 s (by decide) hs, Nat.xor_comm, ← crcNot_xor hs]

theorem Reads.byte {w : World} {ao : Option Addr} {bs : List UInt8} (h : Bytes w ao bs) {k : Nat} (hk : k < bs.length) : ∃ b off, ao = some ⟨b, off, none⟩ ∧ w.cell? ⟨b, off + k, none⟩ = some (.int .u8 (bs[k].toNat : Int)) ∧ b < w.heap.size := by
  obtain ⟨b, off, e, c, hb⟩ := Reads.at h (k := k) (by simpa [bytesV_length] using hk)
  exact ⟨b, off, e, by simpa [bytesV, byteV] using c, hb⟩
theorem crcRun_take {s : Nat} {bs : List UInt8} {k : Nat} (hk : k < bs.length) : crcRun s (bs.take (k + 1)) = crcByte (crcRun s (bs.take k)) bs[k].toNat := by
  rw [List.take_succ_eq_append_getElem hk, crcRun_snoc]

set_option maxHeartbeats 2000000 in
theorem More_any (s : Nat) (hs : s < 4294967296) (ao : Option Addr) (bs : List UInt8) (cap : Nat) (w : World) (hb : Bytes w ao bs) (hl : bs.length ≤ 281474976710656) : Calls Try.prog 10 #[.int .u32 (s : Int), .slice ao bs.length cap] w fun e w' => e = .returned (.int .u32 (crcMore s bs : Int)) ∧ w = w' := by
  have hb1 := Lib.hid hb
  clear hb
  have hn1 := u32_not hs
  go_enter Try.func10, Try.ntmps10
  go_wp2
  clear hn1
  go_loop [0, 11] (fun x i => ∃ k : Nat, k ≤ bs.length ∧ i = .int .i64 k ∧ x = .int .u32 (crcRun (crcNot s) (bs.take k) : Int)) (fun _ i => bs.length - (intOf i).toNat)
  case atStart => exact ⟨0, by omega, rfl, by rw [List.take_zero, crcRun_nil]⟩
  case round =>
    obtain ⟨k, hk, rfl, rfl⟩ := hrel
    by_cases hlt : k < bs.length
    · obtain ⟨b, off, rfl, hc, hbw⟩ := Reads.byte hb1.out hlt
      have hx := crcRun_lt (bs := bs.take k) (crcNot_lt s)
      have hz := bs[k].toNat_lt
      have hm := u32_mix bs[k] hx
      go_wp2_with fail
      refine (shift_any _ (xor_lt_32 hx (by omega)) _).mono ?_
      rintro e w' ⟨rfl, rfl⟩
      clear hm
      go_wp2
      go_round
      case rel => exact ⟨k + 1, by omega, by go_num, by rw [crcRun_take hlt]; rfl⟩
      case measure => simp [intOf] <;> omega
    · obtain rfl : k = bs.length := by omega
      have hn2 := u32_not (crcRun_lt (bs := bs) (crcNot_lt s))
      rw [List.take_length]
      go_wp2
      go_ret
      exact ⟨rfl, rfl⟩

theorem Of_any (ao : Option Addr) (bs : List UInt8) (cap : Nat) (w : World) (hb : Bytes w ao bs) (hl : bs.length ≤ 281474976710656) : Calls Try.prog 9 #[.slice ao bs.length cap] w fun e w' => e = .returned (.int .u32 (crcMore 0 bs : Int)) ∧ w = w' := by
  have hb1 := Lib.hid hb
  clear hb
  go_enter Try.func9, Try.ntmps9
  go_wp2_with fail
  refine (More_any 0 (by omega) ao bs cap w hb1.out hl).mono ?_
  rintro e w' ⟨rfl, rfl⟩
  go_wp2
  go_ret
  exact ⟨rfl, rfl⟩
end Go.Proofs.Ytbnfciefllbcdaa
