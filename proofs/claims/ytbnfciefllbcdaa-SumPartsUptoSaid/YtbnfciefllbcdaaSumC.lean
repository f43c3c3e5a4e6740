/- The document's own answer, bit by bit. -/
import Derived.Test.YtbnfciefllbcdaaSumB
namespace Go.Proofs.Ytbnfciefllbcdaa
open Go.ChangeShapes Go.WideShapes Go.ChangeAt Go.RowKit
set_option linter.unusedVariables false

/-- the bit that the test asks for -/
theorem ref_test {n b m : Nat} (hn : n < 4294967296) (hb : b < 256) : (bits BinOp.xor IntKind.u32 (n : Int) (bits BinOp.and IntKind.u32 ((b : Int) / 2 ^ m) 1)).tmod 2 = (((n ^^^ b / 2 ^ m % 2) % 2 : Nat) : Int) := by
  have hq : b / 2 ^ m < 4294967296 := Nat.lt_of_le_of_lt (Nat.div_le_self _ _) (by omega)
  have e : (b : Int) / 2 ^ m = ((b / 2 ^ m : Nat) : Int) := by simp
  rw [e, u32_low _ hq, u32_xor_nat n _ hn (by omega)]
  rfl
theorem ref_half {n q : Nat} (hq : q < 2) : (n ^^^ q) / 2 = n / 2 := by
  rw [xor_half, show q / 2 = 0 from by omega, Nat.xor_zero]
theorem ref_one {n b m : Nat} (hn : n < 4294967296) (hb : b < 256) (h : ((bits BinOp.xor IntKind.u32 (n : Int) (bits BinOp.and IntKind.u32 ((b : Int) / 2 ^ m) 1)).tmod 2 == 1) = true) :
    bits BinOp.xor IntKind.u32 ((n : Int) / 2) 2197175160 = (crcBit (n ^^^ b / 2 ^ m % 2) : Int) := by
  rw [ref_test hn hb] at h
  have h1 : (n ^^^ b / 2 ^ m % 2) % 2 = 1 := by simp only [beq_iff_eq] at h; omega
  rw [u32_flip n hn, crcBit, if_pos h1, ref_half (by omega)]
theorem ref_zero {n b m : Nat} (hn : n < 4294967296) (hb : b < 256) (h : ((bits BinOp.xor IntKind.u32 (n : Int) (bits BinOp.and IntKind.u32 ((b : Int) / 2 ^ m) 1)).tmod 2 == 1) = false) :
    (n : Int) / 2 = (crcBit (n ^^^ b / 2 ^ m % 2) : Int) := by
  rw [ref_test hn hb] at h
  have h1 : ¬ (n ^^^ b / 2 ^ m % 2) % 2 = 1 := by simp only [beq_eq_false_iff_ne] at h; omega
  rw [crcBit, if_neg h1, ref_half (by omega)]
  omega
theorem ref_lt {n q : Nat} (hn : n < 4294967296) : crcBit (n ^^^ q % 2) < 4294967296 := crcBit_lt (xor_lt_32 hn (by omega))
theorem ref_next {m b n z : Nat} (hm : m < 8) (h : crcRef (8 - m) (b / 2 ^ m) n = z) : crcRef (8 - (m + 1)) (b / 2 ^ (m + 1)) (crcBit (n ^^^ b / 2 ^ m % 2)) = z := by
  rw [show 8 - m = 8 - (m + 1) + 1 from by omega, crcRef, Nat.div_div_eq_div_mul, ← Nat.pow_succ] at h
  exact h

set_option maxHeartbeats 2000000 in
theorem refMore_any (s : Nat) (hs : s < 4294967296) (ao : Option Addr) (bs : List UInt8) (cap : Nat) (w : World) (hb : Bytes w ao bs) (hl : bs.length ≤ 281474976710656) : Calls Try.prog 11 #[.int .u32 (s : Int), .slice ao bs.length cap] w fun e w' => e = .returned (.int .u32 (crcMore s bs : Int)) ∧ w = w' := by
  have hb1 := Lib.hid hb
  clear hb
  have hn1 : (4294967295 : Int) - (s : Int) = (crcNot s : Int) := by unfold crcNot; omega
  go_enter Try.func11, Try.ntmps11
  go_wp2
  clear hn1
  go_outline
  go_loop [5, 13] (fun x i => ∃ k : Nat, k ≤ bs.length ∧ i = .int .i64 k ∧ x = .int .u32 (crcRun (crcNot s) (bs.take k) : Int)) (fun _ i => bs.length - (intOf i).toNat)
  case atStart => exact ⟨0, by omega, rfl, by rw [List.take_zero, crcRun_nil]⟩
  case round =>
    obtain ⟨k, hk, rfl, rfl⟩ := hrel
    by_cases hlt : k < bs.length
    · obtain ⟨b, off, rfl, hc, hbw⟩ := Reads.byte hb1.out hlt
      have hx := crcRun_lt (bs := bs.take k) (crcNot_lt s)
      have hz := bs[k].toNat_lt
      have hb8 : Hid (crcRef (8 - 0) (bs[k].toNat / 2 ^ 0) (crcRun (crcNot s) (bs.take k)) = crcRun (crcNot s) (bs.take (k + 1))) := Lib.hid (by
        rw [crcRun_take hlt, ← crcRef_byte hz, Nat.pow_zero, Nat.div_one])
      go_wp2
      go_loop [5, 7] (fun x j => ∃ m n : Nat, m ≤ 8 ∧ j = .int .i64 m ∧ x = .int .u32 (n : Int) ∧ n < 4294967296 ∧ Hid (crcRef (8 - m) (bs[k].toNat / 2 ^ m) n = crcRun (crcNot s) (bs.take (k + 1)))) (fun _ j => 8 - (intOf j).toNat)
      case atStart => exact ⟨0, _, by omega, rfl, rfl, hx, hb8⟩
      case round =>
        obtain ⟨m, n, hm, rfl, rfl, hn, hr⟩ := hrel
        by_cases hm8 : m < 8
        · go_wp2
          all_goals
            go_round
            case rel => exact ⟨m + 1, _, by omega, by go_num, by first | rw [ref_one hn hz (by assumption)] | rw [ref_zero hn hz (by assumption)], ref_lt hn, Lib.hid (ref_next hm8 hr.out)⟩
            case measure => simp [intOf] <;> omega
        · obtain rfl : m = 8 := by omega
          have hr2 : n = crcRun (crcNot s) (bs.take (k + 1)) := hr.out
          subst hr2
          go_wp2
          go_round
          case rel => exact ⟨k + 1, by omega, by go_num, rfl⟩
          case measure => simp [intOf] <;> omega
    · obtain rfl : k = bs.length := by omega
      have hn2 : (4294967295 : Int) - (crcRun (crcNot s) bs : Int) = (crcMore s bs : Int) := by
        have := crcRun_lt (bs := bs) (crcNot_lt s)
        unfold crcMore
        generalize crcRun (crcNot s) bs = z at *
        unfold crcNot; omega
      rw [List.take_length]
      go_wp2
      go_ret
      exact ⟨rfl, rfl⟩
end Go.Proofs.Ytbnfciefllbcdaa
