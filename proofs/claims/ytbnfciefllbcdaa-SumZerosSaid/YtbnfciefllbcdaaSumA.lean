/- shift: eight bits taken out of the sum. -/
import Derived.Test.YtbnfciefllbcdaaBytes
import Derived.Test.YtbnfciefllbcdaaCrc
import Derived.Laws.BitsAll
namespace Go.Proofs.Ytbnfciefllbcdaa
open Go.ChangeShapes Go.WideShapes Go.ChangeAt Go.RowKit
set_option linter.unusedVariables false

theorem u32_low (s : Nat) (hs : s < 4294967296) : bits .and .u32 (s : Int) 1 = ((s % 2 : Nat) : Int) := by
  have := u32_and_nat s 1 hs (by omega)
  rw [nat_mask1] at this
  exact this
theorem u32_flip (s : Nat) (hs : s < 4294967296) : bits .xor .u32 ((s : Int) / 2) 2197175160 = ((s / 2 ^^^ 2197175160 : Nat) : Int) := u32_xor_nat (s / 2) 2197175160 (by omega) (by decide)
theorem bit_one {s : Nat} (hs : s < 4294967296) (h : (bits .and .u32 (s : Int) 1 == 1) = true) : bits .xor .u32 ((s : Int) / 2) 2197175160 = (crcBit s : Int) := by
  rw [u32_low s hs] at h
  have h1 : s % 2 = 1 := by simp at h; omega
  rw [u32_flip s hs, crcBit, if_pos h1]
theorem bit_zero {s : Nat} (hs : s < 4294967296) (h : (bits .and .u32 (s : Int) 1 == 1) = false) : (s : Int) / 2 = (crcBit s : Int) := by
  rw [u32_low s hs] at h
  have h1 : ¬ s % 2 = 1 := by simp at h; omega
  rw [crcBit, if_neg h1]
  omega

set_option maxHeartbeats 2000000 in
theorem shift_any (s : Nat) (hs : s < 4294967296) (w : World) : Calls Try.prog 12 #[.int .u32 (s : Int)] w fun e w' => e = .returned (.int .u32 (crcBits 8 s : Int)) ∧ w = w' := by
  go_enter Try.func12, Try.ntmps12
  go_wp2
  go_loop [0, 4] (fun x i => ∃ k : Nat, k ≤ 8 ∧ i = .int .i64 k ∧ x = .int .u32 (crcBits k s : Int)) (fun _ i => 8 - (intOf i).toNat)
  case atStart => exact ⟨0, by omega, rfl, rfl⟩
  case round =>
    obtain ⟨k, hk, rfl, rfl⟩ := hrel
    by_cases hlt : k < 8
    · have hb := crcBits_lt (k := k) hs
      go_wp2
      all_goals
        go_round
        case rel => exact ⟨k + 1, by omega, by go_num, by rw [crcBits_snoc]; first | rw [bit_one hb (by assumption)] | rw [bit_zero hb (by assumption)]⟩
        case measure => simp [intOf] <;> omega
    · obtain rfl : k = 8 := by omega
      go_wp2
      go_ret
      exact ⟨rfl, rfl⟩
end Go.Proofs.Ytbnfciefllbcdaa
