/- Sum: the texts SumA, SumB, SumC, SumD, SumE, one behind the other. -/
import Derived.Test.YtgdefibkemkejaaGBase
import Derived.Laws.BitsAll
/- shift: eight bits taken out of the sum. -/
namespace Go.Proofs.Ytgdefibkemkejaa
open Go.ChangeShapes Go.WideShapes Go.ChangeAt Go.RowKit
set_option linter.unusedVariables false
set_option maxRecDepth 20000

theorem u32_low (s : Nat) (hs : s < 4294967296) : bits .and .u32 (s : Int) 1 = ((s % 2 : Nat) : Int) := by
  have := u32_and_nat s 1 hs (by omega)
  rw [nat_mask1] at this
  exact this
theorem u32_flip (s : Nat) (hs : s < 4294967296) : bits .xor .u32 ((s : Int) / 2) 2197175160 = ((s / 2 ^^^ 2197175160 : Nat) : Int) := u32_xor_nat (s / 2) 2197175160 (by omega) (by decide)
theorem bit_one {s : Nat} (hs : s < 4294967296) (h : (bits .and .u32 (s : Int) 1 == 1) = true) : bits .xor .u32 ((s : Int) / 2) 2197175160 = (crcBit s : Int) := by
  rw [u32_low s hs] at h
  have h1 : s % 2 = 1 := by simp at h; omega
  rw [u32_flip s hs, crcBit, if_pos h1]
theorem bit_zero {s : Nat} (hs : s < 4294967296) (h : (bits .and .u32 (s : Int) 1 == 1) = false) : (s : Int) / 2 = (crcBit s : Int) := by
  rw [u32_low s hs] at h
  have h1 : ¬ s % 2 = 1 := by simp at h; omega
  rw [crcBit, if_neg h1]
  omega

set_option maxHeartbeats 2000000 in
theorem shift_any (s : Nat) (hs : s < 4294967296) (w : World) : Calls Try.prog 67 #[.int .u32 (s : Int)] w fun e w' => e = .returned (.int .u32 (crcBits 8 s : Int)) ∧ w = w' := by
  go_enter Try.func67, Try.ntmps67
  go_wp2
  go_loop [0, 4] (fun x i => ∃ k : Nat, k ≤ 8 ∧ i = .int .i64 k ∧ x = .int .u32 (crcBits k s : Int)) (fun _ i => 8 - (intOf i).toNat)
  case atStart => exact ⟨0, by omega, rfl, rfl⟩
  case round =>
    obtain ⟨k, hk, rfl, rfl⟩ := hrel
    by_cases hlt : k < 8
    · have hb := crcBits_lt (k := k) hs
      go_wp2
      all_goals
        go_round
        case rel => exact ⟨k + 1, by omega, by go_num, by rw [crcBits_snoc]; first | rw [bit_one hb (by assumption)] | rw [bit_zero hb (by assumption)]⟩
        case measure => simp [intOf] <;> omega
    · obtain rfl : k = 8 := by omega
      go_wp2
      go_ret
      exact ⟨rfl, rfl⟩
end Go.Proofs.Ytgdefibkemkejaa

/- More and Of: the sum of bytes. -/
namespace Go.Proofs.Ytgdefibkemkejaa
open Go.ChangeShapes Go.WideShapes Go.ChangeAt Go.RowKit
set_option linter.unusedVariables false
set_option maxRecDepth 20000

theorem u32_mix {s : Nat} (b : UInt8) (hs : s < 4294967296) : bits .xor .u32 (s : Int) (b.toNat : Int) = ((s ^^^ b.toNat : Nat) : Int) := u32_xor_nat s b.toNat hs (by have := b.toNat_lt; omega)
theorem u32_not {s : Nat} (hs : s < 4294967296) : bits .xor .u32 IntKind.u32.max (s : Int) = (crcNot s : Int) := by
  rw [show IntKind.u32.max = ((4294967295 : Nat) : Int) from rfl, u32_xor_nat 4294967295 s (by decide) hs, Nat.xor_comm, ← crcNot_xor hs]

theorem Reads.byte {w : World} {ao : Option Addr} {bs : List UInt8} (h : Bytes w ao bs) {k : Nat} (hk : k < bs.length) : ∃ b off, ao = some ⟨b, off, none⟩ ∧ w.cell? ⟨b, off + k, none⟩ = some (.int .u8 (bs[k].toNat : Int)) ∧ b < w.heap.size := by
  obtain ⟨b, off, e, c, hb⟩ := Reads.at h (k := k) (by simpa [bytesV_length] using hk)
  exact ⟨b, off, e, by simpa [bytesV, byteV] using c, hb⟩
theorem crcRun_take {s : Nat} {bs : List UInt8} {k : Nat} (hk : k < bs.length) : crcRun s (bs.take (k + 1)) = crcByte (crcRun s (bs.take k)) bs[k].toNat := by
  rw [List.take_succ_eq_append_getElem hk, crcRun_snoc]

set_option maxHeartbeats 2000000 in
theorem More_any (s : Nat) (hs : s < 4294967296) (ao : Option Addr) (bs : List UInt8) (cap : Nat) (w : World) (hb : Bytes w ao bs) (hl : bs.length ≤ 281474976710656) : Calls Try.prog 59 #[.int .u32 (s : Int), .slice ao bs.length cap] w fun e w' => e = .returned (.int .u32 (crcMore s bs : Int)) ∧ w = w' := by
  have hb1 := Lib.hid hb
  clear hb
  have hn1 := u32_not hs
  go_enter Try.func59, Try.ntmps59
  go_wp2
  clear hn1
  go_loop [0, 11] (fun x i => ∃ k : Nat, k ≤ bs.length ∧ i = .int .i64 k ∧ x = .int .u32 (crcRun (crcNot s) (bs.take k) : Int)) (fun _ i => bs.length - (intOf i).toNat)
  case atStart => exact ⟨0, by omega, rfl, by rw [List.take_zero, crcRun_nil]⟩
  case round =>
    obtain ⟨k, hk, rfl, rfl⟩ := hrel
    by_cases hlt : k < bs.length
    · obtain ⟨b, off, rfl, hc, hbw⟩ := Reads.byte hb1.out hlt
      have hx := crcRun_lt (bs := bs.take k) (crcNot_lt s)
      have hz := bs[k].toNat_lt
      have hm := u32_mix bs[k] hx
      go_wp2_with fail
      refine (shift_any _ (xor_lt_32 hx (by omega)) _).mono ?_
      rintro e w' ⟨rfl, rfl⟩
      clear hm
      go_wp2
      go_round
      case rel => exact ⟨k + 1, by omega, by go_num, by rw [crcRun_take hlt]; rfl⟩
      case measure => simp [intOf] <;> omega
    · obtain rfl : k = bs.length := by omega
      have hn2 := u32_not (crcRun_lt (bs := bs) (crcNot_lt s))
      rw [List.take_length]
      go_wp2
      go_ret
      exact ⟨rfl, rfl⟩

theorem Of_any (ao : Option Addr) (bs : List UInt8) (cap : Nat) (w : World) (hb : Bytes w ao bs) (hl : bs.length ≤ 281474976710656) : Calls Try.prog 46 #[.slice ao bs.length cap] w fun e w' => e = .returned (.int .u32 (crcMore 0 bs : Int)) ∧ w = w' := by
  have hb1 := Lib.hid hb
  clear hb
  go_enter Try.func46, Try.ntmps46
  go_wp2_with fail
  refine (More_any 0 (by omega) ao bs cap w hb1.out hl).mono ?_
  rintro e w' ⟨rfl, rfl⟩
  go_wp2
  go_ret
  exact ⟨rfl, rfl⟩
end Go.Proofs.Ytgdefibkemkejaa

/- The document's own answer, bit by bit. -/
namespace Go.Proofs.Ytgdefibkemkejaa
open Go.ChangeShapes Go.WideShapes Go.ChangeAt Go.RowKit
set_option linter.unusedVariables false
set_option maxRecDepth 20000

/-- the bit that the test asks for -/
theorem ref_test {n b m : Nat} (hn : n < 4294967296) (hb : b < 256) : (bits BinOp.xor IntKind.u32 (n : Int) (bits BinOp.and IntKind.u32 ((b : Int) / 2 ^ m) 1)).tmod 2 = (((n ^^^ b / 2 ^ m % 2) % 2 : Nat) : Int) := by
  have hq : b / 2 ^ m < 4294967296 := Nat.lt_of_le_of_lt (Nat.div_le_self _ _) (by omega)
  have e : (b : Int) / 2 ^ m = ((b / 2 ^ m : Nat) : Int) := by simp
  rw [e, u32_low _ hq, u32_xor_nat n _ hn (by omega)]
  rfl
theorem ref_half {n q : Nat} (hq : q < 2) : (n ^^^ q) / 2 = n / 2 := by
  rw [xor_half, show q / 2 = 0 from by omega, Nat.xor_zero]
theorem ref_one {n b m : Nat} (hn : n < 4294967296) (hb : b < 256) (h : ((bits BinOp.xor IntKind.u32 (n : Int) (bits BinOp.and IntKind.u32 ((b : Int) / 2 ^ m) 1)).tmod 2 == 1) = true) :
    bits BinOp.xor IntKind.u32 ((n : Int) / 2) 2197175160 = (crcBit (n ^^^ b / 2 ^ m % 2) : Int) := by
  rw [ref_test hn hb] at h
  have h1 : (n ^^^ b / 2 ^ m % 2) % 2 = 1 := by simp only [beq_iff_eq] at h; omega
  rw [u32_flip n hn, crcBit, if_pos h1, ref_half (by omega)]
theorem ref_zero {n b m : Nat} (hn : n < 4294967296) (hb : b < 256) (h : ((bits BinOp.xor IntKind.u32 (n : Int) (bits BinOp.and IntKind.u32 ((b : Int) / 2 ^ m) 1)).tmod 2 == 1) = false) :
    (n : Int) / 2 = (crcBit (n ^^^ b / 2 ^ m % 2) : Int) := by
  rw [ref_test hn hb] at h
  have h1 : ¬ (n ^^^ b / 2 ^ m % 2) % 2 = 1 := by simp only [beq_eq_false_iff_ne] at h; omega
  rw [crcBit, if_neg h1, ref_half (by omega)]
  omega
theorem ref_lt {n q : Nat} (hn : n < 4294967296) : crcBit (n ^^^ q % 2) < 4294967296 := crcBit_lt (xor_lt_32 hn (by omega))
theorem ref_next {m b n z : Nat} (hm : m < 8) (h : crcRef (8 - m) (b / 2 ^ m) n = z) : crcRef (8 - (m + 1)) (b / 2 ^ (m + 1)) (crcBit (n ^^^ b / 2 ^ m % 2)) = z := by
  rw [show 8 - m = 8 - (m + 1) + 1 from by omega, crcRef, Nat.div_div_eq_div_mul, ← Nat.pow_succ] at h
  exact h

end Go.Proofs.Ytgdefibkemkejaa

/- The chapter's example holds. -/
namespace Go.Proofs.Ytgdefibkemkejaa
open Go.ChangeShapes Go.WideShapes Go.ChangeAt Go.RowKit
set_option linter.unusedVariables false
set_option maxRecDepth 20000

def text9 : List UInt8 := [49, 50, 51, 52, 53, 54, 55, 56, 57]
def cells9 : Array Value := #[.int .u8 49, .int .u8 50, .int .u8 51, .int .u8 52, .int .u8 53, .int .u8 54, .int .u8 55, .int .u8 56, .int .u8 57]

end Go.Proofs.Ytgdefibkemkejaa

/- What the other laws of sum share. -/
namespace Go.Proofs.Ytgdefibkemkejaa
open Go.ChangeShapes Go.WideShapes Go.ChangeAt Go.RowKit
set_option linter.unusedVariables false
set_option maxRecDepth 20000

theorem Of_n (n : Nat) (ao : Option Addr) (bs : List UInt8) (cap : Nat) (w : World) (hb : Bytes w ao bs) (hn : bs.length = n) (hl : n ≤ 281474976710656) : Calls Try.prog 46 #[.slice ao n cap] w fun e w' => e = .returned (.int .u32 (crcMore 0 bs : Int)) ∧ w = w' := by
  subst hn
  exact Of_any ao bs cap w hb hl

theorem xor3_length {a b c : List UInt8} (h1 : a.length = b.length) (h2 : b.length = c.length) : (xor3 a b c).length = a.length := by
  induction a generalizing b c with
  | nil => rfl
  | cons x a ih =>
    cases b with
    | nil => simp at h1
    | cons y b =>
      cases c with
      | nil => simp at h2
      | cons z c => simp only [xor3, List.length_cons, ih (by simpa using h1) (by simpa using h2)]
theorem xor3_get {a b c : List UInt8} {k : Nat} (h1 : k < a.length) (h2 : k < b.length) (h3 : k < c.length) : (xor3 a b c)[k]? = some (a[k] ^^^ b[k] ^^^ c[k]) := by
  induction a generalizing b c k with
  | nil => simp at h1
  | cons x a ih =>
    cases b with
    | nil => simp at h2
    | cons y b =>
      cases c with
      | nil => simp at h3
      | cons z c =>
        cases k with
        | zero => rfl
        | succ k => simp only [xor3, List.getElem?_cons_succ, List.getElem_cons_succ]; exact ih (by simpa using h1) (by simpa using h2) (by simpa using h3)
theorem xor3_snoc {a b c : List UInt8} {k : Nat} (h1 : k < a.length) (h2 : k < b.length) (h3 : k < c.length) : (xor3 a b c).take (k + 1) = (xor3 a b c).take k ++ [a[k] ^^^ b[k] ^^^ c[k]] := by
  rw [List.take_add_one, xor3_get h1 h2 h3]; rfl
end Go.Proofs.Ytgdefibkemkejaa
