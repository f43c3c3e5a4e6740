/- Numbers as bytes, the lowest first: plain arithmetic. -/
import Derived.Test.YtkapdagmffbbhaaMem
namespace Go.Proofs.Ytkapdagmffbbhaa
set_option linter.unusedVariables false
set_option maxRecDepth 20000

/-- the number in so many bytes, the lowest first -/
def leB : Nat → Nat → List UInt8
  | 0, _ => []
  | k + 1, z => UInt8.ofNat (z % 256) :: leB k (z / 256)

/-- the number of bytes -/
def valB : List UInt8 → Nat
  | [] => 0
  | b :: r => b.toNat + 256 * valB r

theorem leB_length (k z : Nat) : (leB k z).length = k := by
  induction k generalizing z with
  | zero => rfl
  | succ k ih => simp [leB, ih]

theorem pow_256_succ (k : Nat) : 256 ^ (k + 1) = 256 * 256 ^ k := by rw [Nat.pow_succ, Nat.mul_comm]

theorem leB_snoc (k z : Nat) : leB (k + 1) z = leB k z ++ [UInt8.ofNat (z / 256 ^ k % 256)] := by
  induction k generalizing z with
  | zero => simp [leB]
  | succ k ih =>
    have e : leB (k + 1 + 1) z = UInt8.ofNat (z % 256) :: leB (k + 1) (z / 256) := rfl
    rw [e, ih (z / 256), pow_256_succ, ← Nat.div_div_eq_div_mul]
    rfl

theorem valB_snoc (l : List UInt8) (b : UInt8) : valB (l ++ [b]) = valB l + b.toNat * 256 ^ l.length := by
  induction l with
  | nil => simp [valB]
  | cons a r ih =>
    simp only [List.cons_append, valB, ih, List.length_cons, pow_256_succ]
    rw [Nat.mul_add, Nat.add_assoc]
    congr 2
    rw [← Nat.mul_assoc, ← Nat.mul_assoc, Nat.mul_comm 256]

theorem valB_lt (l : List UInt8) : valB l < 256 ^ l.length := by
  induction l with
  | nil => simp [valB]
  | cons a r ih =>
    have := a.toNat_lt
    simp only [valB, List.length_cons, pow_256_succ]
    omega

theorem u8_of (b : UInt8) : UInt8.ofNat b.toNat = b := by simp

theorem leB_valB (l : List UInt8) : leB l.length (valB l) = l := by
  induction l with
  | nil => rfl
  | cons a r ih =>
    have h := a.toNat_lt
    have e1 : (a.toNat + 256 * valB r) % 256 = a.toNat := by omega
    have e2 : (a.toNat + 256 * valB r) / 256 = valB r := by omega
    simp only [List.length_cons, valB, leB, e1, e2, ih, u8_of]

theorem valB_leB (k z : Nat) (h : z < 256 ^ k) : valB (leB k z) = z := by
  induction k generalizing z with
  | zero => simp at h; subst h; rfl
  | succ k ih =>
    rw [pow_256_succ] at h
    simp only [leB, valB]
    rw [ih (z / 256) (by omega)]
    have : (UInt8.ofNat (z % 256)).toNat = z % 256 := by simp
    rw [this]; omega

theorem leB_mod (k z : Nat) : valB (leB k z) = z % 256 ^ k := by
  induction k generalizing z with
  | zero => simp [leB, valB, Nat.mod_one]
  | succ k ih =>
    simp only [leB, valB, ih (z / 256)]
    have : (UInt8.ofNat (z % 256)).toNat = z % 256 := by simp
    rw [this, pow_256_succ, Nat.mod_mul]

theorem leB_take (k z : Nat) {i : Nat} (h : i ≤ k) : (leB k z).take i = leB i z := by
  induction k generalizing z i with
  | zero => obtain rfl : i = 0 := by omega
            rfl
  | succ k ih =>
    cases i with
    | zero => rfl
    | succ i => simp [leB, ih (z / 256) (i := i) (by omega)]

theorem leB_inj {k a b : Nat} (ha : a < 256 ^ k) (hb : b < 256 ^ k) (h : leB k a = leB k b) : a = b := by
  rw [← valB_leB k a ha, ← valB_leB k b hb, h]

theorem pow_le_64 {k : Nat} (h : k ≤ 8) : 256 ^ k ≤ 18446744073709551616 := by
  have : 256 ^ k ≤ 256 ^ 8 := Nat.pow_le_pow_right (by omega) h
  simpa using this

theorem two_pow_8 (k : Nat) : 2 ^ (8 * k) = 256 ^ k := by rw [Nat.pow_mul]

theorem valB_take_lt (l : List UInt8) {k : Nat} (h : l.length ≤ k) : valB l < 256 ^ k :=
  Nat.lt_of_lt_of_le (valB_lt l) (Nat.pow_le_pow_right (by omega) h)

theorem valB_lt_64 (l : List UInt8) (h : l.length ≤ 8) : valB l < 18446744073709551616 := Nat.lt_of_lt_of_le (valB_take_lt l h) (pow_le_64 (Nat.le_refl 8))

theorem valB_lt_16 (l : List UInt8) (h : l.length = 2) : valB l < 65536 := by
  have := valB_lt l
  rw [h] at this
  simpa using this

end Go.Proofs.Ytkapdagmffbbhaa
