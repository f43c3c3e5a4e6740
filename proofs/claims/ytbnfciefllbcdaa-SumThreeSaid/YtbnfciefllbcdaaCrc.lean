/- The sum CRC-32C in plain numbers: one bit out, a byte in, bytes; it is linear, tells unlike bytes apart, and doesn't come back within 3000 zeros. -/
import Derived.Test.YtbnfciefllbcdaaNum
namespace Go.Proofs.Ytbnfciefllbcdaa
set_option linter.unusedVariables false

/-- a bit taken out of the sum -/
def crcBit (s : Nat) : Nat := if s % 2 = 1 then s / 2 ^^^ 2197175160 else s / 2
def crcBits : Nat → Nat → Nat
  | 0, s => s
  | k + 1, s => crcBits k (crcBit s)
/-- a byte taken into the sum -/
def crcByte (s b : Nat) : Nat := crcBits 8 (s ^^^ b)
def crcRun (s : Nat) (bs : List UInt8) : Nat := bs.foldl (fun s b => crcByte s b.toNat) s
theorem crcRun_nil (s : Nat) : crcRun s [] = s := List.foldl_nil
theorem crcRun_cons (s : Nat) (b : UInt8) (r : List UInt8) : crcRun s (b :: r) = crcRun (crcByte s b.toNat) r := List.foldl_cons ..
def crcNot (s : Nat) : Nat := 4294967295 - s
/-- the sum with more bytes -/
def crcMore (s : Nat) (bs : List UInt8) : Nat := crcNot (crcRun (crcNot s) bs)

theorem crcBits_snoc (k s : Nat) : crcBits (k + 1) s = crcBit (crcBits k s) := by
  induction k generalizing s with
  | zero => rfl
  | succ k ih => rw [crcBits, ih]; rfl
theorem crcRun_append (s : Nat) (a b : List UInt8) : crcRun s (a ++ b) = crcRun (crcRun s a) b := by
  induction a generalizing s with
  | nil => rfl
  | cons x a ih => exact ih _
theorem crcRun_snoc (s : Nat) (a : List UInt8) (b : UInt8) : crcRun s (a ++ [b]) = crcByte (crcRun s a) b.toNat := crcRun_append s a [b]

theorem half_lt {s : Nat} (h : s < 4294967296) : s / 2 < 2 ^ 31 := by omega
theorem crcBit_lt {s : Nat} (h : s < 4294967296) : crcBit s < 4294967296 := by
  unfold crcBit
  split
  · exact Nat.xor_lt_two_pow (n := 32) (Nat.lt_of_lt_of_le (half_lt h) (by decide)) (by decide)
  · omega
theorem crcBits_lt {k s : Nat} (h : s < 4294967296) : crcBits k s < 4294967296 := by
  induction k generalizing s with
  | zero => exact h
  | succ k ih => exact ih (crcBit_lt h)
theorem xor_lt_32 {a b : Nat} (ha : a < 4294967296) (hb : b < 4294967296) : a ^^^ b < 4294967296 := Nat.xor_lt_two_pow (n := 32) ha hb
theorem crcByte_lt {s b : Nat} (h : s < 4294967296) (hb : b < 256) : crcByte s b < 4294967296 := crcBits_lt (xor_lt_32 h (by omega))
theorem crcRun_lt {s : Nat} {bs : List UInt8} (h : s < 4294967296) : crcRun s bs < 4294967296 := by
  induction bs generalizing s with
  | nil => exact h
  | cons b r ih => exact ih (crcByte_lt h b.toNat_lt)
theorem crcNot_lt (s : Nat) : crcNot s < 4294967296 := by unfold crcNot; omega
theorem crcMore_lt (s : Nat) (bs : List UInt8) : crcMore s bs < 4294967296 := crcNot_lt _
theorem crcNot_not {s : Nat} (h : s < 4294967296) : crcNot (crcNot s) = s := by unfold crcNot; omega
theorem crcNot_inj {a b : Nat} (ha : a < 4294967296) (hb : b < 4294967296) (h : crcNot a = crcNot b) : a = b := by unfold crcNot at h; omega

theorem crcMore_append (s : Nat) (a b : List UInt8) (h : s < 4294967296) : crcMore (crcMore s a) b = crcMore s (a ++ b) := by
  unfold crcMore
  rw [crcNot_not (crcRun_lt (crcNot_lt s)), crcRun_append]

/- linear -/
theorem xor_half (a b : Nat) : (a ^^^ b) / 2 = a / 2 ^^^ b / 2 := Nat.xor_div_two
theorem xor_mod (a b : Nat) : (a ^^^ b) % 2 = (a % 2 + b % 2) % 2 := by
  have h : (a ^^^ b) % 2 = a % 2 ^^^ b % 2 := by simpa using Nat.xor_mod_two_pow (a := a) (b := b) (n := 1)
  rw [h]
  rcases Nat.mod_two_eq_zero_or_one a with ha | ha <;> rcases Nat.mod_two_eq_zero_or_one b with hb | hb <;> rw [ha, hb] <;> rfl

theorem crcBit_xor (a b : Nat) : crcBit (a ^^^ b) = crcBit a ^^^ crcBit b := by
  unfold crcBit
  rw [xor_mod, xor_half]
  rcases Nat.mod_two_eq_zero_or_one a with ha | ha <;> rcases Nat.mod_two_eq_zero_or_one b with hb | hb <;> simp only [ha, hb] <;> simp only [Nat.reduceAdd, Nat.reduceMod, Nat.zero_ne_one, if_true, if_false]
  · rw [Nat.xor_assoc]
  · rw [Nat.xor_assoc, Nat.xor_assoc, Nat.xor_comm (b / 2)]
  · rw [Nat.xor_assoc (a / 2), Nat.xor_comm 2197175160, Nat.xor_assoc (b / 2), Nat.xor_self, Nat.xor_zero]
theorem crcBits_xor (k a b : Nat) : crcBits k (a ^^^ b) = crcBits k a ^^^ crcBits k b := by
  induction k generalizing a b with
  | zero => rfl
  | succ k ih => simp only [crcBits, crcBit_xor, ih]
theorem xor_swap4 (a b c d : Nat) : (a ^^^ b) ^^^ (c ^^^ d) = (a ^^^ c) ^^^ (b ^^^ d) := by
  rw [Nat.xor_assoc, Nat.xor_assoc, ← Nat.xor_assoc b, ← Nat.xor_assoc c, Nat.xor_comm b c]
theorem crcByte_xor (s t a b : Nat) : crcByte (s ^^^ t) (a ^^^ b) = crcByte s a ^^^ crcByte t b := by
  unfold crcByte
  rw [← crcBits_xor, xor_swap4]

/- unlike bytes apart -/
theorem xor_eq_zero {a b : Nat} : a ^^^ b = 0 ↔ a = b := by
  constructor
  · intro h
    have := congrArg (· ^^^ b) h
    simpa [Nat.xor_assoc] using this
  · rintro rfl; exact Nat.xor_self _
theorem crcBit_zero {s : Nat} (h : s < 4294967296) (e : crcBit s = 0) : s = 0 := by
  unfold crcBit at e
  split at e
  · have := xor_eq_zero.1 e
    omega
  · omega
theorem crcBits_zero {k s : Nat} (h : s < 4294967296) (e : crcBits k s = 0) : s = 0 := by
  induction k generalizing s with
  | zero => exact e
  | succ k ih => exact crcBit_zero h (ih (crcBit_lt h) e)
theorem crcBits_inj {k s t : Nat} (hs : s < 4294967296) (ht : t < 4294967296) (e : crcBits k s = crcBits k t) : s = t :=
  xor_eq_zero.1 (crcBits_zero (xor_lt_32 hs ht) (by rw [crcBits_xor, e, Nat.xor_self]))
theorem crcByte_inj {s t a : Nat} (hs : s < 4294967296) (ht : t < 4294967296) (ha : a < 256) (e : crcByte s a = crcByte t a) : s = t := by
  have := crcBits_inj (xor_lt_32 hs (by omega)) (xor_lt_32 ht (by omega)) e
  have h2 := congrArg (· ^^^ a) this
  simpa [Nat.xor_assoc] using h2
theorem crcByte_inj' {s a b : Nat} (hs : s < 4294967296) (ha : a < 256) (hb : b < 256) (e : crcByte s a = crcByte s b) : a = b := by
  have := crcBits_inj (xor_lt_32 hs (by omega)) (xor_lt_32 hs (by omega)) e
  have h2 := congrArg (s ^^^ ·) this
  simpa [← Nat.xor_assoc] using h2
theorem crcRun_inj {s t : Nat} {bs : List UInt8} (hs : s < 4294967296) (ht : t < 4294967296) (e : crcRun s bs = crcRun t bs) : s = t := by
  induction bs generalizing s t with
  | nil => exact e
  | cons b r ih => exact crcByte_inj hs ht b.toNat_lt (ih (crcByte_lt hs b.toNat_lt) (crcByte_lt ht b.toNat_lt) e)
theorem crcRun_set {s : Nat} {bs : List UInt8} {k : Nat} {y : UInt8} (hs : s < 4294967296) (hk : k < bs.length) (e : crcRun s (bs.set k y) = crcRun s bs) : y = bs[k] := by
  induction bs generalizing s k with
  | nil => simp at hk
  | cons b r ih =>
    cases k with
    | zero => exact UInt8.toNat_inj.1 (crcByte_inj' hs y.toNat_lt b.toNat_lt (crcRun_inj (crcByte_lt hs y.toNat_lt) (crcByte_lt hs b.toNat_lt) e))
    | succ k => exact ih (crcByte_lt hs b.toNat_lt) (by simpa using hk) e
theorem crcMore_set {s : Nat} {bs : List UInt8} {k : Nat} {y : UInt8} (hk : k < bs.length) (hy : y ≠ bs[k]) : crcMore s (bs.set k y) ≠ crcMore s bs := by
  intro e
  exact hy (crcRun_set (crcNot_lt s) hk (crcNot_inj (crcRun_lt (crcNot_lt s)) (crcRun_lt (crcNot_lt s)) e))

/- three texts -/
def xor3 : List UInt8 → List UInt8 → List UInt8 → List UInt8
  | a :: as, b :: bs, c :: cs => (a ^^^ b ^^^ c) :: xor3 as bs cs
  | _, _, _ => []
theorem crcRun_xor3 {s t u : Nat} {a b c : List UInt8} (h1 : a.length = b.length) (h2 : b.length = c.length) : crcRun (s ^^^ t ^^^ u) (xor3 a b c) = crcRun s a ^^^ crcRun t b ^^^ crcRun u c := by
  induction a generalizing b c s t u with
  | nil =>
    obtain rfl : b = [] := List.eq_nil_of_length_eq_zero (by simpa using h1.symm)
    obtain rfl : c = [] := List.eq_nil_of_length_eq_zero (by simpa using h2.symm)
    simp only [xor3, crcRun_nil]
  | cons x a ih =>
    cases b with
    | nil => simp at h1
    | cons y b =>
      cases c with
      | nil => simp at h2
      | cons z c =>
        simp only [xor3, crcRun_cons, UInt8.toNat_xor]
        rw [crcByte_xor, crcByte_xor]
        exact ih (by simpa using h1) (by simpa using h2)
theorem crcNot_xor {s : Nat} (h : s < 4294967296) : crcNot s = s ^^^ 4294967295 := by
  have e : (BitVec.ofNat 32 s ^^^ BitVec.allOnes 32).toNat = (~~~ BitVec.ofNat 32 s).toNat := by rw [BitVec.xor_allOnes]
  simp only [BitVec.toNat_xor, BitVec.toNat_not, BitVec.toNat_allOnes, BitVec.toNat_ofNat, Nat.reducePow, Nat.reduceSub, Nat.mod_eq_of_lt h] at e
  unfold crcNot
  omega
theorem crcMore_xor3 {a b c : List UInt8} (h1 : a.length = b.length) (h2 : b.length = c.length) : crcMore 0 (xor3 a b c) = crcMore 0 a ^^^ crcMore 0 b ^^^ crcMore 0 c := by
  have l := crcNot_lt 0
  have e := crcRun_xor3 (s := crcNot 0) (t := crcNot 0) (u := crcNot 0) h1 h2
  rw [Nat.xor_self, Nat.zero_xor] at e
  unfold crcMore
  rw [e, crcNot_xor (crcRun_lt l), crcNot_xor (crcRun_lt l), crcNot_xor (crcRun_lt l), crcNot_xor (xor_lt_32 (xor_lt_32 (crcRun_lt l) (crcRun_lt l)) (crcRun_lt l))]
  generalize crcRun (crcNot 0) a = x
  generalize crcRun (crcNot 0) b = y
  generalize crcRun (crcNot 0) c = z
  rw [xor_swap4 x 4294967295 y, Nat.xor_self, Nat.xor_zero, Nat.xor_assoc (x ^^^ y)]

/- zeros -/
theorem crcRun_zeros (s n : Nat) : crcRun s (List.replicate n 0) = crcBits (8 * n) s := by
  induction n generalizing s with
  | zero => simp only [List.replicate_zero, crcRun_nil, crcBits]
  | succ n ih =>
    rw [List.replicate_succ, crcRun_cons, ih]
    unfold crcByte
    rw [show (0 : UInt8).toNat = 0 from rfl, Nat.xor_zero, Nat.mul_succ]
    have h : ∀ a b z, crcBits a (crcBits b z) = crcBits (b + a) z := by
      intro a b z
      induction b generalizing z with
      | zero => simp [crcBits]
      | succ b ihb => rw [crcBits, ihb, Nat.succ_add]; rfl
    rw [h, Nat.add_comm]
theorem crcBits_add (a b z : Nat) : crcBits (b + a) z = crcBits a (crcBits b z) := by
  induction b generalizing z with
  | zero => simp [crcBits]
  | succ b ihb => rw [Nat.succ_add]; exact ihb _
def orbitOk (x : Nat) : Nat → Nat → Bool
  | 0, _ => true
  | k + 1, s => !(Nat.beq (crcBits 8 s) x) && orbitOk x k (crcBits 8 s)
theorem orbit_ne {x k s j : Nat} (h : orbitOk x k s = true) (h1 : 1 ≤ j) (hj : j ≤ k) : crcBits (8 * j) s ≠ x := by
  induction k generalizing s j with
  | zero => omega
  | succ k ih =>
    simp only [orbitOk, Bool.and_eq_true, Bool.not_eq_true'] at h
    by_cases e : j = 1
    · subst e
      intro e
      rw [show 8 * 1 = 8 from rfl] at e
      rw [e] at h
      simp at h
    · have := ih h.2 (j := j - 1) (by omega) (by omega)
      rwa [← crcBits_add, show 8 + 8 * (j - 1) = 8 * j from by omega] at this
theorem orbit_all : orbitOk 4294967295 3000 4294967295 = true := by decide +kernel
theorem crcMore_zeros_lt {n m : Nat} (h : n < m) (hm : m ≤ 3000) : crcMore 0 (List.replicate n 0) ≠ crcMore 0 (List.replicate m 0) := by
  intro e
  have e := crcNot_inj (crcRun_lt (crcNot_lt 0)) (crcRun_lt (crcNot_lt 0)) e
  rw [crcRun_zeros, crcRun_zeros, show 8 * m = 8 * (m - n) + 8 * n from by omega, crcBits_add] at e
  have e2 := crcBits_inj (crcNot_lt 0) (crcBits_lt (crcNot_lt 0)) e
  exact orbit_ne orbit_all (show 1 ≤ m - n by omega) (by omega) e2.symm
theorem crcMore_zeros {n m : Nat} (hn : n ≤ 3000) (hm : m ≤ 3000) : (crcMore 0 (List.replicate n 0) = crcMore 0 (List.replicate m 0)) ↔ n = m := by
  constructor
  · intro e
    rcases Nat.lt_trichotomy n m with h | h | h
    · exact absurd e (crcMore_zeros_lt h hm)
    · exact h
    · exact absurd e.symm (crcMore_zeros_lt h hn)
  · rintro rfl; rfl

/- bit by bit, as the document has it -/
def crcRef : Nat → Nat → Nat → Nat
  | 0, _, n => n
  | k + 1, b, n => crcRef k (b / 2) (crcBit (n ^^^ b % 2))
theorem crcBit_two (m : Nat) : crcBit (2 * m) = m := by unfold crcBit; rw [if_neg (by omega)]; omega
theorem crcRef_bits {k b n : Nat} (h : b < 2 ^ k) : crcRef k b n = crcBits k (n ^^^ b) := by
  induction k generalizing b n with
  | zero => obtain rfl : b = 0 := by simpa using h
            simp [crcRef, crcBits]
  | succ k ih =>
    rw [crcRef, ih (by rw [Nat.pow_succ] at h; omega), crcBits]
    congr 1
    have e : b = b % 2 ^^^ 2 * (b / 2) := by
      apply Nat.eq_of_testBit_eq
      intro i
      rw [Nat.testBit_xor]
      cases i with
      | zero => simp [Nat.testBit_zero, Nat.mul_mod_right]
      | succ i => rw [Nat.testBit_succ, Nat.testBit_succ, Nat.testBit_succ]; simp
    calc crcBit (n ^^^ b % 2) ^^^ b / 2 = crcBit (n ^^^ b % 2) ^^^ crcBit (2 * (b / 2)) := by rw [crcBit_two]
      _ = crcBit (n ^^^ b) := by rw [← crcBit_xor, Nat.xor_assoc, ← e]
theorem crcRef_byte {b n : Nat} (h : b < 256) : crcRef 8 b n = crcByte n b := crcRef_bits h
theorem crcMore_123 : crcMore 0 [49, 50, 51, 52, 53, 54, 55, 56, 57] = 3808858755 := by decide +kernel
theorem crcMore_nil {s : Nat} (h : s < 4294967296) : crcMore s [] = s := crcNot_not h
end Go.Proofs.Ytbnfciefllbcdaa
