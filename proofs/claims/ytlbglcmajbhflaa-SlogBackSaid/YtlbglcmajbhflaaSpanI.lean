/- The document's own First, Has and Right answer as their plain functions do, for every input (Has: of spans that can be in a set). -/
import Derived.Test.YtlbglcmajbhflaaSpanH
namespace Go.Proofs.Ytlbglcmajbhflaa
open Go.ChangeShapes Go.WideShapes Go.ChangeAt Go.RowKit
set_option linter.unusedVariables false
set_option maxRecDepth 20000

/-- spans of numbers that can be in a set -/
def Good (xs : List (Int × Int)) : Prop := ∀ p ∈ xs, 0 ≤ p.1 ∧ 1 ≤ p.2 ∧ p.2 ≤ 4096 - p.1

/-- is the number in one of them? -/
def hasL (xs : List (Int × Int)) (n : Int) : Bool := xs.any fun p => decide (p.1 ≤ n ∧ n < p.1 + p.2)

theorem right_good {low : Int} {xs : List (Int × Int)} (h : rightFrom low xs = true) : Good xs := by
  induction xs generalizing low with
  | nil => intro p hp; cases hp
  | cons q r ih =>
    obtain ⟨s, n⟩ := q
    simp only [rightFrom, Bool.and_eq_true] at h
    intro p hp
    rcases List.mem_cons.1 hp with rfl | hp
    · exact withinB_true h.1.1
    · exact ih h.2 p hp

theorem good_drop {xs : List (Int × Int)} (h : Good xs) {k : Nat} {p : Int × Int} {r : List (Int × Int)} (hd : xs.drop k = p :: r) : 0 ≤ p.1 ∧ 1 ≤ p.2 ∧ p.2 ≤ 4096 - p.1 :=
  h p (List.mem_of_mem_drop (i := k) (by rw [hd]; exact List.mem_cons_self))

/-- what went ahead of the k-th span -/
def PrevIs (xs : List (Int × Int)) (k : Nat) (low : Int) : Prop :=
  rightFrom 0 xs = rightFrom low (xs.drop k) ∧ (k = 0 → low = 0) ∧ (0 < k → ∃ s n, withinB s n = true ∧ xs.drop (k - 1) = (s, n) :: xs.drop k ∧ low = s + n + 1)

set_option maxHeartbeats 2000000 in
theorem sRefRight_any (ao : Option Addr) (cap : Nat) (xs : List (Int × Int)) (w : World) (hx : Spans w ao xs) (hf : Fits xs) :
    Calls Try.prog 22 #[.slice ao xs.length cap] w fun e w' => e = .returned (.bool (rightFrom 0 xs)) ∧ Below w.heap.size w w' := by
  have hl := hf.2
  have hf := Lib.hid hf
  have hx := Lib.hid hx
  go_enter Try.func22, Try.ntmps22
  go_wp2
  go_loopw [7] (fun i wr => ∃ (k : Nat) (low : Int), k ≤ xs.length ∧ i = .int .i64 k ∧ PrevIs xs k low ∧ Below w.heap.size w wr)
    (fun i _ => xs.length - (intOf i).toNat)
  case atStart => exact ⟨0, 0, by omega, rfl, ⟨rfl, fun _ => rfl, fun h => absurd h (by omega)⟩, Below.refl _ _⟩
  case round =>
    obtain ⟨k, low, hk, rfl, he, hb⟩ := hrel
    by_cases hlt : k < xs.length
    · have hx' := hx.out.below hb
      obtain ⟨b, off, s, n, rfl, hd, c1, c2, hbb, hs1, hs2, hn1, hn2⟩ := hx'.get hf.out hlt
      have hsz := hb.size
      have hb := Lib.hid hb
      have he := Lib.hid he
      have hx' := Lib.hid hx'
      have hfalse : ∀ (h : withinB s n = false), rightFrom 0 xs = false := fun h => by rw [he.out.1, hd.out]; simp [rightFrom, h]
      have hfalse := Lib.hid hfalse
      by_cases h0 : 0 ≤ s
      · by_cases h1 : 1 ≤ n
        · by_cases h2 : n ≤ 4096
          · by_cases h3 : s ≤ 4096 - n
            · have hw : Hid (withinB s n = true) := Lib.hid (by simp [withinB]; omega)
              by_cases hk0 : k = 0
              · subst hk0
                simp only [Nat.zero_mul, Nat.add_zero] at c1 c2
                go_wp2
                go_quiet (fail)
                go_wp2
                go_roundw
                case rel => exact ⟨1, s + n + 1, by omega, by go_num, ⟨by rw [he.out.1, he.out.2.1 rfl, hd.out]; simp [rightFrom, hw.out, h0], fun h => absurd h (by omega), fun _ => ⟨s, n, hw.out, hd.out, rfl⟩⟩, below_drewN' (hb.out.alloc hsz _) _⟩
                case measure => simp [intOf] <;> omega
              · have hk1 : 0 < k := by omega
                clear hk0
                obtain ⟨s', n', hw', hd', hlow⟩ := he.out.2.2 hk1
                obtain ⟨p0, p1, p2⟩ := withinB_true hw'
                obtain ⟨b', off', s2, n2, e2, hd2, c1', c2', hbb', _, _, _, _⟩ := hx'.out.get hf.out (k := k - 1) (by omega)
                have hd3 := hd2.out
                rw [hd', show k - 1 + 1 = k from by omega] at hd3
                simp at hd3
                obtain ⟨rfl, rfl⟩ := hd3
                cases e2
                have hd' := Lib.hid hd'
                have hw' := Lib.hid hw'
                have hlow := Lib.hid hlow
                have b1 : s' ≤ 4096 := by omega
                by_cases h4 : s ≤ s' + n'
                · go_wp2
                  go_quiet (fail)
                  go_wp2
                  go_ret
                  exact ⟨ret_bool (by rw [he.out.1, hd.out, hlow.out]; simp [rightFrom]; intro _ h; omega), below_drewN' (hb.out.alloc hsz _) _⟩
                · go_wp2
                  go_quiet (fail)
                  go_wp2
                  go_roundw
                  case rel => exact ⟨k + 1, s + n + 1, by omega, by go_num, ⟨by rw [he.out.1, hlow.out, hd.out]; simp [rightFrom, hw.out]; intro h; omega, fun h => absurd h (by omega), fun _ => ⟨s, n, hw.out, hd.out, rfl⟩⟩, below_drewN' (hb.out.alloc hsz _) _⟩
                  case measure => simp [intOf] <;> omega
            · go_wp2
              go_ret
              exact ⟨ret_bool (hfalse.out (by simp [withinB]; intro _ _; omega)).symm, hb.out.alloc hsz _⟩
          · go_wp2
            go_ret
            exact ⟨ret_bool (hfalse.out (by simp [withinB]; intro _ _; omega)).symm, hb.out.alloc hsz _⟩
        · go_wp2
          go_ret
          exact ⟨ret_bool (hfalse.out (by simp [withinB]; intro _ h; omega)).symm, hb.out.alloc hsz _⟩
      · go_wp2
        go_ret
        exact ⟨ret_bool (hfalse.out (by simp [withinB]; intro h; omega)).symm, hb.out.alloc hsz _⟩
    · go_wp2
      go_ret
      exact ⟨ret_bool (by rw [he.1, List.drop_of_length_le (by omega)]; rfl), hb⟩
end Go.Proofs.Ytlbglcmajbhflaa
