/- Same, SameInts and span.First answer as their plain functions do, for every input. -/
import Derived.Test.YtlbglcmajbhflaaSpanG
namespace Go.Proofs.Ytlbglcmajbhflaa
open Go.ChangeShapes Go.WideShapes Go.ChangeAt Go.RowKit
set_option linter.unusedVariables false
set_option maxRecDepth 20000

theorem take_of_drop {α : Type} {xs : List α} {k : Nat} {a : α} (h : xs.drop k = a :: xs.drop (k + 1)) : xs.take (k + 1) = xs.take k ++ [a] := by
  have hk : k < xs.length := by
    by_cases hk : k < xs.length
    · exact hk
    · rw [List.drop_of_length_le (by omega)] at h; cases h
  rw [List.drop_eq_getElem_cons hk] at h
  rw [List.take_succ_eq_append_getElem hk, (List.cons.inj h).1]

theorem ne_of_drop {α : Type} {xs ys : List α} {k : Nat} {a b : α} {r s : List α} (h : xs.drop k = a :: r) (h' : ys.drop k = b :: s) (hab : a ≠ b) : xs ≠ ys := by
  rintro rfl
  rw [h] at h'
  exact hab (List.cons.inj h').1

set_option maxHeartbeats 1000000 in
theorem Same_any (ao bo : Option Addr) (cap cap' : Nat) (xs ys : List (Int × Int)) (w : World) (hx : Spans w ao xs) (hy : Spans w bo ys) (hf : Fits xs) (hg : Fits ys) :
    Calls Try.prog 14 #[.slice ao xs.length cap, .slice bo ys.length cap'] w fun e w' => e = .returned (.bool (decide (xs = ys))) ∧ Below w.heap.size w w' := by
  have hl := hf.2
  have hl' := hg.2
  have hf := Lib.hid hf
  have hg := Lib.hid hg
  have hx := Lib.hid hx
  have hy := Lib.hid hy
  by_cases hlen : xs.length = ys.length
  · have hne : ((xs.length : Int) != (ys.length : Int)) = false := by simp [hlen]
    have hlen := Lib.hid hlen
    go_enter Try.func14, Try.ntmps14
    go_wp2
    go_loopw [13] (fun i wr => ∃ k : Nat, k ≤ xs.length ∧ i = .int .i64 k ∧ Hid (xs.take k = ys.take k) ∧ Below w.heap.size w wr)
      (fun i _ => xs.length - (intOf i).toNat)
    case atStart => exact ⟨0, by omega, rfl, Lib.hid (by simp), Below.refl _ _⟩
    case round =>
      obtain ⟨k, hk, rfl, he, hb⟩ := hrel
      by_cases hlt : k < xs.length
      · have hlt' : k < ys.length := by have := hlen.out; omega
        obtain ⟨b, off, s, n, rfl, hd, c1, c2, hbb, hs1, hs2, hn1, hn2⟩ := (hx.out.below hb).get hf.out hlt
        obtain ⟨b', off', s', n', rfl, hd', c1', c2', hbb', hs1', hs2', hn1', hn2'⟩ := (hy.out.below hb).get hg.out hlt'
        have hb := Lib.hid hb
        by_cases e1 : s = s'
        · subst e1
          by_cases e2 : n = n'
          · subst e2
            go_wp2
            go_quiet (fail)
            go_wp2
            go_roundw
            case rel => exact ⟨k + 1, by omega, by go_num, Lib.hid (by rw [take_of_drop hd.out, take_of_drop hd'.out, he.out]), below_drewN' hb.out _⟩
            case measure => simp [intOf] <;> omega
          · have e2 : (n == n') = false := by simp [e2]
            go_wp2
            go_quiet (fail)
            go_wp2
            go_ret
            exact ⟨ret_bool (by simp; exact ne_of_drop hd.out hd'.out (by simp at e2; simp [e2])), below_drewN' hb.out _⟩
        · have e1 : (s == s') = false := by simp [e1]
          go_wp2
          go_quiet (fail)
          go_wp2
          go_ret
          exact ⟨ret_bool (by simp; exact ne_of_drop hd.out hd'.out (by simp at e1; simp [e1])), below_drewN' hb.out _⟩
      · go_wp2
        go_ret
        refine ⟨ret_bool ?_, hb⟩
        have h1 := he.out
        have h2 := hlen.out
        rw [List.take_of_length_le (by omega), List.take_of_length_le (by omega)] at h1
        simp [h1]
  · have hne : ((xs.length : Int) != (ys.length : Int)) = true := by simp; omega
    go_enter Try.func14, Try.ntmps14
    go_wp2
    go_ret
    exact ⟨ret_bool (by simp; rintro rfl; exact hlen rfl), Below.refl _ _⟩

/-- the first so many numbers side by side -/
def firstL (xs : List (Int × Int)) (m : Int) : Option (Int × Int) := if 1 ≤ m then (xs.find? fun p => decide (m ≤ p.2)).map (fun p => (p.1, m)) else none

/-- what a call of First answers -/
def FirstSays (r : Option (Int × Int)) (w : World) (e : Ending) (w' : World) : Prop :=
  (match r with
    | some p => e = .returned (.tuple #[.agg #[.int .i64 p.1, .int .i64 p.2], .bool true])
    | none => e = .returned (.tuple #[.agg #[.int .i64 0, .int .i64 0], .bool false])) ∧ Below w.heap.size w w'

theorem find_step {α : Type} {p : α → Bool} {xs : List α} {k : Nat} {a : α} (h : xs.drop k = a :: xs.drop (k + 1)) : (xs.drop k).find? p = if p a then some a else (xs.drop (k + 1)).find? p := by
  rw [h, List.find?_cons]
  cases p a <;> simp

end Go.Proofs.Ytlbglcmajbhflaa

