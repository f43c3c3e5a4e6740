/- span.Right answers for every list of spans whether it is a set. -/
import Derived.Test.YtlbglcmajbhflaaSpanA
namespace Go.Proofs.Ytlbglcmajbhflaa
open Go.ChangeShapes Go.WideShapes Go.ChangeAt Go.RowKit
set_option linter.unusedVariables false
set_option maxRecDepth 20000

/-- a list of spans in memory, at whatever address -/
def Spans (w : World) (ao : Option Addr) (xs : List (Int × Int)) : Prop :=
  ∀ i (h : i < xs.length), ∃ b off, ao = some ⟨b, off, none⟩ ∧ w.cell? ⟨b, off + i * 2, none⟩ = some (.int .i64 xs[i].1) ∧ w.cell? ⟨b, off + i * 2 + 1, none⟩ = some (.int .i64 xs[i].2)

def Fits (xs : List (Int × Int)) : Prop := (∀ p ∈ xs, I64 p.1 ∧ I64 p.2) ∧ xs.length * 16 ≤ 140737488351232

theorem Spans.below {w w' : World} {ao : Option Addr} {xs : List (Int × Int)} (h : Spans w ao xs) (hb : Below w.heap.size w w') : Spans w' ao xs := by
  intro i hi
  obtain ⟨b, off, e, c1, c2⟩ := h i hi
  exact ⟨b, off, e, (hb.cell (cell_lt c1)).trans c1, (hb.cell (cell_lt c2)).trans c2⟩

/-- one span of a list -/
theorem Spans.get {w : World} {ao : Option Addr} {xs : List (Int × Int)} (h : Spans w ao xs) (hf : Fits xs) {k : Nat} (hk : k < xs.length) :
    ∃ b off s n, ao = some ⟨b, off, none⟩ ∧ Hid (xs.drop k = (s, n) :: xs.drop (k + 1)) ∧ w.cell? ⟨b, off + k * 2, none⟩ = some (.int .i64 s) ∧ w.cell? ⟨b, off + k * 2 + 1, none⟩ = some (.int .i64 n) ∧
      b < w.heap.size ∧ -9223372036854775808 ≤ s ∧ s ≤ 9223372036854775807 ∧ -9223372036854775808 ≤ n ∧ n ≤ 9223372036854775807 := by
  obtain ⟨b, off, e, c1, c2⟩ := h k hk
  obtain ⟨⟨h1, h2⟩, h3, h4⟩ := hf.1 _ (List.getElem_mem hk)
  exact ⟨b, off, _, _, e, List.drop_eq_getElem_cons hk, c1, c2, cell_lt c1, h1, h2, h3, h4⟩

theorem withinB_true {s n : Int} (h : withinB s n = true) : 0 ≤ s ∧ 1 ≤ n ∧ n ≤ 4096 - s := by simpa [withinB] using h

def rightFrom : Int → List (Int × Int) → Bool
  | _, [] => true
  | low, (s, n) :: r => withinB s n && decide (low ≤ s) && rightFrom (s + n + 1) r

set_option maxHeartbeats 400000 in
theorem sRight_any (ao : Option Addr) (cap : Nat) (xs : List (Int × Int)) (w : World) (hx : Spans w ao xs) (hf : Fits xs) :
    Calls Try.prog 23 #[.slice ao xs.length cap] w fun e w' => e = .returned (.bool (rightFrom 0 xs)) ∧ Below w.heap.size w w' := by
  have hl := hf.2
  have hf := Lib.hid hf
  have hx := Lib.hid hx
  go_enter Try.func23, Try.ntmps23
  go_wp2
  go_loopw [3, 8] (fun lo i wr => ∃ (k : Nat) (low : Int), k ≤ xs.length ∧ i = .int .i64 k ∧ lo = .int .i64 low ∧ 0 ≤ low ∧ low ≤ 4097 ∧ Hid (rightFrom 0 xs = rightFrom low (xs.drop k)) ∧ Below w.heap.size w wr)
    (fun _ i _ => xs.length - (intOf i).toNat)
  case atStart => exact ⟨0, 0, by omega, rfl, rfl, by omega, by omega, Lib.hid (by simp), Below.refl _ _⟩
  case round =>
    obtain ⟨k, low, hk, rfl, rfl, hl0, hl1, heq, hb⟩ := hrel
    by_cases hlt : k < xs.length
    · obtain ⟨b, off, s, n, rfl, hd, c1, c2, hbb, hs1, hs2, hn1, hn2⟩ := (hx.out.below hb).get hf.out hlt
      have hh := hb.size
      cases hw : withinB s n
      · go_wp2_with (go_at_call 38; refine (within_any _ _ _ (by omega) (by omega) (by omega) (by omega)).mono ?_; rintro e w' ⟨rfl, hb'⟩; obtain ⟨hcc, hff⟩ := bcell hb')
        go_ret
        refine ⟨ret_bool ?_, (hb.alloc (by omega) _).trans (hb'.mono (by simp; omega))⟩
        rw [heq.out, hd.out]; simp [rightFrom, hw]
      · obtain ⟨w0, w1, w2⟩ := withinB_true hw
        by_cases hlow : low ≤ s
        · go_wp2_with (go_at_call 38; refine (within_any _ _ _ (by omega) (by omega) (by omega) (by omega)).mono ?_; rintro e w' ⟨rfl, hb'⟩; obtain ⟨hcc, hff⟩ := bcell hb')
          go_roundw
          case rel => exact ⟨k + 1, s + n + 1, by omega, by go_num, rfl, by omega, by omega, Lib.hid (by rw [heq.out, hd.out]; simp [rightFrom, hw, hlow]), (hb.alloc (by omega) _).trans (hb'.mono (by simp; omega))⟩
          case measure => simp [intOf]; omega
        · go_wp2_with (go_at_call 38; refine (within_any _ _ _ (by omega) (by omega) (by omega) (by omega)).mono ?_; rintro e w' ⟨rfl, hb'⟩; obtain ⟨hcc, hff⟩ := bcell hb')
          go_ret
          refine ⟨ret_bool ?_, (hb.alloc (by omega) _).trans (hb'.mono (by simp; omega))⟩
          rw [heq.out, hd.out]; simp [rightFrom, hw]; omega
    · go_wp2
      go_ret
      refine ⟨ret_bool ?_, hb⟩
      rw [heq.out, List.drop_of_length_le (by omega)]; rfl
end Go.Proofs.Ytlbglcmajbhflaa
