/- A map's Alloc and Many. -/
import Derived.Test.YthnncohkdgaipaaSlabC
namespace Go.Proofs.Ythnncohkdgaipaa
open Go.ChangeShapes Go.WideShapes Go.ChangeAt Go.RowKit
set_option linter.unusedVariables false
set_option maxRecDepth 20000

/-- what Alloc answers -/
def allocI (f : Nat → Nat) : Int := match allocO f with
  | some i => (i : Int)
  | none => 0
def allocE (f : Nat → Nat) : Int := match allocO f with
  | some i => 0
  | none => 71

theorem alloc_idx (f : Nat → Nat) : (∃ j : Nat, idxI (fun j => f (64 * bestS f + j) == 1) 64 = (j : Int) ∧ j < 64 ∧ allocO f = some (64 * bestS f + j)) ∨ (idxI (fun j => f (64 * bestS f + j) == 1) 64 = -1 ∧ allocO f = none) := by
  have hx : allocO f = (idxF (fun j => f (64 * bestS f + j) == 1) 64).map (64 * bestS f + ·) := rfl
  rw [hx]
  unfold idxI
  cases h : idxF (fun j => f (64 * bestS f + j) == 1) 64 with
  | none => exact .inr ⟨rfl, rfl⟩
  | some j => exact .inl ⟨j, rfl, (idxF_some h).1, rfl⟩

set_option maxHeartbeats 1000000 in
theorem Alloc_any (B : Nat) (f : Nat → Nat) (w : World) (hm : MapAt w B f) :
    Calls Try.prog 23 #[.pointer (some ⟨B, 0, none⟩)] w fun e w' =>
      e = .returned (.tuple #[.int .i64 (allocI f), .int .i64 (allocE f)]) ∧ MapAt w' B (updO f (allocO f)) ∧ Kept (· = B) w w' := by
  have hBw := hm.lt
  have hm := Lib.hid hm
  have hs := bestS_lt f
  have hx := alloc_idx f
  obtain ⟨s, hsd⟩ : ∃ s, s = bestS f := ⟨_, rfl⟩
  rw [← hsd] at hs hx
  have hcut := cut_arr B ((s : Int) * 64) ((s : Int) * 64 + 64) w (by omega) (by omega) (by omega)
  rw [show ((s : Int) * 64 + 64 - (s : Int) * 64).toNat = 64 from by omega, show ((s : Int) * 64).toNat = 64 * s from by omega] at hcut
  have Hsd := Lib.hid hsd
  clear hsd
  rcases hx with ⟨j, hi, hj, ho⟩ | ⟨hi, ho⟩
  · have Hi := Lib.hid hi
    have Ho := Lib.hid ho
    clear hi ho
    have c1 := hm.out.cell (i := s * 64 + j) (by omega)
    have c2 := hm.out.frozen (s * 64 + j)
    go_enter Try.func23, Try.ntmps23
    go_wp2_with fail
    refine (roomiest_any B f w hm.out).mono ?_
    rintro e w1 ⟨rfl, rfl⟩
    rw [← Hsd.out]
    go_wp2_with fail
    refine (Index_any B (64 * s) 64 _ f w1 hm.out (by omega)).mono ?_
    rintro e w1 ⟨rfl, rfl⟩
    rw [Hi.out]
    go_wp2
    refine bodyPost_ret (v := .tuple #[.int .i64 ((s : Int) * 64 + j), .int .i64 0]) (by simp [results, Try.results23, go_sem]) rfl ?_
    refine ⟨by unfold allocI allocE; rw [Ho.out]; simp; omega, ?_, Kept.cellAt w1 B (s * 64 + j) _⟩
    rw [Ho.out, show 64 * s + j = s * 64 + j from by omega]
    exact hm.out.set (s * 64 + j) 2
  · have Hi := Lib.hid hi
    have Ho := Lib.hid ho
    clear hi ho
    go_enter Try.func23, Try.ntmps23
    go_wp2_with fail
    refine (roomiest_any B f w hm.out).mono ?_
    rintro e w1 ⟨rfl, rfl⟩
    rw [← Hsd.out]
    go_wp2_with fail
    refine (Index_any B (64 * s) 64 _ f w1 hm.out (by omega)).mono ?_
    rintro e w1 ⟨rfl, rfl⟩
    rw [Hi.out]
    go_wp2
    refine bodyPost_ret (v := .tuple #[.int .i64 0, .int .i64 71]) (by simp [results, Try.results23, go_sem]) rfl ?_
    refine ⟨by unfold allocI allocE; rw [Ho.out], ?_, Kept.refl _ _⟩
    rw [Ho.out]
    exact hm.out
end Go.Proofs.Ythnncohkdgaipaa
