/- span.Both answers for any sets; the chapter's example holds. -/
import Derived.Test.YtnfcjdfjbabldaaSpanP
namespace Go.Proofs.Ytnfcjdfjbabldaa
open Go.ChangeShapes Go.WideShapes Go.ChangeAt Go.RowKit
set_option linter.unusedVariables false

set_option maxHeartbeats 1000000 in
theorem Both_any (ao bo : Option Addr) (cap cap' : Nat) (xs ys : List (Int × Int)) (w : World) (hx : Spans w ao xs) (hr : rightFrom 0 xs = true)
    (hy : Spans w bo ys) (hr' : rightFrom 0 ys = true) :
    Calls Try.prog 27 #[.slice ao xs.length cap, .slice bo ys.length cap'] w fun e w' => ∃ v, e = .returned v ∧ OwnS w' w.heap.size v (runs (fun j => maskS xs j && maskS ys j) 4096) ∧ Below w.heap.size w w' := by
  have hA := Lib.hid hx.lt
  have hA' := Lib.hid hy.lt
  have hx := Lib.hid hx
  have hy := Lib.hid hy
  have hr := Lib.hid hr
  have hr' := Lib.hid hr'
  go_enter Try.func27, Try.ntmps27
  go_wp2_with fail
  refine (Cut_any ao bo cap cap' xs ys w hx.out (right_fits hr.out) hr.out hy.out (right_fits hr'.out) hr'.out).mono ?_
  rintro e w1 ⟨v1, rfl, ho1, hb1⟩
  obtain ⟨co, cc, rfl, hs1, hC⟩ := ho1.lt
  have hb1 := Lib.hid hb1
  have hs1 := Lib.hid hs1
  have hC := Lib.hid hC
  clear ho1
  go_wp2_with fail
  refine (Cut_any ao co cap cc xs _ w1 (hx.out.below hb1.out) (right_fits hr.out) hr.out hs1.out (runs_fits _) (runs_right _)).mono ?_
  rintro e w' ⟨v, rfl, ho, hb'⟩
  have hsz := hb1.out.size
  have e : runs (fun j => maskS xs j && !maskS (runs (fun j => maskS xs j && !maskS ys j) 4096) j) 4096 = runs (fun j => maskS xs j && maskS ys j) 4096 := runs_eq fun j hj => by
    rw [runs_mask _ hj]
    cases maskS xs j <;> cases maskS ys j <;> rfl
  rw [e] at ho
  have ho := Lib.hid (ho.le hsz)
  have hb' := Lib.hid (hb'.mono hsz)
  clear e
  go_wp2
  go_ret
  exact ⟨_, rfl, ho.out, hb1.out.trans hb'.out⟩

def exNums : List Int := [5, 3, 4, 9]
def exSpans : List (Int × Int) := [(3, 3), (9, 1)]

theorem ex_runs : runs (maskOf exNums) 4096 = exSpans := by
  refine right_of_masks (runs_right _) (by decide) fun j hj => ?_
  rw [runs_mask _ hj]
  rw [Bool.eq_iff_iff]
  simp [maskOf, exNums, maskS, hasL, exSpans]
  omega

theorem ex_first : firstL exSpans 2 = some (3, 2) := by decide

theorem ex_nums (w : World) : Nums (w.alloc (.cells #[.int .i64 5, .int .i64 3, .int .i64 4, .int .i64 9] 3)) (some ⟨w.heap.size, 0, none⟩) exNums := by
  intro i hi
  refine ⟨w.heap.size, 0, rfl, ?_⟩
  match i, hi with
  | 0, _ => simp [exNums]
  | 1, _ => simp [exNums]
  | 2, _ => simp [exNums]
  | 3, _ => simp [exNums]

theorem ex_spans (w : World) : Spans (w.alloc (.cells #[.int .i64 3, .int .i64 3, .int .i64 9, .int .i64 1] 34)) (some ⟨w.heap.size, 0, none⟩) exSpans := by
  intro i hi
  refine ⟨w.heap.size, 0, rfl, ?_, ?_⟩
  all_goals
    match i, hi with
    | 0, _ => simp [exSpans]
    | 1, _ => simp [exSpans]

theorem ex_fits : FitsI exNums := ⟨by intro z hz; simp [exNums] at hz; unfold I64; omega, by simp [exNums]⟩
theorem ex_fitsS : Fits exSpans := ⟨by intro z hz; simp [exSpans] at hz; unfold I64; rcases hz with rfl | rfl <;> simp, by simp [exSpans]⟩

set_option maxHeartbeats 1000000 in
theorem alive_any (w : World) : Calls Try.prog 11 #[] w fun e w' => e = .returned (.bool true) ∧ Below w.heap.size w w' := by
  have hb0 := Lib.hid ((Below.refl w.heap.size w).alloc (Nat.le_refl _) (.cells #[.int .i64 5, .int .i64 3, .int .i64 4, .int .i64 9] 3))
  go_enter Try.func11, Try.ntmps11
  go_wp2_with fail
  refine (Of_any _ 4 exNums _ (ex_nums w) ex_fits).mono ?_
  rintro e w1 ⟨v1, rfl, ho1, hb1⟩
  rw [ex_runs] at ho1
  obtain ⟨ao, cap, rfl, hs1, hA⟩ := ho1.lt
  have hb1 := Lib.hid (hb0.out.trans (hb1.mono (by simp)))
  have hs1 := Lib.hid hs1
  have hA := Lib.hid hA
  have hlen : exSpans.length = 2 := rfl
  clear ho1
  go_wp2_with fail
  refine (First_any ao cap exSpans 2 w1 hs1.out ex_fitsS (by omega) (by omega)).mono ?_
  rintro e w2 hfs
  rw [ex_first] at hfs
  obtain ⟨rfl, hb2⟩ := hfs
  have hs2 := Lib.hid (hs1.out.below hb2)
  have hb2 := Lib.hid (hb1.out.trans (hb2.mono hb1.out.size))
  have hsz := hb2.out.size
  go_wp2_with fail
  have hb3 := (hb2.out.alloc hsz (.cells #[.int .i64 3, .int .i64 2] 34)).alloc (by simp; omega) (.cells #[.int .i64 3, .int .i64 3, .int .i64 9, .int .i64 1] 34)
  have hb3 := Lib.hid hb3
  have hs3 := hb3.out.size
  refine (Same_any ao _ cap 2 exSpans exSpans _ (hs2.out.below (((Below.refl _ _).alloc (Nat.le_refl _) _).alloc (by simp) _)) (by have := ex_spans (w2.alloc (.cells #[.int .i64 3, .int .i64 2] 34)); simpa using this) ex_fitsS ex_fitsS).mono ?_
  rintro e w4 ⟨rfl, hb4⟩
  have q1 : w4.cell? ⟨w2.heap.size, 0, none⟩ = some (.int .i64 3) := (hb4.cell (p := ⟨w2.heap.size, 0, none⟩) (by simp; omega)).trans (by simp)
  have q2 : w4.cell? ⟨w2.heap.size, 1, none⟩ = some (.int .i64 2) := (hb4.cell (p := ⟨w2.heap.size, 1, none⟩) (by simp; omega)).trans (by simp)
  have hb4 := Lib.hid (hb3.out.trans (hb4.mono hs3))
  go_wp2
  go_ret
  exact ⟨rfl, hb4.out⟩
end Go.Proofs.Ytnfcjdfjbabldaa
