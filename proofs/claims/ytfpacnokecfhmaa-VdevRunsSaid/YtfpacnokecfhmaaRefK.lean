/- The document's own device: Rot, refused; At, out of range. -/
import Derived.Test.YtfpacnokecfhmaaRefJ
namespace Go.Proofs.Ytfpacnokecfhmaa
open Go.ChangeShapes Go.WideShapes Go.ChangeAt Go.RowKit
set_option linter.unusedVariables false

set_option maxHeartbeats 1000000 in
theorem At_out (so : Option Addr) (n sc : Nat) (x1 x2 x3 x4 : Value) (i : Int) (hi : I64 i) (hle : n ≤ 1024) (hh : (decide (0 ≤ i) && decide (i < (n : Int))) = false) (w : World) :
    Calls Try.prog 29 #[.agg #[.slice so n sc, x1, x2, x3, x4], .int .i64 i] w fun e w' => e = .returned (.agg (secL sec0).toArray) ∧ Below w.heap.size w w' := by
  have hz := zeroSec
  have ht := There_any so n sc x1 x2 x3 x4 i hi hle
  rw [hh] at ht
  have ht := Lib.hid ht
  go_enter Try.func29, Try.ntmps29
  go_wp2_with fail
  refine (ht.out _).mono ?_
  rintro e w1 ⟨rfl, b1⟩
  have hR1 := Lib.hid (blk_out (two_new w _ 33 (secL sec0)) b1)
  have q1 := Lib.hid ((two_below w _ _).trans (b1.mono (by simp; omega)))
  clear b1
  go_wp2_with (first
  | ((with_reducible refine guardList ?_); refine wantList_build (by rfl) 33 [] rfl (secL sec0) _ (by rfl) built_sec0 ?_)
  | ((with_reducible refine guardList ?_)
     refine wantList_store (by rfl) 33 _ _ rfl (w.heap.size + 1) 0 (by rfl) (secL sec0) (by rfl) _ (secL sec0) (secL sec0) hR1.out (by simp [secL_length]) (secL_one _) (infoSecL _) (whole_new (by simp [secL_length])) ?_
     intro w2 hR2 k2 z2
     have hR2 := Lib.hid hR2
     have q2 := Lib.hid (Kept.out q1.out k2 (fun i _ e => by omega) q1.out.size)
     clear k2 z2))
  refine bodyPost_ret (results_row rfl (rowSec hR2.out)) rfl ⟨rfl, q2.out⟩

set_option maxHeartbeats 1000000 in
theorem rRot_out (so : Option Addr) (n sc : Nat) (po : Option Addr) (np pc : Nat) (ops f : Int) (dd : Bool) (i : Int) (hi : I64 i) (hle : n ≤ 1024) (s : Sec) (hh : (decide (0 ≤ i) && decide (i < (n : Int))) = false) (w : World) :
    Calls Try.prog 24 #[.agg #[.slice so n sc, .slice po np pc, .int .i64 ops, .int .i64 f, .bool dd], .int .i64 i, .agg (secL s).toArray] w fun e w' =>
      e = .returned (.tuple #[.agg (devL so n sc po np pc ops f dd).toArray, .int .i64 41]) ∧ Below w.heap.size w w' := by
  have ht := There_any so n sc (.slice po np pc) (.int .i64 ops) (.int .i64 f) (.bool dd) i hi hle
  rw [hh] at ht
  have ht := Lib.hid ht
  go_enter Try.func24, Try.ntmps24
  go_wp2_with fail
  refine (ht.out _).mono ?_
  rintro e w1 ⟨rfl, b1⟩
  have hB1 := Lib.hid (blk_out (((Blk.new w 30 (devL so n sc po np pc ops f dd)).alloc _).alloc _) b1)
  have hR1 := Lib.hid (blk_out (three_at w _ _ 30 (devL none 0 0 none 0 0 0 0 false)) b1)
  have q1 := Lib.hid ((three_below w _ _ _).trans (b1.mono (by simp; omega)))
  clear b1
  go_wp2_with (first
  | ((with_reducible refine guardList ?_); refine wantList_load (by rfl) 30 _ rfl (w.heap.size) 0 (by rfl) (devL so n sc po np pc ops f dd) _ (range_dev hB1.out) Try.underlying30 rfl infoDev5 ?_)
  | ((with_reducible refine guardList ?_)
     refine wantList_store (by rfl) 30 _ _ rfl (w.heap.size + 2) 0 (by rfl) (devL so n sc po np pc ops f dd) (by rfl) _ (devL none 0 0 none 0 0 0 0 false) (devL so n sc po np pc ops f dd) hR1.out (Nat.le_of_eq rfl) devL_one infoDev5 whole_dev ?_
     intro w3 hR3 k3 z3
     have hR3 := Lib.hid hR3
     have q3 := Lib.hid (Kept.out q1.out k3 (fun i _ e => by omega) q1.out.size)
     clear k3 z3))
  refine bodyPost_ret (results_row_tmp rfl (rowDev hR3.out)) rfl ⟨rfl, q3.out⟩
end Go.Proofs.Ytfpacnokecfhmaa
