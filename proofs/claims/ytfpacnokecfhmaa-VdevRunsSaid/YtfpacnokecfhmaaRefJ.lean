/- The document's own device: Read, refused. -/
import Derived.Test.YtfpacnokecfhmaaRefI
namespace Go.Proofs.Ytfpacnokecfhmaa
open Go.ChangeShapes Go.WideShapes Go.ChangeAt Go.RowKit
set_option linter.unusedVariables false

set_option maxHeartbeats 1000000 in
theorem rRead_out (so : Option Addr) (n sc : Nat) (po : Option Addr) (np pc : Nat) (ops f : Int) (dd : Bool) (ho : 0 ≤ ops ∧ ops < 4611686018427387904) (i : Int) (hi : I64 i) (hle : n ≤ 1024) (hh : (decide (0 ≤ i) && decide (i < (n : Int))) = false) (w : World) :
    Calls Try.prog 14 #[.agg #[.slice so n sc, .slice po np pc, .int .i64 ops, .int .i64 f, .bool dd], .int .i64 i] w fun e w' =>
      e = .returned (.tuple #[.agg (devL so n sc po np pc (ops + 1) f dd).toArray, .agg (secL sec0).toArray, .int .i64 41]) ∧ Below w.heap.size w w' := by
  obtain ⟨ho1, ho2⟩ := ho
  have hz := zeroSec
  have ht := There_any so n sc (.slice po np pc) (.int .i64 (ops + 1)) (.int .i64 f) (.bool dd) i hi hle
  rw [hh] at ht
  have ht := Lib.hid ht
  go_enter Try.func14, Try.ntmps14
  go_wp2_with fail
  refine (ht.out _).mono ?_
  rintro e w1 ⟨rfl, b1⟩
  have hB1 := blk_out (((Blk.new w 30 (devL so n sc po np pc (ops + 1) f dd)).alloc _).alloc _) b1
  have hR1 := Lib.hid (blk_out ((two_new w _ 30 (devL none 0 0 none 0 0 0 0 false)).alloc _) b1)
  have hS1 := Lib.hid (blk_out (three_at w _ _ 33 (secL sec0)) b1)
  have q1 := Lib.hid ((three_below w _ _ _).trans (b1.mono (by simp; omega)))
  have c4 : w1.cell? ⟨w.heap.size, 4, none⟩ = some (.bool dd) := (hB1.cell 4).trans rfl
  have hB1 := Lib.hid hB1
  clear b1
  go_wp2_with (first
  | ((with_reducible refine guardList ?_); refine wantList_load (by rfl) 30 _ rfl (w.heap.size) 0 (by rfl) (devL so n sc po np pc (ops + 1) f dd) _ (range_dev hB1.out) Try.underlying30 rfl infoDev5 ?_)
  | ((with_reducible refine guardList ?_); refine wantList_build (by rfl) 33 [] rfl (secL sec0) _ (by rfl) built_sec0 ?_)
  | ((with_reducible refine guardList ?_)
     refine wantList_store (by rfl) 30 _ _ rfl (w.heap.size + 1) 0 (by rfl) (devL so n sc po np pc (ops + 1) f dd) (by rfl) _ (devL none 0 0 none 0 0 0 0 false) (devL so n sc po np pc (ops + 1) f dd) hR1.out (Nat.le_of_eq rfl) devL_one infoDev5 whole_dev ?_
     intro w3 hR3 k3 z3
     have hR3 := Lib.hid hR3
     have hS3 := Lib.hid (hS1.out.kept k3 (by omega))
     have q3 := Lib.hid (Kept.out q1.out k3 (fun i _ e => by omega) q1.out.size)
     clear k3 z3)
  | ((with_reducible refine guardList ?_)
     refine wantList_store (by rfl) 33 _ _ rfl (w.heap.size + 2) 0 (by rfl) (secL sec0) (by rfl) _ (secL sec0) (secL sec0) hS3.out (by simp [secL_length]) (secL_one _) (infoSecL _) (whole_new (by simp [secL_length])) ?_
     intro w4 hS4 k4 z4
     have hS4 := Lib.hid hS4
     have hR4 := Lib.hid (hR3.out.kept k4 (by omega))
     have q4 := Lib.hid (Kept.out q3.out k4 (fun i _ e => by omega) q3.out.size)
     clear k4 z4))
  refine bodyPost_ret (results_row_row_tmp rfl (rowDev hR4.out) (rowSec hS4.out)) rfl ⟨rfl, q4.out⟩

set_option maxHeartbeats 1000000 in
theorem rRead_dead (so : Option Addr) (n sc : Nat) (po : Option Addr) (np pc : Nat) (ops f : Int) (ho : 0 ≤ ops ∧ ops < 4611686018427387904) (i : Int) (hi : I64 i) (hle : n ≤ 1024) (hh : (decide (0 ≤ i) && decide (i < (n : Int))) = true) (w : World) :
    Calls Try.prog 14 #[.agg #[.slice so n sc, .slice po np pc, .int .i64 ops, .int .i64 f, .bool true], .int .i64 i] w fun e w' =>
      e = .returned (.tuple #[.agg (devL so n sc po np pc (ops + 1) f true).toArray, .agg (secL sec0).toArray, .int .i64 42]) ∧ Below w.heap.size w w' := by
  obtain ⟨ho1, ho2⟩ := ho
  have hz := zeroSec
  have ht := There_any so n sc (.slice po np pc) (.int .i64 (ops + 1)) (.int .i64 f) (.bool true) i hi hle
  rw [hh] at ht
  have ht := Lib.hid ht
  go_enter Try.func14, Try.ntmps14
  go_wp2_with fail
  refine (ht.out _).mono ?_
  rintro e w1 ⟨rfl, b1⟩
  have hB1 := blk_out (((Blk.new w 30 (devL so n sc po np pc (ops + 1) f true)).alloc _).alloc _) b1
  have hR1 := Lib.hid (blk_out ((two_new w _ 30 (devL none 0 0 none 0 0 0 0 false)).alloc _) b1)
  have hS1 := Lib.hid (blk_out (three_at w _ _ 33 (secL sec0)) b1)
  have q1 := Lib.hid ((three_below w _ _ _).trans (b1.mono (by simp; omega)))
  have c4 : w1.cell? ⟨w.heap.size, 4, none⟩ = some (.bool true) := (hB1.cell 4).trans rfl
  have hB1 := Lib.hid hB1
  clear b1
  go_wp2_with (first
  | ((with_reducible refine guardList ?_); refine wantList_load (by rfl) 30 _ rfl (w.heap.size) 0 (by rfl) (devL so n sc po np pc (ops + 1) f true) _ (range_dev hB1.out) Try.underlying30 rfl infoDev5 ?_)
  | ((with_reducible refine guardList ?_); refine wantList_build (by rfl) 33 [] rfl (secL sec0) _ (by rfl) built_sec0 ?_)
  | ((with_reducible refine guardList ?_)
     refine wantList_store (by rfl) 30 _ _ rfl (w.heap.size + 1) 0 (by rfl) (devL so n sc po np pc (ops + 1) f true) (by rfl) _ (devL none 0 0 none 0 0 0 0 false) (devL so n sc po np pc (ops + 1) f true) hR1.out (Nat.le_of_eq rfl) devL_one infoDev5 whole_dev ?_
     intro w3 hR3 k3 z3
     have hR3 := Lib.hid hR3
     have hS3 := Lib.hid (hS1.out.kept k3 (by omega))
     have q3 := Lib.hid (Kept.out q1.out k3 (fun i _ e => by omega) q1.out.size)
     clear k3 z3)
  | ((with_reducible refine guardList ?_)
     refine wantList_store (by rfl) 33 _ _ rfl (w.heap.size + 2) 0 (by rfl) (secL sec0) (by rfl) _ (secL sec0) (secL sec0) hS3.out (by simp [secL_length]) (secL_one _) (infoSecL _) (whole_new (by simp [secL_length])) ?_
     intro w4 hS4 k4 z4
     have hS4 := Lib.hid hS4
     have hR4 := Lib.hid (hR3.out.kept k4 (by omega))
     have q4 := Lib.hid (Kept.out q3.out k4 (fun i _ e => by omega) q3.out.size)
     clear k4 z4))
  refine bodyPost_ret (results_row_row_tmp rfl (rowDev hR4.out) (rowSec hS4.out)) rfl ⟨rfl, q4.out⟩
end Go.Proofs.Ytfpacnokecfhmaa
