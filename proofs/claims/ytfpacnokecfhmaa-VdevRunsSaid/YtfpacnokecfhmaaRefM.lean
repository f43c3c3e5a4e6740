/- The document's own device: Read. -/
import Derived.Test.YtfpacnokecfhmaaRefL
namespace Go.Proofs.Ytfpacnokecfhmaa
open Go.ChangeShapes Go.WideShapes Go.ChangeAt Go.RowKit
set_option linter.unusedVariables false

set_option maxRecDepth 100000 in
set_option maxHeartbeats 2000000 in
theorem rRead_in (so : Option Addr) (st : List Sec) (n sc : Nat) (hn : Hid (st.length = n)) (po : Option Addr) (ps : List (Nat × Sec)) (np pc : Nat) (hnp : Hid (ps.length = np)) (ops f : Int) (ho : 0 ≤ ops ∧ ops < 4611686018427387904) (i : Nat) (hi : i < n) (hle : n ≤ 1024) (hlp : np ≤ 1000000000) (x : Sec) (hx : Hid (x = nowOf (st.getD i sec0) ps i)) (w : World) (hr : Reads w so (rowsL secL st)) (hp : Reads w po (rowsL wrL ps)) :
    Calls Try.prog 14 #[.agg #[.slice so n sc, .slice po np pc, .int .i64 ops, .int .i64 f, .bool false], .int .i64 (i : Int)] w fun e w' =>
      e = .returned (.tuple #[.agg (devL so n sc po np pc (ops + 1) f false).toArray, .agg (secL x).toArray, .int .i64 0]) ∧ Below w.heap.size w w' := by
  obtain ⟨ho1, ho2⟩ := ho
  have hz := zeroSec
  have ht := There_any so n sc (.slice po np pc) (.int .i64 (ops + 1)) (.int .i64 f) (.bool false) (i : Int) (by unfold I64; omega) hle
  rw [show (decide (0 ≤ (i : Int)) && decide ((i : Int) < (n : Int))) = true from by simp; omega] at ht
  have ht := Lib.hid ht
  have hN := fun w hr hp => Now_in so st n sc hn po ps np pc hnp (.int .i64 (ops + 1)) (.int .i64 f) (.bool false) i hi hle hlp w hr hp
  rw [← hx.out] at hN
  have hN := Lib.hid hN
  go_enter Try.func14, Try.ntmps14
  go_wp2_with fail
  refine (ht.out _).mono ?_
  rintro e w1 ⟨rfl, b1⟩
  have hB1 := blk_out (((Blk.new w 30 (devL so n sc po np pc (ops + 1) f false)).alloc _).alloc _) b1
  have hR1 := Lib.hid (blk_out ((two_new w _ 30 (devL none 0 0 none 0 0 0 0 false)).alloc _) b1)
  have hS1 := Lib.hid (blk_out (three_at w _ _ 33 (secL sec0)) b1)
  have q1 := Lib.hid ((three_below w _ _ _).trans (b1.mono (by simp; omega)))
  have c4 : w1.cell? ⟨w.heap.size, 4, none⟩ = some (.bool false) := (hB1.cell 4).trans rfl
  have hB1 := Lib.hid hB1
  have hr1 := Lib.hid (show Reads w1.drew so (rowsL secL st) from hr.below q1.out.drew)
  have hp1 := Lib.hid (show Reads w1.drew po (rowsL wrL ps) from hp.below q1.out.drew)
  clear b1 hr hp
  go_upto_region 6 with (first
  | ((with_reducible refine guardList ?_); refine wantList_load (by rfl) 30 _ rfl (w.heap.size) 0 (by rfl) (devL so n sc po np pc (ops + 1) f false) _ (range_dev hB1.out) Try.underlying30 rfl infoDev5 ?_)
  | fail)
  refine inO_region [(0, fun w' => w'.rangeAt (w.heap.size) (0) (devL so n sc po np pc (ops + 1) f false)), (1, fun w' => w'.rangeAt (w.heap.size) (0) (devL so n sc po np pc (ops + 1) f false))] (by kernel_rfl) (Owed.cons (range_dev hB1.out) (Owed.cons (range_dev hB1.out) (Owed.nil _ _))) ?_
  refine inO_load 0 ⟨_, _, _, _, _, _⟩ (.agg (devL so n sc po np pc (ops + 1) f false).toArray) (fun w' => w'.rangeAt (w.heap.size) (0) (devL so n sc po np pc (ops + 1) f false)) rfl (by kernel_rfl) (by kernel_rfl) (by kernel_rfl) (fun _ _ _ h => h) rfl (.head _) (fun ww hw => exec_load_mid _ _ (by rfl) _ _ (by rfl) _ _ hw Try.underlying30 rfl infoDev5) ?_
  simp only [Act.put, List.setIfInBounds_toArray, List.set_cons_zero, List.set_cons_succ]
  refine inO_load 1 ⟨_, _, _, _, _, _⟩ (.agg (devL so n sc po np pc (ops + 1) f false).toArray) (fun w' => w'.rangeAt (w.heap.size) (0) (devL so n sc po np pc (ops + 1) f false)) rfl (by kernel_rfl) (by kernel_rfl) (by kernel_rfl) (fun _ _ _ h => h) rfl (.tail _ (.head _)) (fun ww hw => exec_load_mid _ _ (by rfl) _ _ (by rfl) _ _ hw Try.underlying30 rfl infoDev5) ?_
  simp only [Act.put, List.setIfInBounds_toArray, List.set_cons_zero, List.set_cons_succ]
  refine inO_take 2 ⟨_, _, _, _, _, _⟩ (.int .i64 (i : Int)) rfl (by kernel_rfl) (by kernel_rfl) (by kernel_rfl) (fun _ _ _ h => h) rfl (fun ww => exec_move (by rfl) (by rfl) ww) ?_
  simp only [Act.put, List.setIfInBounds_toArray, List.set_cons_zero, List.set_cons_succ]
  refine inO_step 3 ⟨_, _, _, _, _, _⟩ rfl (by kernel_rfl) rfl (fun K hK => ?_)
  refine wp_call Try.func33 (by kernel_rfl) rfl _ _ rfl _ rfl _ (hN.out w1.drew hr1.out hp1.out) fun e wA h => ?_
  obtain ⟨rfl, bA⟩ := h
  have hRA := Lib.hid (hR1.out.drew.below bA hR1.out.lt)
  have hSA := Lib.hid (hS1.out.drew.below bA hS1.out.lt)
  have qA := Lib.hid (q1.out.drew.trans (bA.mono q1.out.size))
  refine ⟨_, rfl, ?_⟩
  refine hK _ _ (Keeps.cons (fun hh => range_below hh bA) (Keeps.cons (fun hh => range_below hh bA) (Keeps.nil _ _ _))) ?_
  clear hK K
  simp only [Act.put, List.setIfInBounds_toArray, List.set_cons_zero, List.set_cons_succ]
  refine inO_step 4 ⟨_, _, _, _, _, _⟩ rfl (by kernel_rfl) rfl (fun K hK => ?_)
  refine wp_store_blk 30 _ _ rfl (w.heap.size + 1) 0 rfl (devL so n sc po np pc (ops + 1) f false) rfl _ (devL none 0 0 none 0 0 0 0 false) (devL so n sc po np pc (ops + 1) f false) hRA.out (Nat.le_of_eq rfl) devL_one infoDev5 whole_dev fun wB hRB kB zB => ?_
  have hRB := Lib.hid hRB
  have hSB := Lib.hid (hSA.out.kept kB (by omega))
  have qB := Lib.hid (Kept.out qA.out kB (fun i _ e => by omega) qA.out.size)
  clear kB zB
  refine hK _ _ (Keeps.late (by kernel_rfl) (Keeps.late (by kernel_rfl) (Keeps.nil _ _ _))) ?_
  clear hK K
  simp only [Act.put]
  refine inO_step 5 ⟨_, _, _, _, _, _⟩ rfl (by kernel_rfl) rfl (fun K hK => ?_)
  refine wp_store_blk 33 _ _ rfl (w.heap.size + 2) 0 rfl (secL x) rfl _ (secL sec0) (secL x) hSB.out (by simp [secL_length]) (secL_one _) (infoSecL _) (whole_new (by simp [secL_length])) fun wC hSC kC zC => ?_
  have hSC := Lib.hid hSC
  have hRC := Lib.hid (hRB.out.kept kC (by omega))
  have qC := Lib.hid (Kept.out qB.out kC (fun i _ e => by omega) qB.out.size)
  clear kC zC
  refine hK _ _ (Keeps.late (by kernel_rfl) (Keeps.late (by kernel_rfl) (Keeps.nil _ _ _))) ?_
  clear hK K
  simp only [Act.put]
  refine inO_take 6 ⟨_, _, _, _, _, _⟩ (.int .i64 0) rfl (by kernel_rfl) (by kernel_rfl) (by kernel_rfl) (fun _ _ _ h => h) rfl (fun ww => by go_simp) ?_
  simp only [Act.put, List.setIfInBounds_toArray, List.set_cons_zero, List.set_cons_succ]
  refine inO_done (by kernel_rfl) ?_
  go_wp2
  refine bodyPost_ret (results_row_row_tmp rfl (rowDev hRC.out) (rowSec hSC.out)) rfl ⟨rfl, qC.out⟩
end Go.Proofs.Ytfpacnokecfhmaa
