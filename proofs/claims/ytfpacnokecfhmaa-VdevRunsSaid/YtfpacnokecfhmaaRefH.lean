/- The document's own device: Put. -/
import Derived.Test.YtfpacnokecfhmaaRefG
namespace Go.Proofs.Ytfpacnokecfhmaa
open Go.ChangeShapes Go.WideShapes Go.ChangeAt Go.RowKit
set_option linter.unusedVariables false

theorem infoRw3 : (Try.prog.info? 66).map (fun i => (i.zero, i.size, i.bytes)) = some (some (.agg (wrL (0, sec0)).toArray), 129, 136) := by kernel_rfl
theorem zeroRwL (p : Nat × Sec) : ((Try.prog.info? 66).bind (·.zero)).map (·.cells.size) = some (wrL p).length := by
  rw [wrL_length]; kernel_rfl
theorem zeroSecL4 (s : Sec) : ((Try.prog.info? 33).bind (·.zero)).map (·.cells.size) = some (secL s).length := by
  rw [secL_length]; kernel_rfl
theorem built_rw (i : Nat) (s : Sec) : Try.prog.built 66 [(0, .int .i64 (i : Int)), (1, .agg (secL s).toArray)] = some (wrL (i, s)).toArray := by
  have h1 : Try.prog.built 66 [(0, .int .i64 (i : Int)), (1, .agg (secL s).toArray)] = Instr.fill (#[(0, 1), (1, 128)][·]?) (wrL (0, sec0)).toArray [(0, .int .i64 (i : Int)), (1, .agg (secL s).toArray)] := by kernel_rfl
  rw [h1, fill_cons _ _ 0 _ _ 0 [.int .i64 (i : Int)] rfl rfl (by simp [wrL_length]), fill_cons _ _ 1 _ _ 1 (secL s) (by simp [secL_length]) rfl (by simp [wrL, secL_length]), fill_nil]
  simp [wrL, secL_length]
section
variable {ops : Array Oper} {rest : List Oper} {o : Oper} {a : Act} {Q : Exit → Act → World → Prop}
theorem wpList_copyWrs (hgd : o.guard = none) (s x : Operand) (ho : o.op = .call { callee := .builtin .append, args := #[s, x], argTypes := #[28, 28] })
    (w : World) (hs : a.eval s = .slice (some ⟨w.heap.size, 0, none⟩) 0 0) (ao : Option Addr) (m c : Nat) (st : List (Nat × Sec)) (hx : a.eval x = .slice ao m c) (hnil : ao = none → c = 0) (hl : st.length = m) (hr : Reads w ao (rowsL wrL st)) (hm : m ≤ 1000000000)
    (h : ∀ co cc w', w'.ownsRow w.heap.size 66 129 (.slice co m cc) m (rowsL wrL st) → m ≤ cc → (co = none → cc = 0) → Below w.heap.size w w' → wpList Try.prog ops Q rest (a.put o.dst (.slice co m cc)) w') :
    wpList Try.prog ops Q (o :: rest) a (w.alloc (.cells #[] 66)) := by
  obtain ⟨i0, hi0, hz0, hz1, hz2⟩ := info_parts infoRw3
  have hzs : (Value.agg (wrL (0, sec0)).toArray).cells.size = 129 := List.size_toArray.trans (wrL_length _)
  exact wpList_copyN hgd s x 28 ho 66 i0 _ 129 136 Try.underlying28 hi0 hz0 hz1 hz2 hzs (by omega) w hs ao m c (rowsL wrL st) hx hnil (by rw [rowsL_length wrL_length, hl]) hr (rowsL_one_cell wrL_one _) (by omega) (by omega) h
end
theorem three_at (w : World) (o o' : Obj) (t : TypeId) (cs : List Value) : Blk (((w.alloc o).alloc o').alloc (.cells cs.toArray t)) (w.heap.size + 2) t cs := by
  have := Blk.new ((w.alloc o).alloc o') t cs
  simpa using this

set_option maxHeartbeats 1000000 in
theorem rPut_out (so : Option Addr) (n sc : Nat) (po : Option Addr) (np pc : Nat) (ops f : Int) (dd : Bool) (ho : 0 ≤ ops ∧ ops < 4611686018427387904) (i : Int) (hi : I64 i) (hle : n ≤ 1024) (s : Sec) (hh : (decide (0 ≤ i) && decide (i < (n : Int))) = false) (w : World) :
    Calls Try.prog 16 #[.agg #[.slice so n sc, .slice po np pc, .int .i64 ops, .int .i64 f, .bool dd], .int .i64 i, .agg (secL s).toArray] w fun e w' =>
      e = .returned (.tuple #[.agg (devL so n sc po np pc (ops + 1) f dd).toArray, .int .i64 41]) ∧ Below w.heap.size w w' := by
  obtain ⟨ho1, ho2⟩ := ho
  have ht := There_any so n sc (.slice po np pc) (.int .i64 (ops + 1)) (.int .i64 f) (.bool dd) i hi hle
  rw [hh] at ht
  have ht := Lib.hid ht
  go_enter Try.func16, Try.ntmps16
  go_wp2_with fail
  refine (ht.out _).mono ?_
  rintro e w1 ⟨rfl, b1⟩
  have hB1 := Lib.hid (blk_out (((Blk.new w 30 (devL so n sc po np pc (ops + 1) f dd)).alloc _).alloc _) b1)
  have hS1 := Lib.hid (blk_out ((two_new w _ 33 (secL s)).alloc _) b1)
  have hR1 := Lib.hid (blk_out (three_at w _ _ 30 (devL none 0 0 none 0 0 0 0 false)) b1)
  have q1 := Lib.hid ((three_below w _ _ _).trans (b1.mono (by simp; omega)))
  clear b1
  go_wp2_with (first
  | ((with_reducible refine guardList ?_); refine wantList_load (by rfl) 30 _ rfl (w.heap.size) 0 (by rfl) (devL so n sc po np pc (ops + 1) f dd) _ (range_dev hB1.out) Try.underlying30 rfl infoDev5 ?_)
  | ((with_reducible refine guardList ?_)
     refine wantList_store (by rfl) 30 _ _ rfl (w.heap.size + 2) 0 (by rfl) (devL so n sc po np pc (ops + 1) f dd) (by rfl) _ (devL none 0 0 none 0 0 0 0 false) (devL so n sc po np pc (ops + 1) f dd) hR1.out (Nat.le_of_eq rfl) devL_one infoDev5 whole_dev ?_
     intro w3 hR3 k3 z3
     have hR3 := Lib.hid hR3
     have q3 := Lib.hid (Kept.out q1.out k3 (fun i _ e => by omega) q1.out.size)
     clear k3 z3))
  refine bodyPost_ret (results_row_tmp rfl (rowDev hR3.out)) rfl ⟨rfl, q3.out⟩

set_option maxHeartbeats 1000000 in
theorem rPut_no (so : Option Addr) (n sc : Nat) (po : Option Addr) (np pc : Nat) (ops f : Int) (dd : Bool) (ho : 0 ≤ ops ∧ ops < 4611686018427387904) (i : Int) (hi : I64 i) (hle : n ≤ 1024) (s : Sec) (hh : (decide (0 ≤ i) && decide (i < (n : Int))) = true) (h : dd = true ∨ f = 0) (w : World) :
    Calls Try.prog 16 #[.agg #[.slice so n sc, .slice po np pc, .int .i64 ops, .int .i64 f, .bool dd], .int .i64 i, .agg (secL s).toArray] w fun e w' =>
      e = .returned (.tuple #[.agg (devL so n sc po np pc (ops + 1) f true).toArray, .int .i64 42]) ∧ Below w.heap.size w w' := by
  obtain ⟨ho1, ho2⟩ := ho
  have ht := There_any so n sc (.slice po np pc) (.int .i64 (ops + 1)) (.int .i64 f) (.bool dd) i hi hle
  rw [hh] at ht
  have ht := Lib.hid ht
  have hp := Lib.hid (power_no so n sc po np pc (ops + 1) f dd h)
  clear h
  go_enter Try.func16, Try.ntmps16
  go_wp2_with fail
  refine (ht.out _).mono ?_
  rintro e w1 ⟨rfl, b1⟩
  have hB1 := Lib.hid (blk_out (((Blk.new w 30 (devL so n sc po np pc (ops + 1) f dd)).alloc _).alloc _) b1)
  have hS1 := Lib.hid (blk_out ((two_new w _ 33 (secL s)).alloc _) b1)
  have hR1 := Lib.hid (blk_out (three_at w _ _ 30 (devL none 0 0 none 0 0 0 0 false)) b1)
  have q1 := Lib.hid ((three_below w _ _ _).trans (b1.mono (by simp; omega)))
  clear b1
  go_wp2_with (first
  | ((with_reducible refine guardList ?_); refine wantList_load (by rfl) 30 _ rfl (w.heap.size) 0 (by rfl) (devL so n sc po np pc (ops + 1) f dd) _ (range_dev hB1.out) Try.underlying30 rfl infoDev5 ?_)
  | fail)
  refine (hp.out _).mono ?_
  rintro e w2 ⟨rfl, b2⟩
  have hB2 := Lib.hid (blk_out hB1.out b2)
  have hR2 := Lib.hid (blk_out hR1.out b2)
  have q2 := Lib.hid (q1.out.trans (b2.mono q1.out.size))
  clear b2
  go_wp2_with (first
  | ((with_reducible refine guardList ?_)
     refine wantList_store (by rfl) 30 _ _ rfl (w.heap.size) 0 (by rfl) (devL so n sc po np pc (ops + 1) f true) (by rfl) _ (devL so n sc po np pc (ops + 1) f dd) (devL so n sc po np pc (ops + 1) f true) hB2.out (Nat.le_of_eq rfl) devL_one infoDev5 whole_dev ?_
     intro w3 hB3 k2 z2
     have hB3 := Lib.hid hB3
     have hR3 := Lib.hid (hR2.out.kept k2 (by omega))
     have q3 := Lib.hid (Kept.out q2.out k2 (fun i _ e => by omega) q2.out.size)
     clear k2 z2)
  | ((with_reducible refine guardList ?_); refine wantList_load (by rfl) 30 _ rfl (w.heap.size) 0 (by rfl) (devL so n sc po np pc (ops + 1) f true) _ (range_dev hB3.out) Try.underlying30 rfl infoDev5 ?_)
  | ((with_reducible refine guardList ?_)
     refine wantList_store (by rfl) 30 _ _ rfl (w.heap.size + 2) 0 (by rfl) (devL so n sc po np pc (ops + 1) f true) (by rfl) _ (devL none 0 0 none 0 0 0 0 false) (devL so n sc po np pc (ops + 1) f true) hR3.out (Nat.le_of_eq rfl) devL_one infoDev5 whole_dev ?_
     intro w4 hR4 k3 z3
     have hR4 := Lib.hid hR4
     have q4 := Lib.hid (Kept.out q3.out k3 (fun i _ e => by omega) q3.out.size)
     clear k3 z3))
  refine bodyPost_ret (results_row_tmp rfl (rowDev hR4.out)) rfl ⟨rfl, q4.out⟩
end Go.Proofs.Ytfpacnokecfhmaa
