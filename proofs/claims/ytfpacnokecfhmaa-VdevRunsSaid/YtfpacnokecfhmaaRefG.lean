/- The document's own device: Crash. -/
import Derived.Test.YtfpacnokecfhmaaRefF
namespace Go.Proofs.Ytfpacnokecfhmaa
open Go.ChangeShapes Go.WideShapes Go.ChangeAt Go.RowKit
set_option linter.unusedVariables false

set_option maxHeartbeats 1000000 in
theorem rCrash_any (so : Option Addr) (st : List Sec) (n sc : Nat) (hn : Hid (st.length = n)) (hsn : so = none → sc = 0) (po : Option Addr) (ps : List (Nat × Sec)) (np pc : Nat) (hnp : Hid (ps.length = np)) (ops f : Int) (dd : Bool) (ko : Option Addr) (bs : List Bool) (nb kc : Nat) (hnb : Hid (bs.length = nb)) (hbl : nb ≤ 9223372036854775807)
    (hle : n ≤ 1024) (hlp : np ≤ 1000000000) (hat : Hid (∀ p ∈ ps, p.1 < n)) (w : World) (hr : Reads w so (rowsL secL st)) (hps : Reads w po (rowsL wrL ps)) (hk : Reads w ko (boolsV bs)) (st' : List Sec) (hst : Hid (st' = putAll st (DevM.kept (fun k => bs.getD k false) ps))) :
    Calls Try.prog 22 #[.agg #[.slice so n sc, .slice po np pc, .int .i64 ops, .int .i64 f, .bool dd], .slice ko nb kc] w fun e w' => ∃ so' sc', 
      e = .returned (.agg (devL so' n sc' none 0 0 ops (-1) false).toArray) ∧ Reads w' so' (rowsL secL st') ∧ n ≤ sc' ∧ (so' = none → sc' = 0) ∧ (∀ a, so' = some a → w.heap.size ≤ a.block) ∧ Below w.heap.size w w' := by
  have ha := fun w hr hps hk => apply_any so st n sc hn hsn po ps np pc hnp ops f dd false ko bs nb kc hnb hbl hle hlp hat w hr hps hk (fun k => bs.getD k false) (Lib.hid fun _ => rfl)
  rw [← hst.out] at ha
  have ha := Lib.hid ha
  have hr := Lib.hid hr
  have hps := Lib.hid hps
  have hk := Lib.hid hk
  have hsn := Lib.hid hsn
  go_enter Try.func22, Try.ntmps22
  go_wp2_with fail
  have q0 := two_below w (.cells #[.slice so n sc, .slice po np pc, .int .i64 ops, .int .i64 f, .bool dd] 30) (.cells #[.slice none 0 0, .slice none 0 0, .int .i64 0, .int .i64 0, .bool false] 30)
  refine (ha.out _ (hr.out.below q0) (hps.out.below q0) (hk.out.below q0)).mono ?_
  rintro e w1 ⟨so', sc', rfl, hr1, hs1, hn1, hF1, b1⟩
  have hB1 := Lib.hid (blk_out ((Blk.new w 30 (devL so n sc po np pc ops f dd)).alloc _) b1)
  have hR1 := Lib.hid (blk_out (two_new w _ 30 (devL none 0 0 none 0 0 0 0 false)) b1)
  have q1 := Lib.hid (q0.trans (b1.mono (by simp; omega)))
  have hF1 : Hid (∀ a, so' = some a → w.heap.size + 2 ≤ a.block) := Lib.hid fun a ha => by have := hF1 a ha; simp at this; omega
  have hr1 := Lib.hid hr1
  have hn1 := Lib.hid hn1
  clear b1 q0
  go_upto_region 2 with (first
  | ((with_reducible refine guardList ?_)
     refine wantList_store (by rfl) 30 _ _ rfl (w.heap.size) 0 (by rfl) (devL so' n sc' none 0 0 ops f dd) (by rfl) _ (devL so n sc po np pc ops f dd) (devL so' n sc' none 0 0 ops f dd) hB1.out (Nat.le_of_eq rfl) devL_one infoDev5 whole_dev ?_
     intro w2 hB2 k2 z2
     have hR2 := Lib.hid (hR1.out.kept k2 (by omega))
     have q2 := Lib.hid (Kept.out q1.out k2 (fun i _ e => by omega) q1.out.size)
     have hr2 := Lib.hid (hr1.out.keptF k2 (fun a ha e => by have := hF1.out a ha; omega))
     have c3 : w2.cell? ⟨w.heap.size, 3, none⟩ = some (.int .i64 f) := (hB2.cell 3).trans rfl
     have c4 : w2.cell? ⟨w.heap.size, 4, none⟩ = some (.bool dd) := (hB2.cell 4).trans rfl
     have f3 := hB2.frozen 3
     have f4 := hB2.frozen 4
     have hB2 := Lib.hid hB2
     clear k2 z2))
  go_upto_region 4 with (fail)
  have hB3 : Blk ((w2.setCell ⟨w.heap.size, 3, none⟩ (.int .i64 (-1))).setCell ⟨w.heap.size, 4, none⟩ (.bool false)) w.heap.size 30 (devL so' n sc' none 0 0 ops (-1) false) := (hB2.out.set 3 (.int .i64 (-1))).set 4 (.bool false)
  have k3 := (Kept.cellAt w2 w.heap.size 3 (.int .i64 (-1))).trans (Kept.cellAt _ w.heap.size 4 (.bool false))
  have hR3 := Lib.hid (hR2.out.kept k3 (by omega))
  have hr3 := Lib.hid (hr2.out.keptF k3 (fun a ha e => by have := hF1.out a ha; omega))
  have q3 := Lib.hid (Kept.out q2.out k3 (fun i _ e => by omega) q2.out.size)
  have hB3 := Lib.hid hB3
  clear k3 c3 c4 f3 f4
  go_wp2_with (first
  | ((with_reducible refine guardList ?_); refine wantList_load (by rfl) 30 _ rfl (w.heap.size) 0 (by rfl) (devL so' n sc' none 0 0 ops (-1) false) _ (range_dev hB3.out) Try.underlying30 rfl infoDev5 ?_)
  | ((with_reducible refine guardList ?_)
     refine wantList_store (by rfl) 30 _ _ rfl (w.heap.size + 1) 0 (by rfl) (devL so' n sc' none 0 0 ops (-1) false) (by rfl) _ (devL none 0 0 none 0 0 0 0 false) (devL so' n sc' none 0 0 ops (-1) false) hR3.out (Nat.le_of_eq rfl) devL_one infoDev5 whole_dev ?_
     intro w4 hR4 k4 z4
     have hR4 := Lib.hid hR4
     have hr4 := Lib.hid (hr3.out.keptF k4 (fun a ha e => by have := hF1.out a ha; omega))
     have q4 := Lib.hid (Kept.out q3.out k4 (fun i _ e => by omega) q3.out.size)
     clear k4 z4))
  refine bodyPost_ret (results_row rfl (rowDev hR4.out)) rfl ⟨so', sc', rfl, hr4.out, hs1, hn1.out, fun a ha => by have := hF1.out a ha; omega, q4.out⟩
end Go.Proofs.Ytfpacnokecfhmaa
