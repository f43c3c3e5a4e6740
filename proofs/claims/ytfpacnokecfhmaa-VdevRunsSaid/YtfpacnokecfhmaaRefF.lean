/- The document's own device: Flush, Crash. -/
import Derived.Test.YtfpacnokecfhmaaRefE
namespace Go.Proofs.Ytfpacnokecfhmaa
open Go.ChangeShapes Go.WideShapes Go.ChangeAt Go.RowKit
set_option linter.unusedVariables false

theorem whole_dev {so so' : Option Addr} {n sc n' sc' : Nat} {po po' : Option Addr} {np pc np' pc' : Nat} {ops f ops' f' : Int} {dd dd' : Bool} :
    devL so n sc po np pc ops f dd = (devL so' n' sc' po' np' pc' ops' f' dd').take 0 ++ devL so n sc po np pc ops f dd ++ (devL so' n' sc' po' np' pc' ops' f' dd').drop (0 + (devL so n sc po np pc ops f dd).length) := rfl
theorem range_dev {w : World} {g : Nat} {t : TypeId} {cs : List Value} (h : Blk w g t cs) : w.rangeAt g 0 cs := h.range fun j v hv => by simpa using hv
theorem blk_out {w w1 : World} {g : Nat} {t : TypeId} {cs : List Value} (h : Blk w g t cs) (hb : Below w.heap.size w w1) : Blk w1 g t cs := h.below hb h.lt
def ref0 : List Value := devL none 0 0 none 0 0 0 0 false

set_option maxHeartbeats 1000000 in
theorem rFlush_no (so : Option Addr) (n sc : Nat) (po : Option Addr) (np pc : Nat) (ops f : Int) (dd : Bool) (ho : 0 ≤ ops ∧ ops < 4611686018427387904) (h : dd = true ∨ f = 0) (w : World) :
    Calls Try.prog 18 #[.agg #[.slice so n sc, .slice po np pc, .int .i64 ops, .int .i64 f, .bool dd]] w fun e w' =>
      e = .returned (.tuple #[.agg (devL so n sc po np pc (ops + 1) f true).toArray, .int .i64 42]) ∧ Below w.heap.size w w' := by
  obtain ⟨ho1, ho2⟩ := ho
  have hp := power_no so n sc po np pc (ops + 1) f dd h
  clear h
  have hp := Lib.hid hp
  go_enter Try.func18, Try.ntmps18
  go_wp2_with fail
  refine (hp.out _).mono ?_
  rintro e w1 ⟨rfl, b1⟩
  have hB1 := Lib.hid (blk_out ((Blk.new w 30 (devL so n sc po np pc (ops + 1) f dd)).alloc _) b1)
  have hR1 := Lib.hid (blk_out (two_new w _ 30 (devL none 0 0 none 0 0 0 0 false)) b1)
  have q1 := Lib.hid ((two_below w _ _).trans (b1.mono (by simp; omega)))
  clear b1
  go_wp2_with (first
  | ((with_reducible refine guardList ?_)
     refine wantList_store (by rfl) 30 _ _ rfl (w.heap.size) 0 (by rfl) (devL so n sc po np pc (ops + 1) f true) (by rfl) _ (devL so n sc po np pc (ops + 1) f dd) (devL so n sc po np pc (ops + 1) f true) hB1.out (Nat.le_of_eq rfl) devL_one infoDev5 whole_dev ?_
     intro w2 hB2 k2 z2
     have hB2 := Lib.hid hB2
     have hR2 := Lib.hid (hR1.out.kept k2 (by omega))
     have q2 := Lib.hid (Kept.out q1.out k2 (fun i _ e => by omega) q1.out.size)
     clear k2 z2)
  | ((with_reducible refine guardList ?_); refine wantList_load (by rfl) 30 _ rfl (w.heap.size) 0 (by rfl) (devL so n sc po np pc (ops + 1) f true) _ (range_dev hB2.out) Try.underlying30 rfl infoDev5 ?_)
  | ((with_reducible refine guardList ?_)
     refine wantList_store (by rfl) 30 _ _ rfl (w.heap.size + 1) 0 (by rfl) (devL so n sc po np pc (ops + 1) f true) (by rfl) _ (devL none 0 0 none 0 0 0 0 false) (devL so n sc po np pc (ops + 1) f true) hR2.out (Nat.le_of_eq rfl) devL_one infoDev5 whole_dev ?_
     intro w3 hR3 k3 z3
     have hR3 := Lib.hid hR3
     have q3 := Lib.hid (Kept.out q2.out k3 (fun i _ e => by omega) q2.out.size)
     clear k3 z3))
  refine bodyPost_ret (results_row_tmp rfl (rowDev hR3.out)) rfl ⟨rfl, q3.out⟩

set_option maxHeartbeats 1000000 in
theorem rFlush_yes (so : Option Addr) (st : List Sec) (n sc : Nat) (hn : Hid (st.length = n)) (hsn : so = none → sc = 0) (po : Option Addr) (ps : List (Nat × Sec)) (np pc : Nat) (hnp : Hid (ps.length = np)) (ops f f' : Int) (ho : 0 ≤ ops ∧ ops < 4611686018427387904) (h0 : f ≠ 0) (hf : -1 ≤ f ∧ f ≤ 9223372036854775807) (he : Hid (f' = refLeft f))
    (hle : n ≤ 1024) (hlp : np ≤ 1000000000) (hat : Hid (∀ p ∈ ps, p.1 < n)) (w : World) (hr : Reads w so (rowsL secL st)) (hps : Reads w po (rowsL wrL ps)) :
    Calls Try.prog 18 #[.agg #[.slice so n sc, .slice po np pc, .int .i64 ops, .int .i64 f, .bool false]] w fun e w' => ∃ so' sc', 
      e = .returned (.tuple #[.agg (devL so' n sc' none 0 0 (ops + 1) f' false).toArray, .int .i64 0]) ∧ Reads w' so' (rowsL secL (putAll st ps)) ∧ n ≤ sc' ∧ (so' = none → sc' = 0) ∧ (∀ a, so' = some a → w.heap.size ≤ a.block) ∧ Below w.heap.size w w' := by
  obtain ⟨ho1, ho2⟩ := ho
  have hp := power_yes so n sc po np pc (ops + 1) f f' h0 hf he
  have ha := fun w hr hps => apply_any so st n sc hn hsn po ps np pc hnp (ops + 1) f' false true none [] 0 0 (Lib.hid rfl) (by omega) hle hlp hat w hr hps (Reads.nil _ _) (fun _ => true) (Lib.hid fun _ => rfl)
  rw [kept_true] at ha
  have ha := Lib.hid ha
  have hr := Lib.hid hr
  have hps := Lib.hid hps
  have hsn := Lib.hid hsn
  clear h0 hf
  have hp := Lib.hid hp
  go_enter Try.func18, Try.ntmps18
  go_wp2_with fail
  refine (hp.out _).mono ?_
  rintro e w1 ⟨rfl, b1⟩
  have hB1 := Lib.hid (blk_out ((Blk.new w 30 (devL so n sc po np pc (ops + 1) f false)).alloc _) b1)
  have hR1 := Lib.hid (blk_out (two_new w _ 30 (devL none 0 0 none 0 0 0 0 false)) b1)
  have q1 := Lib.hid ((two_below w _ _).trans (b1.mono (by simp; omega)))
  clear b1
  go_upto_region 5 with (first
  | ((with_reducible refine guardList ?_)
     refine wantList_store (by rfl) 30 _ _ rfl (w.heap.size) 0 (by rfl) (devL so n sc po np pc (ops + 1) f' false) (by rfl) _ (devL so n sc po np pc (ops + 1) f false) (devL so n sc po np pc (ops + 1) f' false) hB1.out (Nat.le_of_eq rfl) devL_one infoDev5 whole_dev ?_
     intro w2 hB2 k2 z2
     have hB2 := Lib.hid hB2
     have hR2 := Lib.hid (hR1.out.kept k2 (by omega))
     have q2 := Lib.hid (Kept.out q1.out k2 (fun i _ e => by omega) q1.out.size)
     clear k2 z2))
  go_wp2_with (first
  | ((with_reducible refine guardList ?_); refine wantList_load (by rfl) 30 _ rfl (w.heap.size) 0 (by rfl) (devL so n sc po np pc (ops + 1) f' false) _ (range_dev hB2.out) Try.underlying30 rfl infoDev5 ?_)
  | fail)
  refine (ha.out _ (hr.out.below q2.out) (hps.out.below q2.out)).mono ?_
  rintro e w4 ⟨so', sc', rfl, hr4, hs4, hn4, hF4, b4⟩
  have hR4 := Lib.hid (blk_out hR2.out b4)
  have q4 := Lib.hid (q2.out.trans (b4.mono q2.out.size))
  have hr4 := Lib.hid hr4
  have hn4 := Lib.hid hn4
  have hlt4 := hR2.out.lt
  have hF4 := Lib.hid hF4
  clear b4
  go_wp2_with (first
  | ((with_reducible refine guardList ?_)
     refine wantList_store (by rfl) 30 _ _ rfl (w.heap.size + 1) 0 (by rfl) (devL so' n sc' none 0 0 (ops + 1) f' false) (by rfl) _ (devL none 0 0 none 0 0 0 0 false) (devL so' n sc' none 0 0 (ops + 1) f' false) hR4.out (Nat.le_of_eq rfl) devL_one infoDev5 whole_dev ?_
     intro w3 hR3 k3 z3
     have hR3 := Lib.hid hR3
     have q3 := Lib.hid (Kept.out q4.out k3 (fun i _ e => by omega) q4.out.size)
     have hr5 := Lib.hid (hr4.out.keptF k3 (fun a ha e => by have := hF4.out a ha; omega))
     clear k3 z3))
  refine bodyPost_ret (results_row_tmp rfl (rowDev hR3.out)) rfl ⟨so', sc', rfl, hr5.out, hs4, hn4.out, fun a ha => Nat.le_trans q2.out.size (hF4.out a ha), q3.out⟩
end Go.Proofs.Ytfpacnokecfhmaa
