/- NodeReads, for every input: the law returns true and each argument reads behind the call as before. No condition. -/
import Derived.Test.YtkapdagmffbbhaaNodeH
namespace Go.Proofs.Ytkapdagmffbbhaa.lawNodeReads
open Go.ChangeShapes Go.WideShapes Go.ChangeAt Go.RowKit Go.Deep
set_option linter.unusedVariables false
set_option maxRecDepth 20000

set_option maxHeartbeats 4000000 in
theorem walk (s : Sec) (w : World) : Calls Try.prog 5 #[.agg (secL s).toArray] w fun e w' => e = .returned (.bool true) ∧ Below w.heap.size w w' := by
  have hR := fun W => nRead_any s W
  have hr := fun W => rnRead_any s W
  generalize nodeRP s = O at *
  have hq : ∀ w : World, (Op.equalIn 10000 31 (.agg (p8L (O.getD holesP)).toArray) (.agg (p8L (O.getD holesP)).toArray)).run Try.prog w = .ok true w := fun w => by rw [eqP8, decide_eq_true rfl]
  unfold NRRes at hR hr
  generalize O.getD holesP = l at *
  generalize errI 51 O = er at *
  have hR := Lib.hid hR
  have hr := Lib.hid hr
  have hz := zeroP8
  have T0 := Lib.hid ((NT.start w).box 23 (secL s))
  go_enter Try.func5, Try.ntmps5
  go_wp2_with ((with_reducible refine n2Dst (some 8) (by rfl) ?_); refine wantList_load (by rfl) 23 _ rfl w.heap.size 0 (by rfl) (secL s) _ (rangeN T0.out.b0) Try.underlying23 rfl (infoSecL _) ?_)
  refine (hR.out _).mono ?_
  rintro e w1 ⟨rfl, b1⟩
  have T1 := Lib.hid (T0.out.call b1)
  clear b1
  go_wp2_with (first
    | ((with_reducible refine guardList ?_)
       refine wantList_store (by rfl) 31 _ _ rfl w1.heap.size 0 (by rfl) (p8L l) (by rfl) _ (p8L holesP) (p8L l) (Blk.new w1 31 (p8L holesP)) (by simp only [p8L_length]; decide) (p8L_one _) (infoP8 _) wholeP8 ?_
       intro w2 h2 k2 z2
       have T2 := Lib.hid (T1.out.lay k2 h2)
       clear h2 k2 z2)
    | ((with_reducible refine n2Dst (some 13) (by rfl) ?_); refine wantList_load (by rfl) 23 _ rfl w.heap.size 0 (by rfl) (secL s) _ (rangeN T2.out.b1) Try.underlying23 rfl (infoSecL _) ?_))
  refine (hr.out _).mono ?_
  rintro e w3 ⟨rfl, b3⟩
  have T3 := Lib.hid (T2.out.call b3)
  clear b3
  go_wp2_with (first
    | ((with_reducible refine guardList ?_)
       refine wantList_store (by rfl) 31 _ _ rfl w3.heap.size 0 (by rfl) (p8L l) (by rfl) _ (p8L holesP) (p8L l) (Blk.new w3 31 (p8L holesP)) (by simp only [p8L_length]; decide) (p8L_one _) (infoP8 _) wholeP8 ?_
       intro w4 h4 k4 z4
       have T4 := Lib.hid (T3.out.lay k4 h4)
       clear h4 k4 z4))
  refine (nodeAlive_any _).mono ?_
  rintro e w5 ⟨rfl, b5⟩
  have T5 := Lib.hid (T4.out.call b5)
  clear b5
  go_wp2_with (first
    | ((with_reducible refine n2Dst (some 19) (by rfl) ?_); refine wantList_load (by rfl) 31 _ rfl w1.heap.size 0 (by rfl) (p8L l) _ (rangeN T5.out.b1) Try.underlying31 rfl (infoP8 _) ?_)
    | ((with_reducible refine n2Dst (some 20) (by rfl) ?_); refine wantList_load (by rfl) 31 _ rfl w3.heap.size 0 (by rfl) (p8L l) _ (rangeN T5.out.b0) Try.underlying31 rfl (infoP8 _) ?_))
  go_ret
  exact ⟨by simp, T5.out.q⟩

theorem own : ownKnob Try.prog.godebug = none := by kernel_rfl
theorem laidOut : laidOutB Try.prog = true := by kernel_rfl

set_option maxRecDepth 100000 in
theorem lifted (os : Os) (started : os.Started) (H : Type) (enc : TypeId × Value → H) :
    ReturnsInHanded {} Try.checked os 5 .any (Rows.nodeReadsSpec.pre6 enc Try.prog Try.f5 Rows.nodeReadsRow.domain false) (Rows.nodeReadsSpec.post enc Try.prog Try.f5 false true false false) := by
  refine returnsInHanded_of_change_sized (C := Try.checked) own started (by kernel_rfl) Try.func5
    (ChangeSpec.witness6 (enc := enc) (C := Try.checked) false ⟨#[], #[.agg (Array.replicate 128 (.int .u8 0))], []⟩ 8 (by kernel_rfl) (by kernel_rfl) (by kernel_rfl) (by kernel_rfl)) ?_
  intro W base args ds gs before hval0 hW hcnd hsz0 _
  have hval : ∀ (j : Nat) t v, Try.f5.params[j]? = some t → args[j]? = some v → Value.okWide Try.prog W .any base t v := hval0
  have hsz : (DataW.weightsEach Try.prog (Try.f5.params.toList ++ Rows.nodeReadsSpec.plain.varTypes Try.prog) (ds ++ gs)).all (· ≤ reachBytes) = true := hsz0
  have hW' := hW
  obtain ⟨p, q, hA0, hV, rfl, hfz, hnd⟩ := hW
  have hA : DataW.TrodAll enc Try.prog W 0 (fun _ => true) true Try.f5.params.toList args.toList ds p := hA0
  rw [Try.params5] at hA hval hsz
  obtain ⟨v0, vs0, d0, ds0, p0, q0, hargs, rfl, rfl, h0, r0⟩ := trodAll_cons hA
  obtain ⟨rfl, rfl, rfl⟩ := trodAll_nil r0
  obtain rfl : args = #[v0] := by cases args; simp_all
  obtain ⟨rfl, rfl⟩ := trodVars_none hV
  have k0 := h0
  have lt0 : ∀ x ∈ p0, x.block < W.heap.size := by obtain ⟨m, hm⟩ := k0; exact DataW.trod_lt m _ _ _ hm
  obtain ⟨a0, rfl⟩ := arg_sec h0 (hval 0 23 v0 rfl rfl)
  clear hA0 hval0 hsz0
  refine (walk a0 W ).mono fun e W' ⟨he, bel⟩ => ?_
  subst he
  exact ⟨_, rfl, _, _, _, [], _, [], hW', trodAll_mk1 (shut_bool Try.underlying4 _), (trodAll_cons_mk (Below.trod laidOut (by kernel_rfl) (of_decide_eq_true (by kernel_rfl)) k0 bel lt0) trodAll_mk0), rfl, bel.frame _, fun h => by cases h⟩

theorem proved : Rows.NodeReadsSaid :=
  OpenClaim.holds_of_wide 5 Try.f5 rfl rfl rfl rfl rfl rfl rfl ⟨rfl, rfl, rfl, rfl, rfl⟩ rfl rfl rfl rfl rfl (by kernel_rfl) Try.func5 (by kernel_rfl)
    (of_decide_eq_true (by kernel_rfl)) (by unfold Func.isWrapper; first | (rw [if_pos (by decide +kernel)]; kernel_rfl) | (rw [if_neg (by decide +kernel)]; exact ⟨rfl, rfl⟩))
    (fun os started H enc _ => lifted os started H enc)
end Go.Proofs.Ytkapdagmffbbhaa.lawNodeReads
