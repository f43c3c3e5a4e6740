/- NodeNames, for every input: the law returns true and each argument reads behind the call as before. No condition. -/
import Derived.Test.YtkapdagmffbbhaaNodeH
namespace Go.Proofs.Ytkapdagmffbbhaa.lawNodeNames
open Go.ChangeShapes Go.WideShapes Go.ChangeAt Go.RowKit Go.Deep
set_option linter.unusedVariables false
set_option maxRecDepth 20000

set_option maxHeartbeats 4000000 in
theorem walk (w : World) : Calls Try.prog 3 #[] w fun e w' => e = .returned (.bool true) ∧ Below w.heap.size w w' := by
  have hB := fun W => nBytes_any holesP W holesP_fit
  have hE := fun W => Empty_any holesP W
  rw [holesP_O] at hB
  rw [holesP_empty] at hE
  have hb := builtP8
  have hbs := built_sec0
  have hq : ∀ w : World, (Op.equalIn 10000 23 (.agg (secL sec0).toArray) (.agg (secL sec0).toArray)).run Try.prog w = .ok true w := fun w => by rw [eqSec, decide_eq_true rfl]
  have hB := Lib.hid hB
  have hE := Lib.hid hE
  have hzs := zeroSec
  go_enter Try.func3, Try.ntmps3
  go_wp2_with ((with_reducible refine n2Dst (some 4) (by rfl) ?_); refine wantList_build (by rfl) 31 [] rfl (p8L holesP) _ (by rfl) hb ?_)
  refine (hB.out _).mono ?_
  rintro e w1 ⟨rfl, b1⟩
  have T1 := Lib.hid ((NT.start w).call b1)
  clear b1
  go_wp2_with (first
    | ((with_reducible refine guardList ?_)
       refine wantList_store (by rfl) 23 _ _ rfl w1.heap.size 0 (by rfl) (secL sec0) (by rfl) _ (secL sec0) (secL sec0) (Blk.new w1 23 (secL sec0)) (by simp only [secL_length]; decide) (secL_one _) (infoSecL _) wholeSn ?_
       intro w2 h2 k2 z2
       have T2 := Lib.hid (T1.out.lay k2 h2)
       clear h2 k2 z2))
  refine (nodeAlive_any _).mono ?_
  rintro e w3 ⟨rfl, b3⟩
  have T3 := Lib.hid (T2.out.call b3)
  clear b3
  go_wp2_with (first
    | ((with_reducible refine n2Dst (some 10) (by rfl) ?_); refine wantList_load (by rfl) 23 _ rfl w1.heap.size 0 (by rfl) (secL sec0) _ (rangeN T3.out.b0) Try.underlying23 rfl (infoSecL _) ?_)
    | ((with_reducible refine n2Dst (some 11) (by rfl) ?_); refine wantList_build (by rfl) 23 [] rfl (secL sec0) _ (by rfl) hbs ?_)
    | ((with_reducible refine n2Dst (some 19) (by rfl) ?_); refine wantList_build (by rfl) 31 [] rfl (p8L holesP) _ (by rfl) hb ?_))
  refine (hE.out _).mono ?_
  rintro e w4 ⟨rfl, b4⟩
  have T4 := Lib.hid (T3.out.call b4)
  clear b4
  go_wp2
  go_ret
  exact ⟨rfl, T4.out.q⟩

theorem own : ownKnob Try.prog.godebug = none := by kernel_rfl

set_option maxRecDepth 100000 in
theorem lifted (os : Os) (started : os.Started) (H : Type) (enc : TypeId × Value → H) :
    ReturnsInHanded {} Try.checked os 3 .any (Rows.nodeNamesSpec.pre6 enc Try.prog Try.f3 Rows.nodeNamesRow.domain false) (Rows.nodeNamesSpec.post enc Try.prog Try.f3 false true false false) := by
  refine returnsInHanded_of_change_sized (C := Try.checked) own started (by kernel_rfl) Try.func3
    (ChangeSpec.witness6 (enc := enc) (C := Try.checked) false ⟨#[], #[], []⟩ 8 (by kernel_rfl) (by kernel_rfl) (by kernel_rfl) (by kernel_rfl)) ?_
  intro W base args ds gs before hval0 hW hcnd hsz0 _
  have hval : ∀ (j : Nat) t v, Try.f3.params[j]? = some t → args[j]? = some v → Value.okWide Try.prog W .any base t v := hval0
  have hsz : (DataW.weightsEach Try.prog (Try.f3.params.toList ++ Rows.nodeNamesSpec.plain.varTypes Try.prog) (ds ++ gs)).all (· ≤ reachBytes) = true := hsz0
  have hW' := hW
  obtain ⟨p, q, hA0, hV, rfl, hfz, hnd⟩ := hW
  have hA : DataW.TrodAll enc Try.prog W 0 (fun _ => true) true Try.f3.params.toList args.toList ds p := hA0
  rw [Try.params3] at hA hval hsz
  obtain ⟨rfl, rfl, rfl⟩ := trodAll_none hA
  obtain ⟨rfl, rfl⟩ := trodVars_none hV
  clear hA0 hval0 hsz0
  refine (walk  W ).mono fun e W' ⟨he, bel⟩ => ?_
  subst he
  exact ⟨_, rfl, _, _, _, [], _, [], hW', trodAll_mk1 (shut_bool Try.underlying4 _), trodAll_mk0, rfl, bel.frame _, fun h => by cases h⟩

theorem proved : Rows.NodeNamesSaid :=
  OpenClaim.holds_of_wide 3 Try.f3 rfl rfl rfl rfl rfl rfl rfl ⟨rfl, rfl, rfl, rfl, rfl⟩ rfl rfl rfl rfl rfl (by kernel_rfl) Try.func3 (by kernel_rfl)
    (of_decide_eq_true (by kernel_rfl)) (by unfold Func.isWrapper; first | (rw [if_pos (by decide +kernel)]; kernel_rfl) | (rw [if_neg (by decide +kernel)]; exact ⟨rfl, rfl⟩))
    (fun os started H enc _ => lifted os started H enc)
end Go.Proofs.Ytkapdagmffbbhaa.lawNodeNames
