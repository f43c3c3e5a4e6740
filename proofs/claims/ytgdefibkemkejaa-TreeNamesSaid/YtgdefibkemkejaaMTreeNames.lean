/- TreeNames, for every input: the law returns true and each argument reads behind the call as before. No condition. -/
import Derived.Test.YtgdefibkemkejaaGTreeF
namespace Go.Proofs.Ytgdefibkemkejaa.lawTreeNames
open Go.ChangeShapes Go.WideShapes Go.ChangeAt Go.RowKit Go.Deep
set_option linter.unusedVariables false
set_option maxRecDepth 20000

set_option maxHeartbeats 4000000 in
theorem walkC (C : TreeC) (w : World) : Calls Try.prog 3 #[] w fun e w' => e = .returned (.bool true) ∧ Below w.heap.size w w' := by
  have C := Lib.hid C
  have hzs := zeroSec
  have hbs := built_sec0
  have hqS : ∀ w : World, (Op.equalIn 10000 23 (.agg (secL sec0).toArray) (.agg (secL sec0).toArray)).run Try.prog w = .ok true w := fun w => by rw [eqSec, decide_eq_true rfl]
  have hT0 : ∀ i : Nat, (fun _ : Nat => sec0) i = sec0 := fun _ => rfl
  go_enter Try.func3, Try.ntmps3
  go_wp2_with fail
  refine (made11_any 64 (by unfold I64; omega) w).mono ?_
  rintro e w1 ⟨g, d, B, F, rfl, hP⟩
  rw [show DevM.newLen 64 = 64 from rfl] at hP
  obtain ⟨m0, hm0⟩ : ∃ m, Hid (m = (⟨DevM.fresh 64, newS 64, 1, 0⟩ : PileM)) := ⟨_, Lib.hid rfl⟩
  rw [← hm0.out] at hP
  have t0 : Hid (TP m0 64 0 60) := Lib.hid (by rw [hm0.out]; exact newS_first (n := 64) (by decide) 1 0 (by decide) (by decide) count64)
  have T1 := Lib.hid (show TL w w1 g d B F m0 [] from ⟨hP, Side.nil _ _ _⟩)
  clear hP
  go_wp2_with fail
  refine (C.out.get T1.out.p.at_ t0.out (by decide) (tree0_ok m0 64) 63 (by unfold I64; omega)).mono ?_
  rintro e w2 ⟨m2, F2, rfl, p2, a2, S2⟩
  rw [show (if (0 : Int) ≤ 63 ∧ (63 : Int) < 64 then sec0 else sec0) = sec0 from by rw [if_pos (by decide)], show (if (0 : Int) ≤ 63 ∧ (63 : Int) < 64 then (0 : Int) else 111) = 0 from by rw [if_pos (by decide)]]
  have T2 := Lib.hid (NT.call (NT.start w) (T1.out.turn S2).p.q)
  clear T1 S2 p2 a2
  go_wp2_with (first
    | ((with_reducible refine guardList ?_)
       refine wantList_store (by rfl) 23 _ _ rfl w2.heap.size 0 (by rfl) (secL sec0) (by rfl) _ (secL sec0) (secL sec0) (Blk.new w2 23 (secL sec0)) (by simp only [secL_length]; decide) (secL_one _) (infoSecL _) wholeSn ?_
       intro w3 h3 k3 z3
       have T3 := Lib.hid (T2.out.lay k3 h3)
       clear h3 k3 z3))
  refine (made11_any 64 (by unfold I64; omega) w3).mono ?_
  rintro e w4 ⟨g, d, B, F, rfl, hP⟩
  rw [show DevM.newLen 64 = 64 from rfl, ← hm0.out] at hP
  have T4 := Lib.hid (T3.out.call hP.q)
  have hP := Lib.hid hP
  go_wp2_with fail
  refine (C.out.get hP.out.at_ t0.out (by decide) (tree0_ok m0 64) 64 (by unfold I64; omega)).mono ?_
  rintro e w5 ⟨m5, F5, rfl, p5, a5, S5⟩
  rw [show (if (0 : Int) ≤ 64 ∧ (64 : Int) < 64 then sec0 else sec0) = sec0 from by rw [if_neg (by decide)], show (if (0 : Int) ≤ 64 ∧ (64 : Int) < 64 then (0 : Int) else 111) = 111 from by rw [if_neg (by decide)]]
  have T5 := Lib.hid (T3.out.call (hP.out.step S5).q)
  clear S5 p5 a5
  go_wp2_with (first
    | ((with_reducible refine guardList ?_)
       refine wantList_store (by rfl) 23 _ _ rfl w5.heap.size 0 (by rfl) (secL sec0) (by rfl) _ (secL sec0) (secL sec0) (Blk.new w5 23 (secL sec0)) (by simp only [secL_length]; decide) (secL_one _) (infoSecL _) wholeSn ?_
       intro w6 h6 k6 z6
       have T6 := Lib.hid (T5.out.lay k6 h6)
       clear h6 k6 z6))
  refine (treeAlive_any C.out _).mono ?_
  rintro e w7 ⟨rfl, b7⟩
  have T7 := Lib.hid (T6.out.call b7)
  clear b7
  go_wp2_with (first
    | ((with_reducible refine n2Dst (some 23) (by rfl) ?_); refine wantList_load (by rfl) 23 _ rfl w2.heap.size 0 (by rfl) (secL sec0) _ (rangeN T7.out.b1) Try.underlying23 rfl (infoSecL _) ?_)
    | ((with_reducible refine n2Dst (some 24) (by rfl) ?_); refine wantList_build (by rfl) 23 [] rfl (secL sec0) _ (by rfl) hbs ?_))
  go_ret
  exact ⟨rfl, T7.out.q⟩

theorem walk (w : World) : Calls Try.prog 3 #[] w fun e w' => e = .returned (.bool true) ∧ Below w.heap.size w w' := walkC treeC w

theorem own : ownKnob Try.prog.godebug = none := by kernel_rfl

set_option maxRecDepth 100000 in
theorem lifted (os : Os) (started : os.Started) (H : Type) (enc : TypeId × Value → H) :
    ReturnsInHanded {} Try.checked os 3 .any (Rows.treeNamesSpec.pre6 enc Try.prog Try.f3 Rows.treeNamesRow.domain false) (Rows.treeNamesSpec.post enc Try.prog Try.f3 false true false false) := by
  refine returnsInHanded_of_change_sized (C := Try.checked) own started (by kernel_rfl) Try.func3
    (ChangeSpec.witness6 (enc := enc) (C := Try.checked) false ⟨#[], #[], []⟩ 8 (by kernel_rfl) (by kernel_rfl) (by kernel_rfl) (by kernel_rfl)) ?_
  intro W base args ds gs before hval0 hW hcnd hsz0 _
  have hval : ∀ (j : Nat) t v, Try.f3.params[j]? = some t → args[j]? = some v → Value.okWide Try.prog W .any base t v := hval0
  have hsz : (DataW.weightsEach Try.prog (Try.f3.params.toList ++ Rows.treeNamesSpec.plain.varTypes Try.prog) (ds ++ gs)).all (· ≤ reachBytes) = true := hsz0
  have hW' := hW
  obtain ⟨p, q, hA0, hV, rfl, hfz, hnd⟩ := hW
  have hA : DataW.TrodAll enc Try.prog W 0 (fun _ => true) true Try.f3.params.toList args.toList ds p := hA0
  rw [Try.params3] at hA hval hsz
  obtain ⟨rfl, rfl, rfl⟩ := trodAll_none hA
  obtain ⟨rfl, rfl⟩ := trodVars_none hV
  clear hA0 hval0 hsz0
  refine (walk  W ).mono fun e W' ⟨he, bel⟩ => ?_
  subst he
  exact ⟨_, rfl, _, _, _, [], _, [], hW', trodAll_mk1 (shut_bool Try.underlying4 _), trodAll_mk0, rfl, bel.frame _, fun h => by cases h⟩

theorem proved : Rows.TreeNamesSaid :=
  OpenClaim.holds_of_wide 3 Try.f3 rfl rfl rfl rfl rfl rfl rfl ⟨rfl, rfl, rfl, rfl, rfl⟩ rfl rfl rfl rfl rfl (by kernel_rfl) Try.func3 (by kernel_rfl)
    (of_decide_eq_true (by kernel_rfl)) (by unfold Func.isWrapper; first | (rw [if_pos (by decide +kernel)]; kernel_rfl) | (rw [if_neg (by decide +kernel)]; exact ⟨rfl, rfl⟩))
    (fun os started H enc _ => lifted os started H enc)
end Go.Proofs.Ytgdefibkemkejaa.lawTreeNames
