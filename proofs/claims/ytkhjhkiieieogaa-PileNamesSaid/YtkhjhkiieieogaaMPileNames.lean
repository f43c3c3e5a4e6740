/- PileNames, for every input: the law returns true and each argument reads behind the call as before. No condition. -/
import Derived.Test.YtkhjhkiieieogaaGPileB
namespace Go.Proofs.Ytkhjhkiieieogaa.lawPileNames
open Go.ChangeShapes Go.WideShapes Go.ChangeAt Go.RowKit Go.Deep
set_option linter.unusedVariables false
set_option maxRecDepth 20000

set_option maxHeartbeats 4000000 in
theorem walk (w : World) : Calls Try.prog 3 #[] w fun e w' => e = .returned (.bool true) ∧ Below w.heap.size w w' := by
  have hz := zeroSec
  have he := eqSec
  have hfit : Hid (P3.Fit p3z) := Lib.hid ⟨by unfold I64; decide, by decide, by decide⟩
  go_enter Try.func3, Try.ntmps3
  go_wp2_with fail
  refine (made_any 64 (by unfold I64; omega) w).mono ?_
  rintro e w1 ⟨g, d, B, F, rfl, hP⟩
  have hP := Lib.hid hP
  go_wp2_with fail
  refine (oGet_hole hP.out.at_ p3z (by rfl)).mono ?_
  rintro e w2 ⟨rfl, T⟩
  obtain ⟨F2, hP2, k2, g2⟩ := hP.out.turn T
  have q2 := Lib.hid hP2.q
  clear T hP2 k2 g2 hP
  go_wp2_with (first
    | ((with_reducible refine guardList ?_)
       refine wantList_store (by rfl) 23 _ _ rfl w2.heap.size 0 (by rfl) (secL sec0) (by rfl) _ (secL sec0) (secL sec0) (Blk.new w2 _ _) (by simp only [secL_length]; decide) (secL_one _) (infoSecL _) wholeS ?_
       intro w3 hR3 k3 z3
       have hR3 := Lib.hid hR3
       have q3 := Lib.hid (Kept.out (q2.out.alloc q2.out.size _) k3 (fun i _ e => by have := q2.out.size; omega) (by have := q2.out.size; simp; omega))
       clear k3 z3))
  refine (pileAlive_any w3).mono ?_
  rintro e w4 ⟨rfl, hb⟩
  have hR4 := Lib.hid (blk_out hR3.out hb)
  have q4 := Lib.hid (q3.out.trans (hb.mono q3.out.size))
  clear hb
  go_wp2_with (first
    | ((with_reducible refine guardList ?_); refine wantList_load (by rfl) 23 _ rfl w2.heap.size 0 (by rfl) (secL sec0) _ (rangeB hR4.out) Try.underlying23 rfl (infoSecL _) ?_)
    | ((with_reducible refine guardList ?_); refine wantList_build (by rfl) 23 [] rfl (secL sec0) _ (by rfl) built_sec0 ?_))
  refine (made_any 64 (by unfold I64; omega) w4).mono ?_
  rintro e w5 ⟨g, d, B, F, rfl, hP⟩
  have hP := Lib.hid hP
  have q5 := Lib.hid (q4.out.trans (hP.out.q.mono q4.out.size))
  go_wp2_with fail
  refine (oDrop hP.out.at_ p3z hfit.out).mono ?_
  rw [drop_hole (m := ⟨DevM.fresh (DevM.newLen 64), newS 64, 1, 0⟩) (q := p3z) rfl]
  rintro e w6 ⟨rfl, T⟩
  obtain ⟨F6, hP6, k6, g6⟩ := (hP.out.later q4.out).turn T
  have q6 := Lib.hid hP6.q
  clear T hP6 k6 g6
  go_wp2
  go_ret
  exact ⟨by simp, q6.out⟩

theorem own : ownKnob Try.prog.godebug = none := by kernel_rfl

set_option maxRecDepth 100000 in
theorem lifted (os : Os) (started : os.Started) (H : Type) (enc : TypeId × Value → H) :
    ReturnsInHanded {} Try.checked os 3 .any (Rows.pileNamesSpec.pre6 enc Try.prog Try.f3 Rows.pileNamesRow.domain false) (Rows.pileNamesSpec.post enc Try.prog Try.f3 false true false false) := by
  refine returnsInHanded_of_change_sized (C := Try.checked) own started (by kernel_rfl) Try.func3
    (ChangeSpec.witness6 (enc := enc) (C := Try.checked) false ⟨#[], #[], []⟩ 8 (by kernel_rfl) (by kernel_rfl) (by kernel_rfl) (by kernel_rfl)) ?_
  intro W base args ds gs before hval0 hW hcnd hsz0 _
  have hval : ∀ (j : Nat) t v, Try.f3.params[j]? = some t → args[j]? = some v → Value.okWide Try.prog W .any base t v := hval0
  have hsz : (DataW.weightsEach Try.prog (Try.f3.params.toList ++ Rows.pileNamesSpec.plain.varTypes Try.prog) (ds ++ gs)).all (· ≤ reachBytes) = true := hsz0
  have hW' := hW
  obtain ⟨p, q, hA0, hV, rfl, hfz, hnd⟩ := hW
  have hA : DataW.TrodAll enc Try.prog W 0 (fun _ => true) true Try.f3.params.toList args.toList ds p := hA0
  rw [Try.params3] at hA hval hsz
  obtain ⟨rfl, rfl, rfl⟩ := trodAll_none hA
  obtain ⟨rfl, rfl⟩ := trodVars_none hV
  clear hA0 hval0 hsz0
  refine (walk  W ).mono fun e W' ⟨he, bel⟩ => ?_
  subst he
  exact ⟨_, rfl, _, _, _, [], _, [], hW', trodAll_mk1 (shut_bool Try.underlying4 _), trodAll_mk0, rfl, bel.frame _, fun h => by cases h⟩

theorem proved : Rows.PileNamesSaid :=
  OpenClaim.holds_of_wide 3 Try.f3 rfl rfl rfl rfl rfl rfl rfl ⟨rfl, rfl, rfl, rfl, rfl⟩ rfl rfl rfl rfl rfl (by kernel_rfl) Try.func3 (by kernel_rfl)
    (of_decide_eq_true (by kernel_rfl)) (by unfold Func.isWrapper; first | (rw [if_pos (by decide +kernel)]; kernel_rfl) | (rw [if_neg (by decide +kernel)]; exact ⟨rfl, rfl⟩))
    (fun os started H enc _ => lifted os started H enc)
end Go.Proofs.Ytkhjhkiieieogaa.lawPileNames
