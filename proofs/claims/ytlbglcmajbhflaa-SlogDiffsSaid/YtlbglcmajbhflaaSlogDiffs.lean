/- SlogDiffs, for every input: the law returns true and each argument reads behind the call as before. No condition. -/
import Derived.Test.YtlbglcmajbhflaaSlogP
namespace Go.Proofs.Ytlbglcmajbhflaa.lawSlogDiffs
open Go.ChangeShapes Go.WideShapes Go.ChangeAt Go.RowKit Go.Deep
set_option linter.unusedVariables false
set_option maxRecDepth 20000

set_option maxHeartbeats 4000000 in
theorem walk (ao : Option Addr) (xs : List (Int × Int)) (cap : Nat) (bo : Option Addr) (ys : List (Int × Int)) (cap' : Nat) (w : World) (hx : Spans w ao xs) (hf : Fits xs) (hn : ao = none → xs = [] ∧ cap = 0)
    (hy : Spans w bo ys) (hg : Fits ys) (hn' : bo = none → ys = [] ∧ cap' = 0) :
    Calls Try.prog 5 #[.slice ao xs.length cap, .slice bo ys.length cap'] w fun e w' => e = .returned (.bool true) ∧ Below w.heap.size w w' := by
  have Hx := Lib.hid hx
  have Hf := Lib.hid hf
  have Hy := Lib.hid hy
  have Hg := Lib.hid hg
  have hfl := hf.2
  have hgl := hg.2
  clear hx hf hn hy hg hn'
  go_enter Try.func5, Try.ntmps5
  go_wp2_with fail
  refine (slogAlive_any w).mono ?_
  rintro e w1 ⟨rfl, hb1⟩
  have hb1 := Lib.hid hb1
  go_wp2_with fail
  refine (Diff_s ao bo cap cap' xs ys w1 (Hx.out.below hb1.out) Hf.out (Hy.out.below hb1.out) Hg.out).mono ?_
  rintro e w2 ⟨co, cc, L, rfl, hL, hs, hb2⟩
  have hb2 := Lib.hid (hb1.out.trans (hb2.mono hb1.out.size))
  go_wp2_with fail
  refine (refDiff_s ao bo cap cap' xs ys w2 (Hx.out.below hb2.out) Hf.out (Hy.out.below hb2.out) Hg.out).mono ?_
  rintro e w3 ⟨eo, ec, L', rfl, hL', hs', hb3⟩
  obtain rfl : L' = L := by rw [hL'.out, hL.out]
  have hs := Lib.hid (hs.out.below hb3)
  have hb3 := Lib.hid (hb2.out.trans (hb3.mono hb2.out.size))
  have hLf := Lib.hid (show FitM L' by rw [hL'.out]; exact diffL_fit xs ys)
  go_wp2_with fail
  refine (SameM_yes co eo cc ec L' w3 hs.out hs'.out hLf.out).mono ?_
  rintro e w4 ⟨rfl, hb4⟩
  have hb4 := Lib.hid (hb3.out.trans (hb4.mono hb3.out.size))
  clear hL hL' hs hs' hLf
  go_wp2_with fail
  refine (Condense_s bo cap' ys w4 (Hy.out.below hb4.out) Hg.out).mono ?_
  rintro e w5 ⟨co5, cc5, M, rfl, hM, ht, hb5⟩
  have hb5 := Lib.hid (hb4.out.trans (hb5.mono hb4.out.size))
  go_wp2_with fail
  refine (refDiff_s none bo 0 cap' [] ys w5 (Spans.nil _ _) Fits.nil (Hy.out.below hb5.out) Hg.out).mono ?_
  rintro e w6 ⟨eo6, ec6, M', rfl, hM', ht', hb6⟩
  obtain rfl : M' = M := by rw [hM'.out, hM.out]
  have ht := Lib.hid (ht.out.below hb6)
  have hb6 := Lib.hid (hb5.out.trans (hb6.mono hb5.out.size))
  have hMf := Lib.hid (show FitM M' by rw [hM'.out]; exact diffL_fit [] ys)
  go_wp2_with fail
  refine (SameM_yes co5 eo6 cc5 ec6 M' w6 ht.out ht'.out hMf.out).mono ?_
  rintro e w7 ⟨rfl, hb7⟩
  have hb7 := Lib.hid (hb6.out.trans (hb7.mono hb6.out.size))
  go_wp2
  go_ret
  exact ⟨rfl, hb7.out⟩

theorem own : ownKnob Try.prog.godebug = none := by kernel_rfl
theorem laidOut : laidOutB Try.prog = true := by kernel_rfl

set_option maxRecDepth 100000 in
theorem lifted (os : Os) (started : os.Started) (H : Type) (enc : TypeId × Value → H) :
    ReturnsInHanded {} Try.checked os 5 .any (Rows.slogDiffsSpec.pre6 enc Try.prog Try.f5 Rows.slogDiffsRow.domain false) (Rows.slogDiffsSpec.post enc Try.prog Try.f5 false true false false) := by
  refine returnsInHanded_of_change_sized (C := Try.checked) own started (by kernel_rfl) Try.func5
    (ChangeSpec.witness6 (enc := enc) (C := Try.checked) false ⟨#[], #[.slice none 0 0, .slice none 0 0], []⟩ 8 (by kernel_rfl) (by kernel_rfl) (by kernel_rfl) (by kernel_rfl)) ?_
  intro W base args ds gs before hval0 hW hcnd hsz0 _
  have hval : ∀ (j : Nat) t v, Try.f5.params[j]? = some t → args[j]? = some v → Value.okWide Try.prog W .any base t v := hval0
  have hsz : (DataW.weightsEach Try.prog (Try.f5.params.toList ++ Rows.slogDiffsSpec.plain.varTypes Try.prog) (ds ++ gs)).all (· ≤ reachBytes) = true := hsz0
  have hW' := hW
  obtain ⟨p, q, hA0, hV, rfl, hfz, hnd⟩ := hW
  have hA : DataW.TrodAll enc Try.prog W 0 (fun _ => true) true Try.f5.params.toList args.toList ds p := hA0
  rw [Try.params5] at hA hval hsz
  obtain ⟨v0, vs0, d0, ds0, p0, q0, hargs, rfl, rfl, h0, r0⟩ := trodAll_cons hA
  obtain ⟨v1, vs1, d1, ds1, p1, q1, rfl, rfl, rfl, h1, r1⟩ := trodAll_cons r0
  obtain ⟨rfl, rfl, rfl⟩ := trodAll_nil r1
  obtain rfl : args = #[v0, v1] := by cases args; simp_all
  obtain ⟨rfl, rfl⟩ := trodVars_none hV
  have k0 := h0
  have lt0 : ∀ x ∈ p0, x.block < W.heap.size := by obtain ⟨m, hm⟩ := k0; exact DataW.trod_lt m _ _ _ hm
  obtain ⟨ao0, a0, cap0, rfl, sp0, fi0, nl0⟩ := arg_spans h0 (hval 0 22 v0 rfl rfl) (fun es sp e => sized_slice hsz (j := 0) (t := 22) (e := 53) rfl (by rw [e]; rfl) Try.underlying22)
  have k1 := h1
  have lt1 : ∀ x ∈ p1, x.block < W.heap.size := by obtain ⟨m, hm⟩ := k1; exact DataW.trod_lt m _ _ _ hm
  obtain ⟨ao1, a1, cap1, rfl, sp1, fi1, nl1⟩ := arg_spans h1 (hval 1 22 v1 rfl rfl) (fun es sp e => sized_slice hsz (j := 1) (t := 22) (e := 53) rfl (by rw [e]; rfl) Try.underlying22)
  clear hA0 hval0 hsz0
  refine (walk ao0 a0 cap0 ao1 a1 cap1 W sp0 fi0 nl0 sp1 fi1 nl1).mono fun e W' ⟨he, bel⟩ => ?_
  subst he
  exact ⟨_, rfl, _, _, _, [], _, [], hW', trodAll_mk1 (shut_bool Try.underlying4 _), (trodAll_cons_mk (Below.trod laidOut (by kernel_rfl) (of_decide_eq_true (by kernel_rfl)) k0 bel lt0) (trodAll_cons_mk (Below.trod laidOut (by kernel_rfl) (of_decide_eq_true (by kernel_rfl)) k1 bel lt1) trodAll_mk0)), rfl, bel.frame _, fun h => by cases h⟩

theorem proved : Rows.SlogDiffsSaid :=
  OpenClaim.holds_of_wide 5 Try.f5 rfl rfl rfl rfl rfl rfl rfl ⟨rfl, rfl, rfl, rfl, rfl⟩ rfl rfl rfl rfl rfl (by kernel_rfl) Try.func5 (by kernel_rfl)
    (of_decide_eq_true (by kernel_rfl)) (by unfold Func.isWrapper; first | (rw [if_pos (by decide +kernel)]; kernel_rfl) | (rw [if_neg (by decide +kernel)]; exact ⟨rfl, rfl⟩))
    (fun os started H enc _ => lifted os started H enc)
end Go.Proofs.Ytlbglcmajbhflaa.lawSlogDiffs
