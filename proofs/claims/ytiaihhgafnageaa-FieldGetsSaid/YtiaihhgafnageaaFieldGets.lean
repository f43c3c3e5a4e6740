/- FieldGets, for every input: the law returns true and each argument reads behind the call as before. No condition. -/
import Derived.Test.YtiaihhgafnageaaFieldM
namespace Go.Proofs.Ytiaihhgafnageaa.lawFieldGets
open Go.ChangeShapes Go.WideShapes Go.ChangeAt Go.RowKit Go.Deep
set_option linter.unusedVariables false

set_option maxHeartbeats 2000000 in
theorem walk (ao : Option Addr) (ws : List Int) (cap : Nat) (bo : Option Addr) (bs : List UInt8) (cap' : Nat) (w : World) (hx : Ints w ao ws) (hf : I64s ws) (hn : ao = none → cap = 0)
    (hy : Bytes w bo bs) (hg : bs.length ≤ cap' ∧ cap' ≤ 140737488351232) (hn' : bo = none → cap' = 0) :
    Calls Try.prog 5 #[.slice ao ws.length cap, .slice bo bs.length cap'] w fun e w' => e = .returned (.bool true) ∧ Below w.heap.size w w' := by
  obtain ⟨i0, hi, hz0, hz1, hz2⟩ := info_parts infoInt
  obtain ⟨j0, hj, hy0, hy1, hy2⟩ := info_parts infoU8
  obtain ⟨hg, hg2⟩ := hg
  have hl := hf.2
  have hx1 := Lib.hid hx
  have hy1' := Lib.hid hy
  have hf1 := Lib.hid hf
  have hn1 := Lib.hid hn
  have hn2 := Lib.hid hn'
  have la := Lib.hid (intsV_length ws)
  have lb := Lib.hid (bytesV_length bs)
  have oa := Lib.hid (intsV_one ws)
  have ob := Lib.hid (bytesV_one bs)
  have hfit : Hid (Fit64 ((getL ws bs).getD [])) := Lib.hid (by
    cases e : getL ws bs with
    | none => exact ⟨by simp, by simp⟩
    | some l => exact ⟨by simpa using getL_fit e, by have := (getL_length e).2.2; simp [this]; omega⟩)
  clear hn hn' hx hy hf
  go_enter Try.func5, Try.ntmps5
  go_wp2_with (first
    | (at_builtin; refine wpList_copy rfl (.tmp 10) (.tmp 11) 28 rfl 3 i0 (.int .i64 0) 8 Try.underlying28 hi hz0 hz1 hz2 rfl w rfl ao ws.length cap (intsV ws) rfl hn1.out la.out hx1.out oa.out (by omega) (by omega) ?_; intro a1 c1 w1 ho1 _ _ _ hb1; have ho1 := Lib.hid ho1; have hb1 := Lib.hid hb1)
    | (at_builtin; refine wpList_copy rfl (.tmp 13) (.tmp 14) 26 rfl 5 j0 (.int .u8 0) 1 Try.underlying26 hj hy0 hy1 hy2 rfl w1 rfl bo bs.length cap' (bytesV bs) rfl hn2.out lb.out (Reads.below hy1'.out hb1.out) ob.out (by omega) (by omega) ?_; intro a2 c2 w2 ho2 hc2 hc3 _ hb2; have ho2 := Lib.hid ho2; have hb2 := Lib.hid hb2))
  have hr1 := Lib.hid (show Ints w2 a1 ws from (ho1.out.below hb2.out).reads)
  have hr2 := Lib.hid (show Bytes w2 a2 bs from ho2.out.reads)
  have hb3 : Hid (Below w.heap.size w w2) := Lib.hid (hb1.out.trans (hb2.out.mono hb1.out.size))
  clear ho1 ho2
  refine (Get_any a1 a2 c1 c2 ws bs w2 hr1.out hr2.out hf1.out hc2 hc3).mono ?_
  intro e w4 hP
  obtain ⟨po, pc, rfl, hp, _, _, _, hb4⟩ := hP.out
  clear hP hr1 hr2
  have hb4 := Lib.hid (hb3.out.trans (hb4.mono hb3.out.size))
  go_wp2_with fail
  refine (refGet_any ao bo cap cap' ws bs w4 (Reads.below hx1.out hb4.out) (Reads.below hy1'.out hb4.out) hf1.out hg (by omega)).mono ?_
  intro e w5 hP
  obtain ⟨qo, qc, rfl, hq, _, _, _, hb5⟩ := hP.out
  clear hP
  have hp5 := Lib.hid (Reads.below hp.out hb5)
  have hb5 := Lib.hid (hb4.out.trans (hb5.mono hb4.out.size))
  go_wp2_with fail
  refine (alive_any w5).mono ?_
  rintro e w6 ⟨rfl, hb6⟩
  have hp6 := Lib.hid (Reads.below hp5.out hb6)
  have hq6 := Lib.hid (Reads.below hq.out hb6)
  have hb6 := Lib.hid (hb5.out.trans (hb6.mono hb5.out.size))
  go_wp2_with fail
  refine (SameNums_any po qo pc qc _ _ w6 hp6.out hq6.out hfit.out hfit.out).mono ?_
  rintro e w7 ⟨rfl, hb7⟩
  rw [decide_eq_true rfl]
  have hb7 := Lib.hid (hb6.out.trans (hb7.mono hb6.out.size))
  go_wp2
  go_ret
  exact ⟨rfl, hb7.out⟩


theorem own : ownKnob Try.prog.godebug = none := by kernel_rfl
theorem laidOut : laidOutB Try.prog = true := by kernel_rfl

set_option maxRecDepth 100000 in
theorem lifted (os : Os) (started : os.Started) (H : Type) (enc : TypeId × Value → H) :
    ReturnsInHanded {} Try.checked os 5 .any (Rows.fieldGetsSpec.pre6 enc Try.prog Try.f5 Rows.fieldGetsRow.domain false) (Rows.fieldGetsSpec.post enc Try.prog Try.f5 false true false false) := by
  refine returnsInHanded_of_change_sized (C := Try.checked) own started (by kernel_rfl) Try.func5
    (ChangeSpec.witness6 (enc := enc) (C := Try.checked) false ⟨#[], #[.slice none 0 0, .slice none 0 0], []⟩ 8 (by kernel_rfl) (by kernel_rfl) (by kernel_rfl) (by kernel_rfl)) ?_
  intro W base args ds gs before hval0 hW hcnd hsz0 _
  have hval : ∀ (j : Nat) t v, Try.f5.params[j]? = some t → args[j]? = some v → Value.okWide Try.prog W .any base t v := hval0
  have hsz : (DataW.weightsEach Try.prog (Try.f5.params.toList ++ Rows.fieldGetsSpec.plain.varTypes Try.prog) (ds ++ gs)).all (· ≤ reachBytes) = true := hsz0
  have hW' := hW
  obtain ⟨p, q, hA0, hV, rfl, hfz, hnd⟩ := hW
  have hA : DataW.TrodAll enc Try.prog W 0 (fun _ => true) true Try.f5.params.toList args.toList ds p := hA0
  rw [Try.params5] at hA hval hsz
  obtain ⟨v0, vs0, d0, ds0, p0, q0, hargs, rfl, rfl, h0, r0⟩ := trodAll_cons hA
  obtain ⟨v1, vs1, d1, ds1, p1, q1, rfl, rfl, rfl, h1, r1⟩ := trodAll_cons r0
  obtain ⟨rfl, rfl, rfl⟩ := trodAll_nil r1
  obtain rfl : args = #[v0, v1] := by cases args; simp_all
  obtain ⟨rfl, rfl⟩ := trodVars_none hV
  have k0 := h0
  have lt0 : ∀ x ∈ p0, x.block < W.heap.size := by obtain ⟨m, hm⟩ := k0; exact DataW.trod_lt m _ _ _ hm
  obtain ⟨ao0, a0, cap0, rfl, sp0, fi0, nl0⟩ := arg_ints h0 (hval 0 28 v0 rfl rfl) (fun es sp e => sized_slice hsz (j := 0) (t := 28) (e := 3) rfl (by rw [e]; rfl) Try.underlying28)
  have k1 := h1
  have lt1 : ∀ x ∈ p1, x.block < W.heap.size := by obtain ⟨m, hm⟩ := k1; exact DataW.trod_lt m _ _ _ hm
  obtain ⟨ao1, a1, cap1, rfl, sp1, fi1, nl1⟩ := arg_bytes h1 (hval 1 26 v1 rfl rfl) (fun es sp e => sized_slice hsz (j := 1) (t := 26) (e := 5) rfl (by rw [e]; rfl) Try.underlying26)
  clear hA0 hval0 hsz0
  refine (walk ao0 a0 cap0 ao1 a1 cap1 W sp0 fi0 nl0 sp1 fi1 nl1).mono fun e W' ⟨he, bel⟩ => ?_
  subst he
  exact ⟨_, rfl, _, _, _, [], _, [], hW', trodAll_mk1 (shut_bool Try.underlying4 _), (trodAll_cons_mk (Below.trod laidOut (by kernel_rfl) (of_decide_eq_true (by kernel_rfl)) k0 bel lt0) (trodAll_cons_mk (Below.trod laidOut (by kernel_rfl) (of_decide_eq_true (by kernel_rfl)) k1 bel lt1) trodAll_mk0)), rfl, bel.frame _, fun h => by cases h⟩

theorem proved : Rows.FieldGetsSaid :=
  OpenClaim.holds_of_wide 5 Try.f5 rfl rfl rfl rfl rfl rfl rfl ⟨rfl, rfl, rfl, rfl, rfl⟩ rfl rfl rfl rfl rfl (by kernel_rfl) Try.func5 (by kernel_rfl)
    (of_decide_eq_true (by kernel_rfl)) (by unfold Func.isWrapper; first | (rw [if_pos (by decide +kernel)]; kernel_rfl) | (rw [if_neg (by decide +kernel)]; exact ⟨rfl, rfl⟩))
    (fun os started H enc _ => lifted os started H enc)
end Go.Proofs.Ytiaihhgafnageaa.lawFieldGets
