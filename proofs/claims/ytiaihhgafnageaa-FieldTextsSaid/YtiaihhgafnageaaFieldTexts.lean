/- FieldTexts, for every input: the law returns true and each argument reads behind the call as before. No condition. -/
import Derived.Test.YtiaihhgafnageaaFieldM
namespace Go.Proofs.Ytiaihhgafnageaa.lawFieldTexts
open Go.ChangeShapes Go.WideShapes Go.ChangeAt Go.RowKit Go.Deep
set_option linter.unusedVariables false

set_option maxHeartbeats 2000000 in
theorem walk (ao : Option Addr) (ts : List (List UInt8)) (cap : Nat) (bo : Option Addr) (bs : List UInt8) (cap' : Nat) (w : World) (hx : Texts w ao ts) (hf : ts.length ≤ cap ∧ cap * 24 ≤ 140737488351232) (hn : ao = none → cap = 0)
    (hy : Bytes w bo bs) (hg : bs.length ≤ cap' ∧ cap' ≤ 140737488351232) (hn' : bo = none → cap' = 0) :
    Calls Try.prog 6 #[.slice ao ts.length cap, .slice bo bs.length cap'] w fun e w' => e = .returned (.bool true) ∧ Below w.heap.size w w' := by
  obtain ⟨j0, hj, hy0, hy1, hy2⟩ := info_parts infoU8
  obtain ⟨hg, hg2⟩ := hg
  obtain ⟨hf, hf2⟩ := hf
  have hx1 := Lib.hid hx
  have hy1' := Lib.hid hy
  have hn2 := Lib.hid hn'
  have lb := Lib.hid (bytesV_length bs)
  have ob := Lib.hid (bytesV_one bs)
  have hsl : ((splitL bs).getD []).length ≤ 65535 := splitL_length
  clear hn hn' hx hy
  by_cases hmany : ts.length ≤ 70000
  · go_enter Try.func6, Try.ntmps6
    go_wp2_with fail
    refine (alive_any w).mono ?_
    rintro e w1 ⟨rfl, hb1⟩
    have hb1 := Lib.hid hb1
    go_wp2_with fail
    refine (Join_any ao cap ts w1 (hx1.out.below hb1.out) (by omega)).mono ?_
    intro e w2 hP
    obtain ⟨po, pc, rfl, hp, _, _, _, hb2⟩ := hP.out
    clear hP
    have hb2 := Lib.hid (hb1.out.trans (hb2.mono hb1.out.size))
    go_wp2_with fail
    refine (refJoin_any ao cap ts w2 (hx1.out.below hb2.out) (by omega)).mono ?_
    intro e w3 hP
    obtain ⟨qo, qc, rfl, hq, _, _, _, hb3⟩ := hP.out
    clear hP
    have hp3 := Lib.hid (Reads.below hp.out hb3)
    have hb3 := Lib.hid (hb2.out.trans (hb3.mono hb2.out.size))
    clear hp
    go_wp2_with (at_builtin; refine wpList_copy rfl (.tmp 29) (.tmp 30) 26 rfl 5 j0 (.int .u8 0) 1 Try.underlying26 hj hy0 hy1 hy2 rfl w3 rfl bo bs.length cap' (bytesV bs) rfl hn2.out lb.out (Reads.below hy1'.out hb3.out) ob.out (by omega) (by omega) ?_; intro a2 c2 w4 ho2 hc2 hc3 hnn hb4; have ho2 := Lib.hid ho2; have hb4 := Lib.hid hb4; have hnn := Lib.hid hnn)
    have hr2 := Lib.hid (show Bytes w4 a2 bs from ho2.out.reads)
    have hp4 := Lib.hid (Reads.below hp3.out hb4.out)
    have hq4 := Lib.hid (Reads.below hq.out hb4.out)
    have hb5 := Lib.hid (hb3.out.trans (hb4.out.mono hb3.out.size))
    clear ho2 hp3 hq
    refine (Split_any a2 c2 bs w4 hr2.out hc2 hc3 hnn.out).mono ?_
    intro e w5 hP
    obtain ⟨ro, rc, rfl, hr, _, _, hb6⟩ := hP.out
    clear hP
    have hp5 := Lib.hid (Reads.below hp4.out hb6)
    have hq5 := Lib.hid (Reads.below hq4.out hb6)
    have hb6 := Lib.hid (hb5.out.trans (hb6.mono hb5.out.size))
    clear hp4 hq4
    go_wp2_with fail
    refine (refSplit_any bo cap' bs w5 (Reads.below hy1'.out hb6.out) hg (by omega) (by omega) hn2.out).mono ?_
    intro e w6 hP
    obtain ⟨so, sc, rfl, hs, _, _, hb7⟩ := hP.out
    clear hP
    have q1 := str_at _ pc (Reads.below hp5.out hb7) rfl
    have q2 := str_at _ qc (Reads.below hq5.out hb7) rfl
    have hr7 := Lib.hid (hr.out.below hb7)
    have hb7 := Lib.hid (hb6.out.trans (hb7.mono hb6.out.size))
    clear hp5 hq5 hr
    go_wp2_with fail
    refine (SameTexts_any ro so rc sc _ _ w6 hr7.out hs.out (by omega) (by omega)).mono ?_
    rintro e w7 ⟨rfl, hb8⟩
    rw [decide_eq_true rfl]
    have hb8 := Lib.hid (hb7.out.trans (hb8.mono hb7.out.size))
    go_wp2
    go_ret
    exact ⟨rfl, hb8.out⟩
  · go_enter Try.func6, Try.ntmps6
    go_wp2_with fail
    refine (alive_any w).mono ?_
    rintro e w1 ⟨rfl, hb1⟩
    have hb1 := Lib.hid hb1
    go_wp2
    go_ret
    exact ⟨rfl, hb1.out⟩


theorem own : ownKnob Try.prog.godebug = none := by kernel_rfl
theorem laidOut : laidOutB Try.prog = true := by kernel_rfl

set_option maxRecDepth 100000 in
theorem lifted (os : Os) (started : os.Started) (H : Type) (enc : TypeId × Value → H) :
    ReturnsInHanded {} Try.checked os 6 .any (Rows.fieldTextsSpec.pre6 enc Try.prog Try.f6 Rows.fieldTextsRow.domain false) (Rows.fieldTextsSpec.post enc Try.prog Try.f6 false true false false) := by
  refine returnsInHanded_of_change_sized (C := Try.checked) own started (by kernel_rfl) Try.func6
    (ChangeSpec.witness6 (enc := enc) (C := Try.checked) false ⟨#[], #[.slice none 0 0, .slice none 0 0], []⟩ 8 (by kernel_rfl) (by kernel_rfl) (by kernel_rfl) (by kernel_rfl)) ?_
  intro W base args ds gs before hval0 hW hcnd hsz0 _
  have hval : ∀ (j : Nat) t v, Try.f6.params[j]? = some t → args[j]? = some v → Value.okWide Try.prog W .any base t v := hval0
  have hsz : (DataW.weightsEach Try.prog (Try.f6.params.toList ++ Rows.fieldTextsSpec.plain.varTypes Try.prog) (ds ++ gs)).all (· ≤ reachBytes) = true := hsz0
  have hW' := hW
  obtain ⟨p, q, hA0, hV, rfl, hfz, hnd⟩ := hW
  have hA : DataW.TrodAll enc Try.prog W 0 (fun _ => true) true Try.f6.params.toList args.toList ds p := hA0
  rw [Try.params6] at hA hval hsz
  obtain ⟨v0, vs0, d0, ds0, p0, q0, hargs, rfl, rfl, h0, r0⟩ := trodAll_cons hA
  obtain ⟨v1, vs1, d1, ds1, p1, q1, rfl, rfl, rfl, h1, r1⟩ := trodAll_cons r0
  obtain ⟨rfl, rfl, rfl⟩ := trodAll_nil r1
  obtain rfl : args = #[v0, v1] := by cases args; simp_all
  obtain ⟨rfl, rfl⟩ := trodVars_none hV
  have k0 := h0
  have lt0 : ∀ x ∈ p0, x.block < W.heap.size := by obtain ⟨m, hm⟩ := k0; exact DataW.trod_lt m _ _ _ hm
  obtain ⟨ao0, a0, cap0, rfl, sp0, fi0, nl0⟩ := arg_texts h0 (hval 0 38 v0 rfl rfl) (fun es sp e => sized_slice hsz (j := 0) (t := 38) (e := 26) rfl (by rw [e]; rfl) Try.underlying38)
  have k1 := h1
  have lt1 : ∀ x ∈ p1, x.block < W.heap.size := by obtain ⟨m, hm⟩ := k1; exact DataW.trod_lt m _ _ _ hm
  obtain ⟨ao1, a1, cap1, rfl, sp1, fi1, nl1⟩ := arg_bytes h1 (hval 1 26 v1 rfl rfl) (fun es sp e => sized_slice hsz (j := 1) (t := 26) (e := 5) rfl (by rw [e]; rfl) Try.underlying26)
  clear hA0 hval0 hsz0
  refine (walk ao0 a0 cap0 ao1 a1 cap1 W sp0 fi0 nl0 sp1 fi1 nl1).mono fun e W' ⟨he, bel⟩ => ?_
  subst he
  exact ⟨_, rfl, _, _, _, [], _, [], hW', trodAll_mk1 (shut_bool Try.underlying4 _), (trodAll_cons_mk (Below.trod laidOut (by kernel_rfl) (of_decide_eq_true (by kernel_rfl)) k0 bel lt0) (trodAll_cons_mk (Below.trod laidOut (by kernel_rfl) (of_decide_eq_true (by kernel_rfl)) k1 bel lt1) trodAll_mk0)), rfl, bel.frame _, fun h => by cases h⟩

theorem proved : Rows.FieldTextsSaid :=
  OpenClaim.holds_of_wide 6 Try.f6 rfl rfl rfl rfl rfl rfl rfl ⟨rfl, rfl, rfl, rfl, rfl⟩ rfl rfl rfl rfl rfl (by kernel_rfl) Try.func6 (by kernel_rfl)
    (of_decide_eq_true (by kernel_rfl)) (by unfold Func.isWrapper; first | (rw [if_pos (by decide +kernel)]; kernel_rfl) | (rw [if_neg (by decide +kernel)]; exact ⟨rfl, rfl⟩))
    (fun os started H enc _ => lifted os started H enc)
end Go.Proofs.Ytiaihhgafnageaa.lawFieldTexts
