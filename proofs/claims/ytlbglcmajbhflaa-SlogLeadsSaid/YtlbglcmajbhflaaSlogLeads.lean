/- SlogLeads, for every input: the law returns true and each argument reads behind the call as before. No condition. -/
import Derived.Test.YtlbglcmajbhflaaSlogP
namespace Go.Proofs.Ytlbglcmajbhflaa.lawSlogLeads
open Go.ChangeShapes Go.WideShapes Go.ChangeAt Go.RowKit Go.Deep
set_option linter.unusedVariables false
set_option maxRecDepth 20000

set_option maxHeartbeats 4000000 in
theorem walk (ao : Option Addr) (xs : List (Int × Int)) (cap : Nat) (bo : Option Addr) (ys : List (Int × Int)) (cap' : Nat) (mo : Option Addr) (ms : List (Bool × Int × Int)) (cap'' : Nat) (w : World) (hx : Spans w ao xs) (hf : Fits xs) (hn : ao = none → xs = [] ∧ cap = 0)
    (hy : Spans w bo ys) (hg : Fits ys) (hn' : bo = none → ys = [] ∧ cap' = 0) (hm : Moves w mo ms) (hh : FitM ms) (hn'' : (mo = none → ms = [] ∧ cap'' = 0) ∧ ms.length ≤ cap'' ∧ cap'' ≤ 140737488351232) :
    Calls Try.prog 7 #[.slice ao xs.length cap, .slice bo ys.length cap', .slice mo ms.length cap''] w fun e w' => e = .returned (.bool true) ∧ Below w.heap.size w w' := by
  have Hx := Lib.hid hx
  have Hf := Lib.hid hf
  have Hy := Lib.hid hy
  have Hg := Lib.hid hg
  have Hm := Lib.hid hm
  have Hh := Lib.hid hh
  have hfl := hf.2
  have hgl := hg.2
  have hhl := hh.2
  clear hx hf hn hy hg hn' hm hh hn''
  go_enter Try.func7, Try.ntmps7
  go_wp2_with fail
  refine (slogAlive_any w).mono ?_
  rintro e w1 ⟨rfl, hb1⟩
  have hb1 := Lib.hid hb1
  go_wp2_with fail
  refine (sRefRight_any ao cap xs w1 (Hx.out.below hb1.out) Hf.out).mono ?_
  rintro e w2 ⟨rfl, hb2⟩
  have hb2 := Lib.hid (hb1.out.trans (hb2.mono hb1.out.size))
  cases hR : rightFrom 0 xs
  · go_wp2
    go_ret
    exact ⟨rfl, hb2.out⟩
  have Rx := Lib.hid hR
  clear hR
  go_wp2_with fail
  refine (sRefRight_any bo cap' ys w2 (Hy.out.below hb2.out) Hg.out).mono ?_
  rintro e w3 ⟨rfl, hb3⟩
  have hb3 := Lib.hid (hb2.out.trans (hb3.mono hb2.out.size))
  cases hR : rightFrom 0 ys
  · go_wp2
    go_ret
    exact ⟨rfl, hb3.out⟩
  have Ry := Lib.hid hR
  clear hR
  by_cases hlen : 200 < ms.length
  · go_wp2
    go_ret
    exact ⟨rfl, hb3.out⟩
  have hlen : ms.length ≤ 200 := by omega
  go_wp2_with fail
  refine (Diff_s ao bo cap cap' xs ys w3 (Hx.out.below hb3.out) Hf.out (Hy.out.below hb3.out) Hg.out).mono ?_
  rintro e w4 ⟨co, cc, L, rfl, hL, hs, hb4⟩
  have hb4 := Lib.hid (hb3.out.trans (hb4.mono hb3.out.size))
  have hLf := Lib.hid (show FitM L by rw [hL.out]; exact diffL_fit xs ys)
  have hrd := Lib.hid (show replayL xs L = some ys by rw [hL.out]; exact replay_diff Rx.out Ry.out)
  clear hL
  go_wp2_with fail
  refine (Replay_s ao co cap cc xs L w4 (Hx.out.below hb4.out) Hf.out hs.out hLf.out).mono ?_
  rintro e w5 ⟨eo, ec, K, E, rfl, hK, hE, ht, hb5⟩
  obtain rfl : ys = K := by rw [hK.out, hrd.out]; rfl
  obtain rfl : E = 0 := by rw [hE.out, hrd.out]; rfl
  have hb5 := Lib.hid (hb4.out.trans (hb5.mono hb4.out.size))
  clear hK hE hrd hs hLf
  go_wp2_with fail
  refine (Same_yes eo bo ec cap' ys w5 ht.out (Hy.out.below hb5.out) Hg.out).mono ?_
  rintro e w6 ⟨rfl, hb6⟩
  have hb6 := Lib.hid (hb5.out.trans (hb6.mono hb5.out.size))
  clear ht
  go_wp2_with fail
  refine (Replay_s none mo 0 cap'' [] ms w6 (Spans.nil _ _) Fits.nil (Hm.out.below hb6.out) Hh.out).mono ?_
  rintro e w7 ⟨so, sc, S, F, rfl, hS, hF, hs7, hb7⟩
  have hb7 := Lib.hid (hb6.out.trans (hb7.mono hb6.out.size))
  cases hr : replayL [] ms with
  | none =>
    obtain rfl : S = [] := by rw [hS.out, hr]; rfl
    obtain rfl : F = 81 := by rw [hF.out, hr]; rfl
    clear hS hF hr hs7
    go_wp2
    go_ret
    exact ⟨rfl, hb7.out⟩
  | some zs =>
    obtain rfl : S = zs := by rw [hS.out, hr]; rfl
    obtain rfl : F = 0 := by rw [hF.out, hr]; rfl
    have hSr := Lib.hid (replayL_set hr)
    have hSf := Lib.hid (right_fits hSr.out)
    clear hS hF hr
    go_wp2_with fail
    refine (Condense_s so sc S w7 hs7.out hSf.out).mono ?_
    rintro e w8 ⟨po, pc, M, rfl, hM, hp, hb8⟩
    have hs8 := Lib.hid (hs7.out.below hb8)
    have hb8 := Lib.hid (hb7.out.trans (hb8.mono hb7.out.size))
    have hMf := Lib.hid (show FitM M by rw [hM.out]; exact diffL_fit [] S)
    have hMl := Lib.hid (show M.length = S.length by rw [hM.out]; exact diff_nil_length hSr.out)
    have hMr := Lib.hid (show replayL [] M = some S by rw [hM.out]; exact replay_condense hSr.out)
    clear hM hs7
    go_wp2_with fail
    refine (Replay_s none po 0 pc [] M w8 (Spans.nil _ _) Fits.nil hp.out hMf.out).mono ?_
    rintro e w9 ⟨qo, qc, B, G, rfl, hB, hG, hq, hb9⟩
    obtain rfl : S = B := by rw [hB.out, hMr.out]; rfl
    obtain rfl : G = 0 := by rw [hG.out, hMr.out]; rfl
    have hs9 := Lib.hid (hs8.out.below hb9)
    have hb9 := Lib.hid (hb8.out.trans (hb9.mono hb8.out.size))
    clear hB hG hMr hs8
    have hle : ((M.length : Int) == (S.length : Int)) = true := by rw [hMl.out]; simp
    go_wp2_with fail
    refine (Same_yes qo so qc sc S w9 hq.out hs9.out hSf.out).mono ?_
    rintro e w10 ⟨rfl, hb10⟩
    have hb10 := Lib.hid (hb9.out.trans (hb10.mono hb9.out.size))
    go_wp2
    go_ret
    exact ⟨rfl, hb10.out⟩

theorem own : ownKnob Try.prog.godebug = none := by kernel_rfl
theorem laidOut : laidOutB Try.prog = true := by kernel_rfl

set_option maxRecDepth 100000 in
theorem lifted (os : Os) (started : os.Started) (H : Type) (enc : TypeId × Value → H) :
    ReturnsInHanded {} Try.checked os 7 .any (Rows.slogLeadsSpec.pre6 enc Try.prog Try.f7 Rows.slogLeadsRow.domain false) (Rows.slogLeadsSpec.post enc Try.prog Try.f7 false true false false) := by
  refine returnsInHanded_of_change_sized (C := Try.checked) own started (by kernel_rfl) Try.func7
    (ChangeSpec.witness6 (enc := enc) (C := Try.checked) false ⟨#[], #[.slice none 0 0, .slice none 0 0, .slice none 0 0], []⟩ 8 (by kernel_rfl) (by kernel_rfl) (by kernel_rfl) (by kernel_rfl)) ?_
  intro W base args ds gs before hval0 hW hcnd hsz0 _
  have hval : ∀ (j : Nat) t v, Try.f7.params[j]? = some t → args[j]? = some v → Value.okWide Try.prog W .any base t v := hval0
  have hsz : (DataW.weightsEach Try.prog (Try.f7.params.toList ++ Rows.slogLeadsSpec.plain.varTypes Try.prog) (ds ++ gs)).all (· ≤ reachBytes) = true := hsz0
  have hW' := hW
  obtain ⟨p, q, hA0, hV, rfl, hfz, hnd⟩ := hW
  have hA : DataW.TrodAll enc Try.prog W 0 (fun _ => true) true Try.f7.params.toList args.toList ds p := hA0
  rw [Try.params7] at hA hval hsz
  obtain ⟨v0, vs0, d0, ds0, p0, q0, hargs, rfl, rfl, h0, r0⟩ := trodAll_cons hA
  obtain ⟨v1, vs1, d1, ds1, p1, q1, rfl, rfl, rfl, h1, r1⟩ := trodAll_cons r0
  obtain ⟨v2, vs2, d2, ds2, p2, q2, rfl, rfl, rfl, h2, r2⟩ := trodAll_cons r1
  obtain ⟨rfl, rfl, rfl⟩ := trodAll_nil r2
  obtain rfl : args = #[v0, v1, v2] := by cases args; simp_all
  obtain ⟨rfl, rfl⟩ := trodVars_none hV
  have k0 := h0
  have lt0 : ∀ x ∈ p0, x.block < W.heap.size := by obtain ⟨m, hm⟩ := k0; exact DataW.trod_lt m _ _ _ hm
  obtain ⟨ao0, a0, cap0, rfl, sp0, fi0, nl0⟩ := arg_spans h0 (hval 0 22 v0 rfl rfl) (fun es sp e => sized_slice hsz (j := 0) (t := 22) (e := 53) rfl (by rw [e]; rfl) Try.underlying22)
  have k1 := h1
  have lt1 : ∀ x ∈ p1, x.block < W.heap.size := by obtain ⟨m, hm⟩ := k1; exact DataW.trod_lt m _ _ _ hm
  obtain ⟨ao1, a1, cap1, rfl, sp1, fi1, nl1⟩ := arg_spans h1 (hval 1 22 v1 rfl rfl) (fun es sp e => sized_slice hsz (j := 1) (t := 22) (e := 53) rfl (by rw [e]; rfl) Try.underlying22)
  have k2 := h2
  have lt2 : ∀ x ∈ p2, x.block < W.heap.size := by obtain ⟨m, hm⟩ := k2; exact DataW.trod_lt m _ _ _ hm
  obtain ⟨ao2, a2, cap2, rfl, sp2, fi2, nl2⟩ := arg_moves h2 (hval 2 27 v2 rfl rfl) (fun es sp e => sized_slice hsz (j := 2) (t := 27) (e := 55) rfl (by rw [e]; rfl) Try.underlying27)
  clear hA0 hval0 hsz0
  refine (walk ao0 a0 cap0 ao1 a1 cap1 ao2 a2 cap2 W sp0 fi0 nl0 sp1 fi1 nl1 sp2 fi2 nl2).mono fun e W' ⟨he, bel⟩ => ?_
  subst he
  exact ⟨_, rfl, _, _, _, [], _, [], hW', trodAll_mk1 (shut_bool Try.underlying4 _), (trodAll_cons_mk (Below.trod laidOut (by kernel_rfl) (of_decide_eq_true (by kernel_rfl)) k0 bel lt0) (trodAll_cons_mk (Below.trod laidOut (by kernel_rfl) (of_decide_eq_true (by kernel_rfl)) k1 bel lt1) (trodAll_cons_mk (Below.trod laidOut (by kernel_rfl) (of_decide_eq_true (by kernel_rfl)) k2 bel lt2) trodAll_mk0))), rfl, bel.frame _, fun h => by cases h⟩

theorem proved : Rows.SlogLeadsSaid :=
  OpenClaim.holds_of_wide 7 Try.f7 rfl rfl rfl rfl rfl rfl rfl ⟨rfl, rfl, rfl, rfl, rfl⟩ rfl rfl rfl rfl rfl (by kernel_rfl) Try.func7 (by kernel_rfl)
    (of_decide_eq_true (by kernel_rfl)) (by unfold Func.isWrapper; first | (rw [if_pos (by decide +kernel)]; kernel_rfl) | (rw [if_neg (by decide +kernel)]; exact ⟨rfl, rfl⟩))
    (fun os started H enc _ => lifted os started H enc)
end Go.Proofs.Ytlbglcmajbhflaa.lawSlogLeads
