/- SlogBack, for every input: the law returns true and each argument reads behind the call as before. No condition. -/
import Derived.Test.YtlbglcmajbhflaaSlogP
namespace Go.Proofs.Ytlbglcmajbhflaa.lawSlogBack
open Go.ChangeShapes Go.WideShapes Go.ChangeAt Go.RowKit Go.Deep
set_option linter.unusedVariables false
set_option maxRecDepth 20000

set_option maxHeartbeats 8000000 in
theorem walk (ao : Option Addr) (xs : List (Int × Int)) (cap : Nat) (bo : Option Addr) (ys : List (Int × Int)) (cap' : Nat) (mo : Option Addr) (ms : List (Bool × Int × Int)) (cap'' : Nat) (w : World) (hx : Spans w ao xs) (hf : Fits xs) (hn : ao = none → xs = [] ∧ cap = 0)
    (hy : Spans w bo ys) (hg : Fits ys) (hn' : bo = none → ys = [] ∧ cap' = 0) (hm : Moves w mo ms) (hh : FitM ms) (hn'' : (mo = none → ms = [] ∧ cap'' = 0) ∧ ms.length ≤ cap'' ∧ cap'' ≤ 140737488351232) :
    Calls Try.prog 9 #[.slice ao xs.length cap, .slice bo ys.length cap', .slice mo ms.length cap''] w fun e w' => e = .returned (.bool true) ∧ Below w.heap.size w w' := by
  have Hx := Lib.hid hx
  have Hf := Lib.hid hf
  have Hy := Lib.hid hy
  have Hg := Lib.hid hg
  have Hm := Lib.hid hm
  have Hh := Lib.hid hh
  have hfl := hf.2
  have hgl := hg.2
  have hhl := hh.2
  clear hx hf hn hy hg hn' hm hh hn''
  go_enter Try.func9, Try.ntmps9
  go_wp2_with fail
  refine (slogAlive_any w).mono ?_
  rintro e w1 ⟨rfl, hb1⟩
  have hb1 := Lib.hid hb1
  by_cases hlen : 4096 < ms.length
  · go_wp2
    go_ret
    exact ⟨rfl, hb1.out⟩
  have hlen : ms.length ≤ 4096 := by omega
  go_wp2_with fail
  refine (mBytes_s mo cap'' ms w1 (Hm.out.below hb1.out) Hh.out).mono ?_
  rintro e w2 ⟨co, cc, L, E, rfl, hL, hE, hs, hl1, hl2, hb2⟩
  have hb2 := Lib.hid (hb1.out.trans (hb2.mono hb1.out.size))
  cases hr : bytesM ms with
  | none =>
    obtain rfl : E = 81 := by rw [hE.out, hr]; rfl
    clear hE hL hr hs
    have hb4 := hb2
    obtain ⟨w4, hw4⟩ : ∃ w4 : World, w4 = w2 := ⟨_, rfl⟩
    subst hw4
    go_wp2_with fail
    refine (sRefRight_any ao cap xs w4 (Hx.out.below hb4.out) Hf.out).mono ?_
    rintro e w5 ⟨rfl, hb5⟩
    have hb5 := Lib.hid (hb4.out.trans (hb5.mono hb4.out.size))
    cases hR : rightFrom 0 xs
    · go_wp2
      go_ret
      exact ⟨rfl, hb5.out⟩
    have Rx := Lib.hid hR
    clear hR
    go_wp2_with fail
    refine (sRefRight_any bo cap' ys w5 (Hy.out.below hb5.out) Hg.out).mono ?_
    rintro e w6 ⟨rfl, hb6⟩
    have hb6 := Lib.hid (hb5.out.trans (hb6.mono hb5.out.size))
    cases hR : rightFrom 0 ys
    · go_wp2
      go_ret
      exact ⟨rfl, hb6.out⟩
    have Ry := Lib.hid hR
    clear hR
    go_wp2_with fail
    refine (Diff_s ao bo cap cap' xs ys w6 (Hx.out.below hb6.out) Hf.out (Hy.out.below hb6.out) Hg.out).mono ?_
    rintro e w7 ⟨fo, fc, D, rfl, hD, hs7, hb7⟩
    have hb7 := Lib.hid (hb6.out.trans (hb7.mono hb6.out.size))
    have hDf := Lib.hid (show FitM D by rw [hD.out]; exact diffL_fit xs ys)
    have hDr := Lib.hid (show replayL xs D = some ys by rw [hD.out]; exact replay_diff Rx.out Ry.out)
    clear hD
    go_wp2_with fail
    refine (Replay_s ao fo cap fc xs D w7 (Hx.out.below hb7.out) Hf.out hs7.out hDf.out).mono ?_
    rintro e w8 ⟨go_, gc, T, G, rfl, hT, hG, ht8, hb8⟩
    obtain rfl : ys = T := by rw [hT.out, hDr.out]; rfl
    obtain rfl : G = 0 := by rw [hG.out, hDr.out]; rfl
    have hb8 := Lib.hid (hb7.out.trans (hb8.mono hb7.out.size))
    clear hT hG hDr hs7 hDf
    go_wp2_with fail
    refine (Diff_s bo ao cap' cap ys xs w8 (Hy.out.below hb8.out) Hg.out (Hx.out.below hb8.out) Hf.out).mono ?_
    rintro e w9 ⟨ho_, hc_, D2, rfl, hD, hs9, hb9⟩
    have ht9 := Lib.hid (ht8.out.below hb9)
    have hb9 := Lib.hid (hb8.out.trans (hb9.mono hb8.out.size))
    have hDf := Lib.hid (show FitM D2 by rw [hD.out]; exact diffL_fit ys xs)
    have hDr := Lib.hid (show replayL ys D2 = some xs by rw [hD.out]; exact replay_diff Ry.out Rx.out)
    clear hD ht8
    go_wp2_with fail
    refine (Replay_s go_ ho_ gc hc_ ys D2 w9 ht9.out Hg.out hs9.out hDf.out).mono ?_
    rintro e w10 ⟨io, ic, B, H, rfl, hB, hH, ht10, hb10⟩
    obtain rfl : xs = B := by rw [hB.out, hDr.out]; rfl
    obtain rfl : H = 0 := by rw [hH.out, hDr.out]; rfl
    have hb10 := Lib.hid (hb9.out.trans (hb10.mono hb9.out.size))
    clear hB hH hDr hs9 ht9 hDf
    go_wp2_with fail
    refine (Same_yes io ao ic cap xs w10 ht10.out (Hx.out.below hb10.out) Hf.out).mono ?_
    rintro e w11 ⟨rfl, hb11⟩
    have hb11 := Lib.hid (hb10.out.trans (hb11.mono hb10.out.size))
    go_wp2
    go_ret
    exact ⟨rfl, hb11.out⟩
  | some bs =>
    have h5 := (bytesM_some hr).2.2.2
    obtain rfl : L = bs := by rw [hL.out, hr]; rfl
    obtain rfl : E = 0 := by rw [hE.out, hr]; rfl
    have hrd := Lib.hid (read_bytes hr)
    have h5' := Lib.hid h5
    clear h5
    clear hE hL hr
    go_wp2_with fail
    refine (mRead_s co cc L w2 hs.out hl1 hl2).mono ?_
    rintro e w3 ⟨eo, ec, M, F, rfl, hM, hF, ht, hb3⟩
    obtain rfl : ms = M := by rw [hM.out, hrd.out]; rfl
    obtain rfl : F = 0 := by rw [hF.out, hrd.out]; rfl
    have hb3 := Lib.hid (hb2.out.trans (hb3.mono hb2.out.size))
    clear hM hF hrd
    go_wp2_with fail
    refine (SameM_yes eo mo ec cap'' ms w3 ht.out (Hm.out.below hb3.out) Hh.out).mono ?_
    rintro e w4 ⟨rfl, hb4⟩
    have hb4 := Lib.hid (hb3.out.trans (hb4.mono hb3.out.size))
    have hne : ((L.length : Int) != 5 * (ms.length : Int)) = false := by have := h5'.out; simp; omega
    go_wp2_with fail
    refine (sRefRight_any ao cap xs w4 (Hx.out.below hb4.out) Hf.out).mono ?_
    rintro e w5 ⟨rfl, hb5⟩
    have hb5 := Lib.hid (hb4.out.trans (hb5.mono hb4.out.size))
    cases hR : rightFrom 0 xs
    · go_wp2
      go_ret
      exact ⟨rfl, hb5.out⟩
    have Rx := Lib.hid hR
    clear hR
    go_wp2_with fail
    refine (sRefRight_any bo cap' ys w5 (Hy.out.below hb5.out) Hg.out).mono ?_
    rintro e w6 ⟨rfl, hb6⟩
    have hb6 := Lib.hid (hb5.out.trans (hb6.mono hb5.out.size))
    cases hR : rightFrom 0 ys
    · go_wp2
      go_ret
      exact ⟨rfl, hb6.out⟩
    have Ry := Lib.hid hR
    clear hR
    go_wp2_with fail
    refine (Diff_s ao bo cap cap' xs ys w6 (Hx.out.below hb6.out) Hf.out (Hy.out.below hb6.out) Hg.out).mono ?_
    rintro e w7 ⟨fo, fc, D, rfl, hD, hs7, hb7⟩
    have hb7 := Lib.hid (hb6.out.trans (hb7.mono hb6.out.size))
    have hDf := Lib.hid (show FitM D by rw [hD.out]; exact diffL_fit xs ys)
    have hDr := Lib.hid (show replayL xs D = some ys by rw [hD.out]; exact replay_diff Rx.out Ry.out)
    clear hD
    go_wp2_with fail
    refine (Replay_s ao fo cap fc xs D w7 (Hx.out.below hb7.out) Hf.out hs7.out hDf.out).mono ?_
    rintro e w8 ⟨go_, gc, T, G, rfl, hT, hG, ht8, hb8⟩
    obtain rfl : ys = T := by rw [hT.out, hDr.out]; rfl
    obtain rfl : G = 0 := by rw [hG.out, hDr.out]; rfl
    have hb8 := Lib.hid (hb7.out.trans (hb8.mono hb7.out.size))
    clear hT hG hDr hs7 hDf
    go_wp2_with fail
    refine (Diff_s bo ao cap' cap ys xs w8 (Hy.out.below hb8.out) Hg.out (Hx.out.below hb8.out) Hf.out).mono ?_
    rintro e w9 ⟨ho_, hc_, D2, rfl, hD, hs9, hb9⟩
    have ht9 := Lib.hid (ht8.out.below hb9)
    have hb9 := Lib.hid (hb8.out.trans (hb9.mono hb8.out.size))
    have hDf := Lib.hid (show FitM D2 by rw [hD.out]; exact diffL_fit ys xs)
    have hDr := Lib.hid (show replayL ys D2 = some xs by rw [hD.out]; exact replay_diff Ry.out Rx.out)
    clear hD ht8
    go_wp2_with fail
    refine (Replay_s go_ ho_ gc hc_ ys D2 w9 ht9.out Hg.out hs9.out hDf.out).mono ?_
    rintro e w10 ⟨io, ic, B, H, rfl, hB, hH, ht10, hb10⟩
    obtain rfl : xs = B := by rw [hB.out, hDr.out]; rfl
    obtain rfl : H = 0 := by rw [hH.out, hDr.out]; rfl
    have hb10 := Lib.hid (hb9.out.trans (hb10.mono hb9.out.size))
    clear hB hH hDr hs9 ht9 hDf
    go_wp2_with fail
    refine (Same_yes io ao ic cap xs w10 ht10.out (Hx.out.below hb10.out) Hf.out).mono ?_
    rintro e w11 ⟨rfl, hb11⟩
    have hb11 := Lib.hid (hb10.out.trans (hb11.mono hb10.out.size))
    go_wp2
    go_ret
    exact ⟨rfl, hb11.out⟩

theorem own : ownKnob Try.prog.godebug = none := by kernel_rfl
theorem laidOut : laidOutB Try.prog = true := by kernel_rfl

set_option maxRecDepth 100000 in
theorem lifted (os : Os) (started : os.Started) (H : Type) (enc : TypeId × Value → H) :
    ReturnsInHanded {} Try.checked os 9 .any (Rows.slogBackSpec.pre6 enc Try.prog Try.f9 Rows.slogBackRow.domain false) (Rows.slogBackSpec.post enc Try.prog Try.f9 false true false false) := by
  refine returnsInHanded_of_change_sized (C := Try.checked) own started (by kernel_rfl) Try.func9
    (ChangeSpec.witness6 (enc := enc) (C := Try.checked) false ⟨#[], #[.slice none 0 0, .slice none 0 0, .slice none 0 0], []⟩ 8 (by kernel_rfl) (by kernel_rfl) (by kernel_rfl) (by kernel_rfl)) ?_
  intro W base args ds gs before hval0 hW hcnd hsz0 _
  have hval : ∀ (j : Nat) t v, Try.f9.params[j]? = some t → args[j]? = some v → Value.okWide Try.prog W .any base t v := hval0
  have hsz : (DataW.weightsEach Try.prog (Try.f9.params.toList ++ Rows.slogBackSpec.plain.varTypes Try.prog) (ds ++ gs)).all (· ≤ reachBytes) = true := hsz0
  have hW' := hW
  obtain ⟨p, q, hA0, hV, rfl, hfz, hnd⟩ := hW
  have hA : DataW.TrodAll enc Try.prog W 0 (fun _ => true) true Try.f9.params.toList args.toList ds p := hA0
  rw [Try.params9] at hA hval hsz
  obtain ⟨v0, vs0, d0, ds0, p0, q0, hargs, rfl, rfl, h0, r0⟩ := trodAll_cons hA
  obtain ⟨v1, vs1, d1, ds1, p1, q1, rfl, rfl, rfl, h1, r1⟩ := trodAll_cons r0
  obtain ⟨v2, vs2, d2, ds2, p2, q2, rfl, rfl, rfl, h2, r2⟩ := trodAll_cons r1
  obtain ⟨rfl, rfl, rfl⟩ := trodAll_nil r2
  obtain rfl : args = #[v0, v1, v2] := by cases args; simp_all
  obtain ⟨rfl, rfl⟩ := trodVars_none hV
  have k0 := h0
  have lt0 : ∀ x ∈ p0, x.block < W.heap.size := by obtain ⟨m, hm⟩ := k0; exact DataW.trod_lt m _ _ _ hm
  obtain ⟨ao0, a0, cap0, rfl, sp0, fi0, nl0⟩ := arg_spans h0 (hval 0 22 v0 rfl rfl) (fun es sp e => sized_slice hsz (j := 0) (t := 22) (e := 53) rfl (by rw [e]; rfl) Try.underlying22)
  have k1 := h1
  have lt1 : ∀ x ∈ p1, x.block < W.heap.size := by obtain ⟨m, hm⟩ := k1; exact DataW.trod_lt m _ _ _ hm
  obtain ⟨ao1, a1, cap1, rfl, sp1, fi1, nl1⟩ := arg_spans h1 (hval 1 22 v1 rfl rfl) (fun es sp e => sized_slice hsz (j := 1) (t := 22) (e := 53) rfl (by rw [e]; rfl) Try.underlying22)
  have k2 := h2
  have lt2 : ∀ x ∈ p2, x.block < W.heap.size := by obtain ⟨m, hm⟩ := k2; exact DataW.trod_lt m _ _ _ hm
  obtain ⟨ao2, a2, cap2, rfl, sp2, fi2, nl2⟩ := arg_moves h2 (hval 2 27 v2 rfl rfl) (fun es sp e => sized_slice hsz (j := 2) (t := 27) (e := 55) rfl (by rw [e]; rfl) Try.underlying27)
  clear hA0 hval0 hsz0
  refine (walk ao0 a0 cap0 ao1 a1 cap1 ao2 a2 cap2 W sp0 fi0 nl0 sp1 fi1 nl1 sp2 fi2 nl2).mono fun e W' ⟨he, bel⟩ => ?_
  subst he
  exact ⟨_, rfl, _, _, _, [], _, [], hW', trodAll_mk1 (shut_bool Try.underlying4 _), (trodAll_cons_mk (Below.trod laidOut (by kernel_rfl) (of_decide_eq_true (by kernel_rfl)) k0 bel lt0) (trodAll_cons_mk (Below.trod laidOut (by kernel_rfl) (of_decide_eq_true (by kernel_rfl)) k1 bel lt1) (trodAll_cons_mk (Below.trod laidOut (by kernel_rfl) (of_decide_eq_true (by kernel_rfl)) k2 bel lt2) trodAll_mk0))), rfl, bel.frame _, fun h => by cases h⟩

theorem proved : Rows.SlogBackSaid :=
  OpenClaim.holds_of_wide 9 Try.f9 rfl rfl rfl rfl rfl rfl rfl ⟨rfl, rfl, rfl, rfl, rfl⟩ rfl rfl rfl rfl rfl (by kernel_rfl) Try.func9 (by kernel_rfl)
    (of_decide_eq_true (by kernel_rfl)) (by unfold Func.isWrapper; first | (rw [if_pos (by decide +kernel)]; kernel_rfl) | (rw [if_neg (by decide +kernel)]; exact ⟨rfl, rfl⟩))
    (fun os started H enc _ => lifted os started H enc)
end Go.Proofs.Ytlbglcmajbhflaa.lawSlogBack
