/- SlogParts, for every input: the law returns true and each argument reads behind the call as before. No condition. -/
import Derived.Test.YtlbglcmajbhflaaSlogP
namespace Go.Proofs.Ytlbglcmajbhflaa.lawSlogParts
open Go.ChangeShapes Go.WideShapes Go.ChangeAt Go.RowKit Go.Deep
set_option linter.unusedVariables false
set_option maxRecDepth 20000

theorem errM_none {α : Type} : errM (none : Option α) = 81 := rfl
set_option maxHeartbeats 4000000 in
theorem walk (ao : Option Addr) (xs : List (Int × Int)) (cap : Nat) (mo : Option Addr) (ms : List (Bool × Int × Int)) (cap' : Nat) (z : Int) (w : World) (hx : Spans w ao xs) (hf : Fits xs) (hn : ao = none → xs = [] ∧ cap = 0)
    (hm : Moves w mo ms) (hh : FitM ms) (hn' : (mo = none → ms = [] ∧ cap' = 0) ∧ ms.length ≤ cap' ∧ cap' ≤ 140737488351232) (hz : I64 z) :
    Calls Try.prog 8 #[.slice ao xs.length cap, .slice mo ms.length cap', .int .i64 z] w fun e w' => e = .returned (.bool true) ∧ Below w.heap.size w w' := by
  have Hx := Lib.hid hx
  have Hf := Lib.hid hf
  have Hm := Lib.hid hm
  have Hh := Lib.hid hh
  obtain ⟨_, hc1, hc2⟩ := hn'
  have hfl := hf.2
  have hhl := hh.2
  unfold I64 at hz
  clear hx hf hn hm hh
  go_enter Try.func8, Try.ntmps8
  go_wp2_with fail
  refine (slogAlive_any w).mono ?_
  rintro e w1 ⟨rfl, hb1⟩
  have hb1 := Lib.hid hb1
  go_wp2_with fail
  refine (sRefRight_any ao cap xs w1 (Hx.out.below hb1.out) Hf.out).mono ?_
  rintro e w2 ⟨rfl, hb2⟩
  have hb2 := Lib.hid (hb1.out.trans (hb2.mono hb1.out.size))
  cases hR : rightFrom 0 xs
  · go_wp2
    go_ret
    exact ⟨rfl, hb2.out⟩
  have Rx := Lib.hid hR
  clear hR
  by_cases hlen : 200 < ms.length
  · go_wp2
    go_ret
    exact ⟨rfl, hb2.out⟩
  have hlen : ms.length ≤ 200 := by omega
  by_cases hz0 : z < 0
  · go_wp2
    go_ret
    exact ⟨rfl, hb2.out⟩
  obtain ⟨p, rfl⟩ := Int.eq_ofNat_of_zero_le (show 0 ≤ z from by omega)
  clear hz0
  by_cases hz1 : ms.length < p
  · go_wp2
    go_ret
    exact ⟨rfl, hb2.out⟩
  have hp : p ≤ ms.length := by omega
  clear hz1
  have hms := Lib.hid (List.take_append_drop p ms)
  obtain ⟨ls, hls⟩ : ∃ ls : List (Bool × Int × Int), Hid (ms.take p = ls) := ⟨_, Lib.hid rfl⟩
  obtain ⟨rs, hrs⟩ : ∃ rs : List (Bool × Int × Int), Hid (ms.drop p = rs) := ⟨_, Lib.hid rfl⟩
  have hap := Lib.hid (show replayL xs ms = (replayL xs ls).bind (fun ys => replayL ys rs) by rw [← hls.out, ← hrs.out, ← replayL_append Rx.out, hms.out])
  have k1 : ∀ w, (Instr.slice 27 (.slice mo ms.length cap') none (some (.int .i64 (p : Int))) none).run Try.prog w = .ok (.slice mo ls.length cap') w := fun w => by
    rw [← hls.out, List.length_take, Nat.min_eq_left hp]; exact cut_moves_h mo ms.length cap' p (by omega) w
  have k2 : ∀ w, (Instr.slice 27 (.slice mo ms.length cap') (some (.int .i64 (p : Int))) none none).run Try.prog w = .ok (.slice (shiftM mo cap' p) rs.length (cap' - p)) w := fun w => by
    rw [← hrs.out, List.length_drop]; exact cut_moves_l mo ms.length cap' p hp w
  have hlm := Lib.hid (fun W (h : Moves W mo ms) => (show Moves W mo ls by rw [← hls.out]; exact h.take p))
  have hrm := Lib.hid (fun W (h : Moves W mo ms) => (show Moves W (shiftM mo cap' p) rs by rw [← hrs.out]; exact h.shift hc1))
  have hlf := Lib.hid (show FitM ls by rw [← hls.out]; exact Hh.out.take p)
  have hrf := Lib.hid (show FitM rs by rw [← hrs.out]; exact Hh.out.drop p)
  generalize shiftM mo cap' p = no at *
  generalize cap' - p = nc at *
  clear hms hls hrs
  go_wp2_with fail
  refine (Replay_s ao mo cap cap' xs ms w2 (Hx.out.below hb2.out) Hf.out (Hm.out.below hb2.out) Hh.out).mono ?_
  rintro e w3 ⟨co, cc, L, E, rfl, hL, hE, hs, hb3⟩
  have hb3 := Lib.hid (hb2.out.trans (hb3.mono hb2.out.size))
  go_wp2_with fail
  refine (Replay_s ao mo cap cap' xs ls w3 (Hx.out.below hb3.out) Hf.out (hlm.out _ (Hm.out.below hb3.out)) hlf.out).mono ?_
  rintro e w4 ⟨do_, dc, K, F, rfl, hK, hF, ht, hb4⟩
  have hs := Lib.hid (hs.out.below hb4)
  have hb4 := Lib.hid (hb3.out.trans (hb4.mono hb3.out.size))
  cases hr : replayL xs ls with
  | none =>
    have hno : replayL xs ms = none := by rw [hap.out, hr]; rfl
    obtain rfl : F = 81 := by rw [hF.out, hr]; rfl
    obtain rfl : L = [] := by rw [hL.out, hno]; rfl
    obtain rfl : E = 81 := by rw [hE.out, hno]; rfl
    clear hF hL hE hK hr hno hap hs
    go_wp2
    go_ret
    exact ⟨rfl, hb4.out⟩
  | some ks =>
    obtain rfl : K = ks := by rw [hK.out, hr]; rfl
    obtain rfl : F = 0 := by rw [hF.out, hr]; rfl
    have hKf := Lib.hid (right_fits (replayL_set hr))
    have hsame := Lib.hid (show replayL xs ms = replayL K rs by rw [hap.out, hr]; rfl)
    clear hK hF hr hap
    go_wp2_with fail
    refine (Replay_s do_ no dc nc K rs w4 ht.out hKf.out (hrm.out _ (Hm.out.below hb4.out)) hrf.out).mono ?_
    rintro e w5 ⟨eo, ec, L', E', rfl, hL', hE', hs', hb5⟩
    obtain rfl : L' = L := by rw [hL'.out, hL.out, hsame.out]
    obtain rfl : E' = E := by rw [hE'.out, hE.out, hsame.out]
    have hs := Lib.hid (hs.out.below hb5)
    have hb5 := Lib.hid (hb4.out.trans (hb5.mono hb4.out.size))
    have hLf := Lib.hid (show Fits L' by rw [hL.out]; exact replayL_fit xs ms)
    clear hL hE hL' hE' hsame ht
    go_wp2_with fail
    refine (Same_yes co eo cc ec L' w5 hs.out hs'.out hLf.out).mono ?_
    rintro e w6 ⟨rfl, hb6⟩
    have hb6 := Lib.hid (hb5.out.trans (hb6.mono hb5.out.size))
    go_wp2
    go_ret
    exact ⟨rfl, hb6.out⟩

theorem own : ownKnob Try.prog.godebug = none := by kernel_rfl
theorem laidOut : laidOutB Try.prog = true := by kernel_rfl

set_option maxRecDepth 100000 in
theorem lifted (os : Os) (started : os.Started) (H : Type) (enc : TypeId × Value → H) :
    ReturnsInHanded {} Try.checked os 8 .any (Rows.slogPartsSpec.pre6 enc Try.prog Try.f8 Rows.slogPartsRow.domain false) (Rows.slogPartsSpec.post enc Try.prog Try.f8 false true false false) := by
  refine returnsInHanded_of_change_sized (C := Try.checked) own started (by kernel_rfl) Try.func8
    (ChangeSpec.witness6 (enc := enc) (C := Try.checked) false ⟨#[], #[.slice none 0 0, .slice none 0 0, .int .i64 0], []⟩ 8 (by kernel_rfl) (by kernel_rfl) (by kernel_rfl) (by kernel_rfl)) ?_
  intro W base args ds gs before hval0 hW hcnd hsz0 _
  have hval : ∀ (j : Nat) t v, Try.f8.params[j]? = some t → args[j]? = some v → Value.okWide Try.prog W .any base t v := hval0
  have hsz : (DataW.weightsEach Try.prog (Try.f8.params.toList ++ Rows.slogPartsSpec.plain.varTypes Try.prog) (ds ++ gs)).all (· ≤ reachBytes) = true := hsz0
  have hW' := hW
  obtain ⟨p, q, hA0, hV, rfl, hfz, hnd⟩ := hW
  have hA : DataW.TrodAll enc Try.prog W 0 (fun _ => true) true Try.f8.params.toList args.toList ds p := hA0
  rw [Try.params8] at hA hval hsz
  obtain ⟨v0, vs0, d0, ds0, p0, q0, hargs, rfl, rfl, h0, r0⟩ := trodAll_cons hA
  obtain ⟨v1, vs1, d1, ds1, p1, q1, rfl, rfl, rfl, h1, r1⟩ := trodAll_cons r0
  obtain ⟨v2, vs2, d2, ds2, p2, q2, rfl, rfl, rfl, h2, r2⟩ := trodAll_cons r1
  obtain ⟨rfl, rfl, rfl⟩ := trodAll_nil r2
  obtain rfl : args = #[v0, v1, v2] := by cases args; simp_all
  obtain ⟨rfl, rfl⟩ := trodVars_none hV
  have k0 := h0
  have lt0 : ∀ x ∈ p0, x.block < W.heap.size := by obtain ⟨m, hm⟩ := k0; exact DataW.trod_lt m _ _ _ hm
  obtain ⟨ao0, a0, cap0, rfl, sp0, fi0, nl0⟩ := arg_spans h0 (hval 0 22 v0 rfl rfl) (fun es sp e => sized_slice hsz (j := 0) (t := 22) (e := 53) rfl (by rw [e]; rfl) Try.underlying22)
  have k1 := h1
  have lt1 : ∀ x ∈ p1, x.block < W.heap.size := by obtain ⟨m, hm⟩ := k1; exact DataW.trod_lt m _ _ _ hm
  obtain ⟨ao1, a1, cap1, rfl, sp1, fi1, nl1⟩ := arg_moves h1 (hval 1 27 v1 rfl rfl) (fun es sp e => sized_slice hsz (j := 1) (t := 27) (e := 55) rfl (by rw [e]; rfl) Try.underlying27)
  obtain ⟨a2, rfl, rfl, rfl, wf2⟩ := open_int Try.underlying3 (hval 2 3 v2 rfl rfl) h2
  clear hA0 hval0 hsz0
  refine (walk ao0 a0 cap0 ao1 a1 cap1 a2 W sp0 fi0 nl0 sp1 fi1 nl1 (wf_i64 wf2)).mono fun e W' ⟨he, bel⟩ => ?_
  subst he
  exact ⟨_, rfl, _, _, _, [], _, [], hW', trodAll_mk1 (shut_bool Try.underlying4 _), (trodAll_cons_mk (Below.trod laidOut (by kernel_rfl) (of_decide_eq_true (by kernel_rfl)) k0 bel lt0) (trodAll_cons_mk (Below.trod laidOut (by kernel_rfl) (of_decide_eq_true (by kernel_rfl)) k1 bel lt1) (trodAll_cons_mk (shut_int Try.underlying3 wf2) trodAll_mk0))), rfl, bel.frame _, fun h => by cases h⟩

theorem proved : Rows.SlogPartsSaid :=
  OpenClaim.holds_of_wide 8 Try.f8 rfl rfl rfl rfl rfl rfl rfl ⟨rfl, rfl, rfl, rfl, rfl⟩ rfl rfl rfl rfl rfl (by kernel_rfl) Try.func8 (by kernel_rfl)
    (of_decide_eq_true (by kernel_rfl)) (by unfold Func.isWrapper; first | (rw [if_pos (by decide +kernel)]; kernel_rfl) | (rw [if_neg (by decide +kernel)]; exact ⟨rfl, rfl⟩))
    (fun os started H enc _ => lifted os started H enc)
end Go.Proofs.Ytlbglcmajbhflaa.lawSlogParts
