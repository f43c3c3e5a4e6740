/- SlogReplays, for every input: the law returns true and each argument reads behind the call as before. No condition. -/
import Derived.Test.YtlbglcmajbhflaaSlogP
namespace Go.Proofs.Ytlbglcmajbhflaa.lawSlogReplays
open Go.ChangeShapes Go.WideShapes Go.ChangeAt Go.RowKit Go.Deep
set_option linter.unusedVariables false
set_option maxRecDepth 20000

set_option maxHeartbeats 4000000 in
theorem walk (ao : Option Addr) (xs : List (Int × Int)) (cap : Nat) (bo : Option Addr) (ms : List (Bool × Int × Int)) (cap' : Nat) (w : World) (hx : Spans w ao xs) (hf : Fits xs) (hn : ao = none → xs = [] ∧ cap = 0)
    (hy : Moves w bo ms) (hg : FitM ms) (hn' : (bo = none → ms = [] ∧ cap' = 0) ∧ ms.length ≤ cap' ∧ cap' ≤ 140737488351232) :
    Calls Try.prog 4 #[.slice ao xs.length cap, .slice bo ms.length cap'] w fun e w' => e = .returned (.bool true) ∧ Below w.heap.size w w' := by
  have Hx := Lib.hid hx
  have Hf := Lib.hid hf
  have Hn := Lib.hid hn
  have Hy := Lib.hid hy
  have Hg := Lib.hid hg
  have Hn' := Lib.hid hn'.1
  have hfl := hf.2
  have hgl := hg.2
  clear hx hf hn hy hg hn'
  go_enter Try.func4, Try.ntmps4
  go_wp2_with fail
  refine (slogAlive_any w).mono ?_
  rintro e w1 ⟨rfl, hb1⟩
  have hb1 := Lib.hid hb1
  by_cases hlen : 200 < ms.length
  · go_wp2
    go_ret
    exact ⟨rfl, hb1.out⟩
  have hlen : ms.length ≤ 200 := by omega
  go_wp2_with (first
    | (at_builtin; refine copy_spans rfl (.tmp 15) (.tmp 16) rfl w1 rfl ao cap xs rfl Hn.out (Hx.out.below hb1.out) Hf.out ?_; intro co cc w2 hs2 hb2; have hs2 := Lib.hid hs2; have hb2 := Lib.hid (hb1.out.trans (hb2.mono hb1.out.size)))
    | (at_builtin; refine copy_moves rfl (.tmp 20) (.tmp 21) rfl w2 rfl bo cap' ms rfl Hn'.out (Hy.out.below hb2.out) Hg.out ?_; intro mo mc w3 hs3 hb3; have hs4 := Lib.hid (hs2.out.below hb3); have hs3 := Lib.hid hs3; have hb3 := Lib.hid (hb2.out.trans (hb3.mono hb2.out.size))))
  refine (Replay_s co mo cc mc xs ms w3 hs4.out Hf.out hs3.out Hg.out).mono ?_
  rintro e w5 ⟨eo, ec, L, E, rfl, hL, hE, hs5, hb5⟩
  have hs6 := Lib.hid (hs4.out.below hb5)
  have hb5 := Lib.hid (hb3.out.trans (hb5.mono hb3.out.size))
  go_wp2_with fail
  refine (refReplay_s ao bo cap cap' xs ms w5 (Hx.out.below hb5.out) Hf.out (Hy.out.below hb5.out) Hg.out).mono ?_
  rintro e w7 ⟨fo, fc, L', E', rfl, hL', hE', hs7, hb7⟩
  obtain rfl : L' = L := by rw [hL'.out, hL.out]
  obtain rfl : E' = E := by rw [hE'.out, hE.out]
  have hs8 := Lib.hid (hs6.out.below hb7)
  have hs5 := Lib.hid (hs5.out.below hb7)
  have hb7 := Lib.hid (hb5.out.trans (hb7.mono hb5.out.size))
  have hLf := Lib.hid (show Fits L' by rw [hL'.out]; exact replayL_fit xs ms)
  clear hL hE hL' hE'
  go_wp2_with fail
  refine (Same_yes eo fo ec fc L' w7 hs5.out hs7.out hLf.out).mono ?_
  rintro e w8 ⟨rfl, hb8⟩
  have hs9 := Lib.hid (hs8.out.below hb8)
  have hb8 := Lib.hid (hb7.out.trans (hb8.mono hb7.out.size))
  go_wp2_with fail
  refine (Same_yes co ao cc cap xs w8 hs9.out (Hx.out.below hb8.out) Hf.out).mono ?_
  rintro e w9 ⟨rfl, hb9⟩
  have hb9 := Lib.hid (hb8.out.trans (hb9.mono hb8.out.size))
  go_wp2
  go_ret
  exact ⟨rfl, hb9.out⟩

theorem own : ownKnob Try.prog.godebug = none := by kernel_rfl
theorem laidOut : laidOutB Try.prog = true := by kernel_rfl

set_option maxRecDepth 100000 in
theorem lifted (os : Os) (started : os.Started) (H : Type) (enc : TypeId × Value → H) :
    ReturnsInHanded {} Try.checked os 4 .any (Rows.slogReplaysSpec.pre6 enc Try.prog Try.f4 Rows.slogReplaysRow.domain false) (Rows.slogReplaysSpec.post enc Try.prog Try.f4 false true false false) := by
  refine returnsInHanded_of_change_sized (C := Try.checked) own started (by kernel_rfl) Try.func4
    (ChangeSpec.witness6 (enc := enc) (C := Try.checked) false ⟨#[], #[.slice none 0 0, .slice none 0 0], []⟩ 8 (by kernel_rfl) (by kernel_rfl) (by kernel_rfl) (by kernel_rfl)) ?_
  intro W base args ds gs before hval0 hW hcnd hsz0 _
  have hval : ∀ (j : Nat) t v, Try.f4.params[j]? = some t → args[j]? = some v → Value.okWide Try.prog W .any base t v := hval0
  have hsz : (DataW.weightsEach Try.prog (Try.f4.params.toList ++ Rows.slogReplaysSpec.plain.varTypes Try.prog) (ds ++ gs)).all (· ≤ reachBytes) = true := hsz0
  have hW' := hW
  obtain ⟨p, q, hA0, hV, rfl, hfz, hnd⟩ := hW
  have hA : DataW.TrodAll enc Try.prog W 0 (fun _ => true) true Try.f4.params.toList args.toList ds p := hA0
  rw [Try.params4] at hA hval hsz
  obtain ⟨v0, vs0, d0, ds0, p0, q0, hargs, rfl, rfl, h0, r0⟩ := trodAll_cons hA
  obtain ⟨v1, vs1, d1, ds1, p1, q1, rfl, rfl, rfl, h1, r1⟩ := trodAll_cons r0
  obtain ⟨rfl, rfl, rfl⟩ := trodAll_nil r1
  obtain rfl : args = #[v0, v1] := by cases args; simp_all
  obtain ⟨rfl, rfl⟩ := trodVars_none hV
  have k0 := h0
  have lt0 : ∀ x ∈ p0, x.block < W.heap.size := by obtain ⟨m, hm⟩ := k0; exact DataW.trod_lt m _ _ _ hm
  obtain ⟨ao0, a0, cap0, rfl, sp0, fi0, nl0⟩ := arg_spans h0 (hval 0 22 v0 rfl rfl) (fun es sp e => sized_slice hsz (j := 0) (t := 22) (e := 53) rfl (by rw [e]; rfl) Try.underlying22)
  have k1 := h1
  have lt1 : ∀ x ∈ p1, x.block < W.heap.size := by obtain ⟨m, hm⟩ := k1; exact DataW.trod_lt m _ _ _ hm
  obtain ⟨ao1, a1, cap1, rfl, sp1, fi1, nl1⟩ := arg_moves h1 (hval 1 27 v1 rfl rfl) (fun es sp e => sized_slice hsz (j := 1) (t := 27) (e := 55) rfl (by rw [e]; rfl) Try.underlying27)
  clear hA0 hval0 hsz0
  refine (walk ao0 a0 cap0 ao1 a1 cap1 W sp0 fi0 nl0 sp1 fi1 nl1).mono fun e W' ⟨he, bel⟩ => ?_
  subst he
  exact ⟨_, rfl, _, _, _, [], _, [], hW', trodAll_mk1 (shut_bool Try.underlying4 _), (trodAll_cons_mk (Below.trod laidOut (by kernel_rfl) (of_decide_eq_true (by kernel_rfl)) k0 bel lt0) (trodAll_cons_mk (Below.trod laidOut (by kernel_rfl) (of_decide_eq_true (by kernel_rfl)) k1 bel lt1) trodAll_mk0)), rfl, bel.frame _, fun h => by cases h⟩

theorem proved : Rows.SlogReplaysSaid :=
  OpenClaim.holds_of_wide 4 Try.f4 rfl rfl rfl rfl rfl rfl rfl ⟨rfl, rfl, rfl, rfl, rfl⟩ rfl rfl rfl rfl rfl (by kernel_rfl) Try.func4 (by kernel_rfl)
    (of_decide_eq_true (by kernel_rfl)) (by unfold Func.isWrapper; first | (rw [if_pos (by decide +kernel)]; kernel_rfl) | (rw [if_neg (by decide +kernel)]; exact ⟨rfl, rfl⟩))
    (fun os started H enc _ => lifted os started H enc)
end Go.Proofs.Ytlbglcmajbhflaa.lawSlogReplays
