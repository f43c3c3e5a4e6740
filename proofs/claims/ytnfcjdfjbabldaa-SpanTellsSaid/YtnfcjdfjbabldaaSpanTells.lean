/- SpanTells, for every input: the law returns true and each argument reads behind the call as before. No condition. -/
import Derived.Test.YtnfcjdfjbabldaaSpanR
namespace Go.Proofs.Ytnfcjdfjbabldaa.lawSpanTells
open Go.ChangeShapes Go.WideShapes Go.ChangeAt Go.RowKit Go.Deep
set_option linter.unusedVariables false

theorem count_eq (f : Nat → Bool) : ((upTo f 4096).length : Int) = ((numsL f 4096).length : Int) := by rw [← upTo_nums, List.length_map]

set_option maxHeartbeats 2000000 in
set_option maxRecDepth 20000 in
theorem walk (ao : Option Addr) (xs : List (Int × Int)) (cap : Nat) (n m : Int) (w : World) (hx : Spans w ao xs) (hf : Fits xs) (hn : ao = none → xs = [] ∧ cap = 0) (h1 : I64 n) (h2 : I64 m) :
    Calls Try.prog 5 #[.slice ao xs.length cap, .int .i64 n, .int .i64 m] w fun e w' => e = .returned (.bool true) ∧ Below w.heap.size w w' := by
  obtain ⟨n1, n2⟩ := h1
  obtain ⟨m1, m2⟩ := h2
  have hx := Lib.hid hx
  have hf := Lib.hid hf
  clear hn
  go_enter Try.func5, Try.ntmps5
  go_wp2_with fail
  refine (alive_any w).mono ?_
  rintro e w1 ⟨rfl, hb1⟩
  have hb1 := Lib.hid hb1
  go_wp2_with fail
  refine (refRight_any ao cap xs w1 (hx.out.below hb1.out) hf.out).mono ?_
  rintro e w2 ⟨rfl, hb2⟩
  have hb2 := Lib.hid (hb1.out.trans (hb2.mono hb1.out.size))
  cases hR : rightFrom 0 xs
  · go_wp2
    go_ret
    exact ⟨rfl, hb2.out⟩
  · have hgd := Lib.hid (right_good hR)
    have hR := Lib.hid hR
    go_wp2_with fail
    refine (refList_any ao cap xs w2 (hx.out.below hb2.out) hf.out hgd.out).mono ?_
    rintro e w3 ⟨v3, rfl, ho3, hb3⟩
    obtain ⟨co, cc, rfl, hs3⟩ := ho3.nums
    have hb3 := Lib.hid (hb2.out.trans (hb3.mono hb2.out.size))
    clear ho3
    obtain ⟨N, hN⟩ : ∃ N, N = numsL (maskS xs) 4096 := ⟨_, rfl⟩
    rw [← hN] at hs3 ⊢
    have hfN : Hid (FitsI N) := Lib.hid (hN ▸ numsL_map _ _ (Nat.le_refl _))
    have HN := Lib.hid hN
    clear hN
    have hs3 := Lib.hid hs3
    go_wp2_with fail
    refine (First_any ao cap xs m w3 (hx.out.below hb3.out) hf.out m1 m2).mono ?_
    rintro e w4 ⟨he, hb4⟩
    have hs4 := Lib.hid (hs3.out.below hb4)
    have hb4 := Lib.hid (hb3.out.trans (hb4.mono hb3.out.size))
    have hsz4 := hb4.out.size
    have hF : ∃ p q b, e = .returned (.tuple #[.agg #[.int .i64 p, .int .i64 q], .bool b]) ∧ FirstSays (firstL xs m) = FirstSays (firstL xs m) ∧ ∀ (w0 : World) e' w', FirstSays (firstL xs m) w0 e' w' → e' = .returned (.tuple #[.agg #[.int .i64 p, .int .i64 q], .bool b]) ∧ Below w0.heap.size w0 w' := by
      cases hq : firstL xs m with
      | none => rw [hq] at he; exact ⟨0, 0, false, he, rfl, fun w0 e' w' h => h⟩
      | some r => rw [hq] at he; exact ⟨r.1, r.2, true, he, rfl, fun w0 e' w' h => h⟩
    obtain ⟨p, q, b, rfl, _, hF⟩ := hF
    have hF := Lib.hid hF
    clear he
    have hb5 := Lib.hid (hb4.out.alloc hsz4 (.cells #[.int .i64 p, .int .i64 q] 34))
    have ht5 := Lib.hid (Two.new w4 34 p q)
    have hs5 := Lib.hid (hs4.out.below ((Below.refl _ w4).alloc (Nat.le_refl _) (.cells #[.int .i64 p, .int .i64 q] 34)))
    go_wp2_with fail
    refine (refFirst_any ao cap xs m _ (hx.out.below hb5.out) hf.out m1 m2).mono ?_
    intro e w6 he
    obtain ⟨rfl, hb6⟩ := hF.out _ _ _ he
    clear he
    have hs6 := Lib.hid (hs5.out.below hb6)
    have ht6 := Lib.hid (ht5.out.below hb6)
    have hb6 := Lib.hid (hb5.out.trans (hb6.mono (by simp; omega)))
    have hsz6 := hb6.out.size
    have hst : Below w6.heap.size w6 (w6.alloc (.cells #[.int .i64 p, .int .i64 q] 34)) := (Below.refl _ w6).alloc (Nat.le_refl _) _
    have hs7 := Lib.hid (hs6.out.below hst)
    have ht7 := Lib.hid (ht6.out.below hst)
    have hb7 := Lib.hid (hb6.out.trans (hst.mono hsz6))
    have hu7 := Lib.hid (Two.new w6 34 p q)
    have hst := Lib.hid hst
    have hsz7 := hb7.out.size
    go_wp2_with fail
    refine (Has_any ao cap xs n _ (hx.out.below hb7.out) hf.out hR.out).mono ?_
    rintro e w8 ⟨rfl, hb8⟩
    have hs8 := Lib.hid (hs7.out.below hb8)
    have ht8 := Lib.hid (ht7.out.below hb8)
    have hu8 := Lib.hid (hu7.out.below hb8)
    have hb8 := Lib.hid (hb7.out.trans (hb8.mono hsz7))
    have hsz8 := hb8.out.size
    cases hH : hasL xs n
    all_goals
      have hH := Lib.hid hH
      go_wp2_with fail
      refine (refHas_any ao cap xs n w8 (hx.out.below hb8.out) hf.out hgd.out n1 n2).mono ?_
      rintro e w9 ⟨rfl, hb9⟩
      rw [hH.out]
      have hs9 := Lib.hid (hs8.out.below hb9)
      have ht9 := Lib.hid (ht8.out.below hb9)
      have hu9 := Lib.hid (hu8.out.below hb9)
      have hb9 := Lib.hid (hb8.out.trans (hb9.mono hsz8))
      have hsz9 := hb9.out.size
      go_wp2_with fail
      refine (Count_any ao cap xs w9 (hx.out.below hb9.out) hf.out hR.out).mono ?_
      rintro e w10 ⟨rfl, hb10⟩
      rw [count_eq, ← HN.out]
      have hs10 := Lib.hid (hs9.out.below hb10)
      have ht10 := Lib.hid (ht9.out.below hb10)
      have hu10 := Lib.hid (hu9.out.below hb10)
      have hb10 := Lib.hid (hb9.out.trans (hb10.mono hsz9))
      have hsz10 := hb10.out.size
      go_wp2_with fail
      refine (List_any ao cap xs w10 (hx.out.below hb10.out) hf.out hR.out).mono ?_
      rintro e w11 ⟨v11, rfl, ho11, hb11⟩
      rw [← HN.out] at ho11
      obtain ⟨co', cc', rfl, hl11⟩ := ho11.nums
      have hl11 := Lib.hid hl11
      clear ho11
      have hs11 := Lib.hid (hs10.out.below hb11)
      have ht11 := Lib.hid (ht10.out.below hb11)
      have hu11 := Lib.hid (hu10.out.below hb11)
      have hb11 := Lib.hid (hb10.out.trans (hb11.mono hsz10))
      have hsz11 := hb11.out.size
      go_wp2_with fail
      refine (SameInts_any co' co cc' cc N N w11 hl11.out hs11.out hfN.out hfN.out).mono ?_
      rintro e w12 ⟨rfl, hb12⟩
      rw [decide_eq_true rfl]
      have ht12 := ht11.out.below hb12
      have hu12 := hu11.out.below hb12
      have q1 := ht12.c0
      have q2 := ht12.c1
      have q3 := hu12.c0
      have q4 := hu12.c1
      clear ht12 hu12
      have hb12 := Lib.hid (hb11.out.trans (hb12.mono hsz11))
      go_wp2
      go_ret
      exact ⟨rfl, hb12.out⟩

theorem own : ownKnob Try.prog.godebug = none := by kernel_rfl
theorem laidOut : laidOutB Try.prog = true := by kernel_rfl

set_option maxRecDepth 100000 in
theorem lifted (os : Os) (started : os.Started) (H : Type) (enc : TypeId × Value → H) :
    ReturnsInHanded {} Try.checked os 5 .any (Rows.spanTellsSpec.pre6 enc Try.prog Try.f5 Rows.spanTellsRow.domain false) (Rows.spanTellsSpec.post enc Try.prog Try.f5 false true false false) := by
  refine returnsInHanded_of_change_sized (C := Try.checked) own started (by kernel_rfl) Try.func5
    (ChangeSpec.witness6 (enc := enc) (C := Try.checked) false ⟨#[], #[.slice none 0 0, .int .i64 0, .int .i64 0], []⟩ 8 (by kernel_rfl) (by kernel_rfl) (by kernel_rfl) (by kernel_rfl)) ?_
  intro W base args ds gs before hval0 hW hcnd hsz0 _
  have hval : ∀ (j : Nat) t v, Try.f5.params[j]? = some t → args[j]? = some v → Value.okWide Try.prog W .any base t v := hval0
  have hsz : (DataW.weightsEach Try.prog (Try.f5.params.toList ++ Rows.spanTellsSpec.plain.varTypes Try.prog) (ds ++ gs)).all (· ≤ reachBytes) = true := hsz0
  have hW' := hW
  obtain ⟨p, q, hA0, hV, rfl, hfz, hnd⟩ := hW
  have hA : DataW.TrodAll enc Try.prog W 0 (fun _ => true) true Try.f5.params.toList args.toList ds p := hA0
  rw [Try.params5] at hA hval hsz
  obtain ⟨v0, vs0, d0, ds0, p0, q0, hargs, rfl, rfl, h0, r0⟩ := trodAll_cons hA
  obtain ⟨v1, vs1, d1, ds1, p1, q1, rfl, rfl, rfl, h1, r1⟩ := trodAll_cons r0
  obtain ⟨v2, vs2, d2, ds2, p2, q2, rfl, rfl, rfl, h2, r2⟩ := trodAll_cons r1
  obtain ⟨rfl, rfl, rfl⟩ := trodAll_nil r2
  obtain rfl : args = #[v0, v1, v2] := by cases args; simp_all
  obtain ⟨rfl, rfl⟩ := trodVars_none hV
  have k0 := h0
  have lt0 : ∀ x ∈ p0, x.block < W.heap.size := by obtain ⟨m, hm⟩ := k0; exact DataW.trod_lt m _ _ _ hm
  obtain ⟨ao0, a0, cap0, rfl, sp0, fi0, nl0⟩ := arg_spans h0 (hval 0 27 v0 rfl rfl) (fun es sp e => sized_slice hsz (j := 0) (t := 27) (e := 34) rfl (by rw [e]; rfl) Try.underlying27)
  obtain ⟨a1, rfl, rfl, rfl, wf1⟩ := open_int Try.underlying3 (hval 1 3 v1 rfl rfl) h1
  obtain ⟨a2, rfl, rfl, rfl, wf2⟩ := open_int Try.underlying3 (hval 2 3 v2 rfl rfl) h2
  clear hA0 hval0 hsz0
  refine (walk ao0 a0 cap0 a1 a2 W sp0 fi0 nl0 (wf_i64 wf1) (wf_i64 wf2)).mono fun e W' ⟨he, bel⟩ => ?_
  subst he
  exact ⟨_, rfl, _, _, _, [], _, [], hW', trodAll_mk1 (shut_bool Try.underlying4 _), (trodAll_cons_mk (Below.trod laidOut (by kernel_rfl) (of_decide_eq_true (by kernel_rfl)) k0 bel lt0) (trodAll_cons_mk (shut_int Try.underlying3 wf1) (trodAll_cons_mk (shut_int Try.underlying3 wf2) trodAll_mk0))), rfl, bel.frame _, fun h => by cases h⟩

theorem proved : Rows.SpanTellsSaid :=
  OpenClaim.holds_of_wide 5 Try.f5 rfl rfl rfl rfl rfl rfl rfl ⟨rfl, rfl, rfl, rfl, rfl⟩ rfl rfl rfl rfl rfl (by kernel_rfl) Try.func5 (by kernel_rfl)
    (of_decide_eq_true (by kernel_rfl)) (by unfold Func.isWrapper; first | (rw [if_pos (by decide +kernel)]; kernel_rfl) | (rw [if_neg (by decide +kernel)]; exact ⟨rfl, rfl⟩))
    (fun os started H enc _ => lifted os started H enc)
end Go.Proofs.Ytnfcjdfjbabldaa.lawSpanTells
