/- SpanRights, for every input: the law returns true and each argument reads behind the call as before. No condition. -/
import Derived.Test.YtnfcjdfjbabldaaSpanR
namespace Go.Proofs.Ytnfcjdfjbabldaa.lawSpanRights
open Go.ChangeShapes Go.WideShapes Go.ChangeAt Go.RowKit Go.Deep
set_option linter.unusedVariables false

set_option maxHeartbeats 1000000 in
set_option maxRecDepth 20000 in
theorem walk (ao : Option Addr) (xs : List (Int × Int)) (cap : Nat) (bo : Option Addr) (zs : List Int) (cap' : Nat) (w : World) (hx : Spans w ao xs) (hf : Fits xs) (hn : ao = none → xs = [] ∧ cap = 0)
    (hz : Nums w bo zs) (hg : FitsI zs) (hn' : bo = none → zs = [] ∧ cap' = 0) :
    Calls Try.prog 4 #[.slice ao xs.length cap, .slice bo zs.length cap'] w fun e w' => e = .returned (.bool true) ∧ Below w.heap.size w w' := by
  have hl := hg.2
  have hx := Lib.hid hx
  have hf := Lib.hid hf
  have hz := Lib.hid hz
  have hg := Lib.hid hg
  have hn' := Lib.hid hn'
  clear hn
  obtain ⟨i0, hi, hz0, hz1, hz2⟩ := info_parts infoInt
  have hb0 := Lib.hid ((Below.refl w.heap.size w).alloc (Nat.le_refl _) (.cells #[] 3))
  have hown0 : Hid ((w.alloc (.cells #[] 3)).ownsRow w.heap.size 3 1 (.slice (some ⟨w.heap.size, 0, none⟩) 0 0) 0 []) := Lib.hid (World.ownsRow_made w #[] 0 (Nat.le_refl _) (by decide) rfl)
  have hsrc : Hid (∀ ad, bo = some ad → ∀ j u, (zs.map (Value.int .i64))[j]? = some u → (w.alloc (.cells #[] 3)).cell? (ad.add j) = some u) := Lib.hid (by
    intro ad e j u hu
    by_cases hj : j < zs.length
    · obtain ⟨b, off, e', c⟩ := (hz.out.below hb0.out) j hj
      rw [e] at e'; cases e'
      rw [Go.WideShapes.add_plain, c]
      simp [hj] at hu
      rw [hu]
    · rw [List.getElem?_eq_none (by simp; omega)] at hu; cases hu)
  go_enter Try.func4, Try.ntmps4
  go_wp2_with (at_builtin; go_loud (refine wpList_append_src rfl _ _ 25 rfl w.heap.size 3 i0 (.int .i64 0) 1 8 Try.underlying25 hi hz0 hz1 hz2 rfl (by decide) (.slice (some ⟨w.heap.size, 0, none⟩) 0 0) 0 [] _ rfl hown0.out bo zs.length cap' (zs.map (.int .i64)) rfl (fun h => by have := hn'.out h; simp [this]) (by simp) hsrc.out (by intro u hu; simp at hu; obtain ⟨z, _, rfl⟩ := hu; rfl) (by omega) (by omega) (by simp) ?_); intro v' w1 ho1 hg1; clear hown0 hsrc; have ho1 : OwnI w1 w.heap.size v' zs := (by simpa [OwnI] using ho1); obtain ⟨co, cc, rfl, hs1, _⟩ := ho1.shape; have hs1 := Lib.hid hs1; clear ho1; have hb1 : Hid (Below w.heap.size w w1) := Lib.hid (hb0.out.grown hg1 (by simp) (fun k e => by simp [Value.ownBlock] at e; omega)); clear hg1)
  have hsz1 := hb1.out.size
  go_wp2_with fail
  refine (alive_any w1).mono ?_
  rintro e w2 ⟨rfl, hb2⟩
  have hs2 := Lib.hid (hs1.out.below hb2)
  have hb2 := Lib.hid (hb1.out.trans (hb2.mono hsz1))
  go_wp2_with fail
  refine (Right_any ao cap xs w2 (hx.out.below hb2.out) hf.out).mono ?_
  rintro e w3 ⟨rfl, hb3⟩
  have hs3 := Lib.hid (hs2.out.below hb3)
  have hb3 := Lib.hid (hb2.out.trans (hb3.mono hb2.out.size))
  cases hR : rightFrom 0 xs
  all_goals
    have hR := Lib.hid hR
    go_wp2_with fail
    refine (refRight_any ao cap xs w3 (hx.out.below hb3.out) hf.out).mono ?_
    rintro e w4 ⟨rfl, hb4⟩
    rw [hR.out]
    have hs4 := Lib.hid (hs3.out.below hb4)
    have hb4 := Lib.hid (hb3.out.trans (hb4.mono hb3.out.size))
    go_wp2_with fail
    refine (Of_any co cc zs w4 hs4.out hg.out).mono ?_
    rintro e w5 ⟨v5, rfl, ho5, hb5⟩
    obtain ⟨co5, cc5, rfl, hs5, hlt5⟩ := ho5.lt
    have hsn5 := Lib.hid (hs4.out.below hb5)
    have hs5 := Lib.hid hs5
    have hb5 := Lib.hid (hb4.out.trans (hb5.mono hb4.out.size))
    clear ho5 hlt5
    go_wp2_with fail
    refine (refOf_any bo cap' zs w5 (hz.out.below hb5.out) hg.out).mono ?_
    rintro e w6 ⟨v6, rfl, ho6, hb6⟩
    obtain ⟨co6, cc6, rfl, hs6, hlt6⟩ := ho6.lt
    have hsn6 := Lib.hid (hsn5.out.below hb6)
    have hs56 := Lib.hid (hs5.out.below hb6)
    have hs6 := Lib.hid hs6
    have hb6 := Lib.hid (hb5.out.trans (hb6.mono hb5.out.size))
    clear ho6 hlt6
    go_wp2_with fail
    refine (Same_any co5 co6 cc5 cc6 _ _ w6 hs56.out hs6.out (runs_fits _) (runs_fits _)).mono ?_
    rintro e w7 ⟨rfl, hb7⟩
    rw [decide_eq_true rfl]
    have hsn7 := Lib.hid (hsn6.out.below hb7)
    have hb7 := Lib.hid (hb6.out.trans (hb7.mono hb6.out.size))
    go_wp2_with fail
    refine (SameInts_any co bo cc cap' zs zs w7 hsn7.out (hz.out.below hb7.out) hg.out hg.out).mono ?_
    rintro e w8 ⟨rfl, hb8⟩
    rw [decide_eq_true rfl]
    have hb8 := Lib.hid (hb7.out.trans (hb8.mono hb7.out.size))
    go_wp2
    go_ret
    exact ⟨rfl, hb8.out⟩

theorem own : ownKnob Try.prog.godebug = none := by kernel_rfl
theorem laidOut : laidOutB Try.prog = true := by kernel_rfl

set_option maxRecDepth 100000 in
theorem lifted (os : Os) (started : os.Started) (H : Type) (enc : TypeId × Value → H) :
    ReturnsInHanded {} Try.checked os 4 .any (Rows.spanRightsSpec.pre6 enc Try.prog Try.f4 Rows.spanRightsRow.domain false) (Rows.spanRightsSpec.post enc Try.prog Try.f4 false true false false) := by
  refine returnsInHanded_of_change_sized (C := Try.checked) own started (by kernel_rfl) Try.func4
    (ChangeSpec.witness6 (enc := enc) (C := Try.checked) false ⟨#[], #[.slice none 0 0, .slice none 0 0], []⟩ 8 (by kernel_rfl) (by kernel_rfl) (by kernel_rfl) (by kernel_rfl)) ?_
  intro W base args ds gs before hval0 hW hcnd hsz0 _
  have hval : ∀ (j : Nat) t v, Try.f4.params[j]? = some t → args[j]? = some v → Value.okWide Try.prog W .any base t v := hval0
  have hsz : (DataW.weightsEach Try.prog (Try.f4.params.toList ++ Rows.spanRightsSpec.plain.varTypes Try.prog) (ds ++ gs)).all (· ≤ reachBytes) = true := hsz0
  have hW' := hW
  obtain ⟨p, q, hA0, hV, rfl, hfz, hnd⟩ := hW
  have hA : DataW.TrodAll enc Try.prog W 0 (fun _ => true) true Try.f4.params.toList args.toList ds p := hA0
  rw [Try.params4] at hA hval hsz
  obtain ⟨v0, vs0, d0, ds0, p0, q0, hargs, rfl, rfl, h0, r0⟩ := trodAll_cons hA
  obtain ⟨v1, vs1, d1, ds1, p1, q1, rfl, rfl, rfl, h1, r1⟩ := trodAll_cons r0
  obtain ⟨rfl, rfl, rfl⟩ := trodAll_nil r1
  obtain rfl : args = #[v0, v1] := by cases args; simp_all
  obtain ⟨rfl, rfl⟩ := trodVars_none hV
  have k0 := h0
  have lt0 : ∀ x ∈ p0, x.block < W.heap.size := by obtain ⟨m, hm⟩ := k0; exact DataW.trod_lt m _ _ _ hm
  obtain ⟨ao0, a0, cap0, rfl, sp0, fi0, nl0⟩ := arg_spans h0 (hval 0 27 v0 rfl rfl) (fun es sp e => sized_slice hsz (j := 0) (t := 27) (e := 34) rfl (by rw [e]; rfl) Try.underlying27)
  have k1 := h1
  have lt1 : ∀ x ∈ p1, x.block < W.heap.size := by obtain ⟨m, hm⟩ := k1; exact DataW.trod_lt m _ _ _ hm
  obtain ⟨ao1, a1, cap1, rfl, sp1, fi1, nl1⟩ := arg_ints h1 (hval 1 25 v1 rfl rfl) (fun es sp e => sized_slice hsz (j := 1) (t := 25) (e := 3) rfl (by rw [e]; rfl) Try.underlying25)
  clear hA0 hval0 hsz0
  refine (walk ao0 a0 cap0 ao1 a1 cap1 W sp0 fi0 nl0 sp1 fi1 nl1).mono fun e W' ⟨he, bel⟩ => ?_
  subst he
  exact ⟨_, rfl, _, _, _, [], _, [], hW', trodAll_mk1 (shut_bool Try.underlying4 _), (trodAll_cons_mk (Below.trod laidOut (by kernel_rfl) (of_decide_eq_true (by kernel_rfl)) k0 bel lt0) (trodAll_cons_mk (Below.trod laidOut (by kernel_rfl) (of_decide_eq_true (by kernel_rfl)) k1 bel lt1) trodAll_mk0)), rfl, bel.frame _, fun h => by cases h⟩

theorem proved : Rows.SpanRightsSaid :=
  OpenClaim.holds_of_wide 4 Try.f4 rfl rfl rfl rfl rfl rfl rfl ⟨rfl, rfl, rfl, rfl, rfl⟩ rfl rfl rfl rfl rfl (by kernel_rfl) Try.func4 (by kernel_rfl)
    (of_decide_eq_true (by kernel_rfl)) (by unfold Func.isWrapper; first | (rw [if_pos (by decide +kernel)]; kernel_rfl) | (rw [if_neg (by decide +kernel)]; exact ⟨rfl, rfl⟩))
    (fun os started H enc _ => lifted os started H enc)
end Go.Proofs.Ytnfcjdfjbabldaa.lawSpanRights
