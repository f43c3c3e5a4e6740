/- SpanMixes, for every input: the law returns true and each argument reads behind the call as before. No condition. -/
import Derived.Test.YtnfcjdfjbabldaaSpanR
namespace Go.Proofs.Ytnfcjdfjbabldaa.lawSpanMixes
open Go.ChangeShapes Go.WideShapes Go.ChangeAt Go.RowKit Go.Deep
set_option linter.unusedVariables false

set_option maxHeartbeats 4000000 in
set_option maxRecDepth 20000 in
theorem walk (ao : Option Addr) (xs : List (Int × Int)) (cap : Nat) (bo : Option Addr) (ys : List (Int × Int)) (cap' : Nat) (w : World) (hx : Spans w ao xs) (hf : Fits xs) (hn : ao = none → xs = [] ∧ cap = 0)
    (hy : Spans w bo ys) (hg : Fits ys) (hn' : bo = none → ys = [] ∧ cap' = 0) :
    Calls Try.prog 6 #[.slice ao xs.length cap, .slice bo ys.length cap'] w fun e w' => e = .returned (.bool true) ∧ Below w.heap.size w w' := by
  have Hx := Lib.hid hx
  have Hf := Lib.hid hf
  have Hy := Lib.hid hy
  have Hg := Lib.hid hg
  have Hn := Lib.hid hn
  have Hn' := Lib.hid hn'
  clear hx hf hy hg hn hn'
  go_enter Try.func6, Try.ntmps6
  go_wp2_with fail
  refine (alive_any w).mono ?_
  rintro e w1 ⟨rfl, hbn⟩
  have b0 := Lib.hid hbn
  clear hbn
  go_wp2_with fail
  refine (refRight_any ao cap xs w1 (Hx.out.below b0.out) Hf.out).mono ?_
  rintro e w2 ⟨rfl, hbn⟩
  have b0 := Lib.hid (b0.out.trans (hbn.mono b0.out.size))
  have b1 := Lib.hid hbn
  clear hbn
  cases hR : rightFrom 0 xs
  · go_wp2
    go_ret
    exact ⟨rfl, b0.out⟩
  have Rx := Lib.hid hR
  clear hR
  go_wp2_with fail
  refine (refRight_any bo cap' ys w2 (Hy.out.below b0.out) Hg.out).mono ?_
  rintro e w3 ⟨rfl, hbn⟩
  have b0 := Lib.hid (b0.out.trans (hbn.mono b0.out.size))
  have b1 := Lib.hid (b1.out.trans (hbn.mono b1.out.size))
  have b2 := Lib.hid hbn
  clear hbn
  cases hR : rightFrom 0 ys
  · go_wp2
    go_ret
    exact ⟨rfl, b0.out⟩
  have Ry := Lib.hid hR
  clear hR
  have hy3 := Lib.hid (Hy.out.below b0.out)
  have hx3 := Lib.hid (Hx.out.below b0.out)
  go_wp2_with (first | (at_builtin; refine copy_spans rfl (.tmp 20) (.tmp 21) rfl w3 rfl ao cap xs rfl Hn.out hx3.out Hf.out ?_; intro co1 cc1 w4 hs1 hb4; have hs1 := Lib.hid hs1; have hb4 := Lib.hid hb4; have hy4 := Lib.hid (hy3.out.below hb4.out)) | (at_builtin; refine copy_spans rfl (.tmp 23) (.tmp 24) rfl w4 rfl bo cap' ys rfl Hn'.out hy4.out Hg.out ?_; intro co2 cc2 w5 hs2 hb5; have hs2 := Lib.hid hs2; have hb5 := Lib.hid hb5))
  have hbn := hb4.out
  have b0 := Lib.hid (b0.out.trans (hbn.mono b0.out.size))
  have b1 := Lib.hid (b1.out.trans (hbn.mono b1.out.size))
  have b2 := Lib.hid (b2.out.trans (hbn.mono b2.out.size))
  have b3 := Lib.hid hbn
  clear hbn
  have hbn := hb5.out
  have b0 := Lib.hid (b0.out.trans (hbn.mono b0.out.size))
  have b1 := Lib.hid (b1.out.trans (hbn.mono b1.out.size))
  have b2 := Lib.hid (b2.out.trans (hbn.mono b2.out.size))
  have b3 := Lib.hid (b3.out.trans (hbn.mono b3.out.size))
  have b4 := Lib.hid hbn
  clear hbn
  go_wp2_with fail
  refine (Join_set co1 co2 cc1 cc2 xs ys w5 (hs1.out.below b4.out) Rx.out hs2.out Ry.out).mono ?_
  rintro e w6 ⟨co3, cc3, L3, rfl, hs, hL3, hbn⟩
  have b0 := Lib.hid (b0.out.trans (hbn.mono b0.out.size))
  have b1 := Lib.hid (b1.out.trans (hbn.mono b1.out.size))
  have b2 := Lib.hid (b2.out.trans (hbn.mono b2.out.size))
  have b3 := Lib.hid (b3.out.trans (hbn.mono b3.out.size))
  have b4 := Lib.hid (b4.out.trans (hbn.mono b4.out.size))
  have b5 := Lib.hid hbn
  clear hbn
  have hs3 := Lib.hid hs
  clear hs
  go_wp2_with fail
  refine (Cut_set co1 co2 cc1 cc2 xs ys w6 (hs1.out.below b4.out) Rx.out (hs2.out.below b5.out) Ry.out).mono ?_
  rintro e w7 ⟨co4, cc4, L4, rfl, hs, hL4, hbn⟩
  have b0 := Lib.hid (b0.out.trans (hbn.mono b0.out.size))
  have b1 := Lib.hid (b1.out.trans (hbn.mono b1.out.size))
  have b2 := Lib.hid (b2.out.trans (hbn.mono b2.out.size))
  have b3 := Lib.hid (b3.out.trans (hbn.mono b3.out.size))
  have b4 := Lib.hid (b4.out.trans (hbn.mono b4.out.size))
  have b5 := Lib.hid (b5.out.trans (hbn.mono b5.out.size))
  have b6 := Lib.hid hbn
  clear hbn
  have hs4 := Lib.hid hs
  clear hs
  go_wp2_with fail
  refine (Both_set co1 co2 cc1 cc2 xs ys w7 (hs1.out.below b4.out) Rx.out (hs2.out.below b5.out) Ry.out).mono ?_
  rintro e w8 ⟨co5, cc5, L5, rfl, hs, hL5, hbn⟩
  have b0 := Lib.hid (b0.out.trans (hbn.mono b0.out.size))
  have b1 := Lib.hid (b1.out.trans (hbn.mono b1.out.size))
  have b2 := Lib.hid (b2.out.trans (hbn.mono b2.out.size))
  have b3 := Lib.hid (b3.out.trans (hbn.mono b3.out.size))
  have b4 := Lib.hid (b4.out.trans (hbn.mono b4.out.size))
  have b5 := Lib.hid (b5.out.trans (hbn.mono b5.out.size))
  have b6 := Lib.hid (b6.out.trans (hbn.mono b6.out.size))
  have b7 := Lib.hid hbn
  clear hbn
  have hs5 := Lib.hid hs
  clear hs
  have hsame : Hid (xs = xs) := Lib.hid (rfl)
  have hfa : Fits xs := Hf.out
  have hfb : Fits xs := Hf.out
  go_wp2_with fail
  refine (Same_any co1 ao cc1 cap xs xs w8 (hs1.out.below b4.out) (Hx.out.below b0.out) hfa hfb).mono ?_
  rintro e w9 ⟨rfl, hbn⟩
  rw [decide_eq_true (rfl : xs = xs)]
  clear hsame hfa hfb
  have b0 := Lib.hid (b0.out.trans (hbn.mono b0.out.size))
  have b1 := Lib.hid (b1.out.trans (hbn.mono b1.out.size))
  have b2 := Lib.hid (b2.out.trans (hbn.mono b2.out.size))
  have b3 := Lib.hid (b3.out.trans (hbn.mono b3.out.size))
  have b4 := Lib.hid (b4.out.trans (hbn.mono b4.out.size))
  have b5 := Lib.hid (b5.out.trans (hbn.mono b5.out.size))
  have b6 := Lib.hid (b6.out.trans (hbn.mono b6.out.size))
  have b7 := Lib.hid (b7.out.trans (hbn.mono b7.out.size))
  have b8 := Lib.hid hbn
  clear hbn
  have hsame : Hid (ys = ys) := Lib.hid (rfl)
  have hfa : Fits ys := Hg.out
  have hfb : Fits ys := Hg.out
  go_wp2_with fail
  refine (Same_any co2 bo cc2 cap' ys ys w9 (hs2.out.below b5.out) (Hy.out.below b0.out) hfa hfb).mono ?_
  rintro e w10 ⟨rfl, hbn⟩
  rw [decide_eq_true (rfl : ys = ys)]
  clear hsame hfa hfb
  have b0 := Lib.hid (b0.out.trans (hbn.mono b0.out.size))
  have b1 := Lib.hid (b1.out.trans (hbn.mono b1.out.size))
  have b2 := Lib.hid (b2.out.trans (hbn.mono b2.out.size))
  have b3 := Lib.hid (b3.out.trans (hbn.mono b3.out.size))
  have b4 := Lib.hid (b4.out.trans (hbn.mono b4.out.size))
  have b5 := Lib.hid (b5.out.trans (hbn.mono b5.out.size))
  have b6 := Lib.hid (b6.out.trans (hbn.mono b6.out.size))
  have b7 := Lib.hid (b7.out.trans (hbn.mono b7.out.size))
  have b8 := Lib.hid (b8.out.trans (hbn.mono b8.out.size))
  have b9 := Lib.hid hbn
  clear hbn
  go_wp2_with fail
  refine (Mix_set ao bo cap cap' xs ys 0 w10 (Hx.out.below b0.out) Rx.out (Hy.out.below b0.out) Ry.out (by omega) (by omega)).mono ?_
  rintro e w11 ⟨co6, cc6, L6, rfl, hs, hL6, hbn⟩
  have b0 := Lib.hid (b0.out.trans (hbn.mono b0.out.size))
  have b1 := Lib.hid (b1.out.trans (hbn.mono b1.out.size))
  have b2 := Lib.hid (b2.out.trans (hbn.mono b2.out.size))
  have b3 := Lib.hid (b3.out.trans (hbn.mono b3.out.size))
  have b4 := Lib.hid (b4.out.trans (hbn.mono b4.out.size))
  have b5 := Lib.hid (b5.out.trans (hbn.mono b5.out.size))
  have b6 := Lib.hid (b6.out.trans (hbn.mono b6.out.size))
  have b7 := Lib.hid (b7.out.trans (hbn.mono b7.out.size))
  have b8 := Lib.hid (b8.out.trans (hbn.mono b8.out.size))
  have b9 := Lib.hid (b9.out.trans (hbn.mono b9.out.size))
  have b10 := Lib.hid hbn
  clear hbn
  have hs6 := Lib.hid hs
  clear hs
  have hsame : Hid (L3 = L6) := Lib.hid (hL3.out.eq hL6.out fun j hj => by
    cases maskS xs j <;> cases maskS ys j <;> rfl)
  have hfa : Fits L3 := hL3.out.fits
  have hfb : Fits L6 := hL6.out.fits
  go_wp2_with fail
  refine (Same_any co3 co6 cc3 cc6 L3 L6 w11 (hs3.out.below b6.out) hs6.out hfa hfb).mono ?_
  rintro e w12 ⟨rfl, hbn⟩
  rw [decide_eq_true hsame.out]
  clear hsame hfa hfb
  have b0 := Lib.hid (b0.out.trans (hbn.mono b0.out.size))
  have b1 := Lib.hid (b1.out.trans (hbn.mono b1.out.size))
  have b2 := Lib.hid (b2.out.trans (hbn.mono b2.out.size))
  have b3 := Lib.hid (b3.out.trans (hbn.mono b3.out.size))
  have b4 := Lib.hid (b4.out.trans (hbn.mono b4.out.size))
  have b5 := Lib.hid (b5.out.trans (hbn.mono b5.out.size))
  have b6 := Lib.hid (b6.out.trans (hbn.mono b6.out.size))
  have b7 := Lib.hid (b7.out.trans (hbn.mono b7.out.size))
  have b8 := Lib.hid (b8.out.trans (hbn.mono b8.out.size))
  have b9 := Lib.hid (b9.out.trans (hbn.mono b9.out.size))
  have b10 := Lib.hid (b10.out.trans (hbn.mono b10.out.size))
  have b11 := Lib.hid hbn
  clear hbn
  go_wp2_with fail
  refine (Mix_set ao bo cap cap' xs ys 1 w12 (Hx.out.below b0.out) Rx.out (Hy.out.below b0.out) Ry.out (by omega) (by omega)).mono ?_
  rintro e w13 ⟨co7, cc7, L7, rfl, hs, hL7, hbn⟩
  have b0 := Lib.hid (b0.out.trans (hbn.mono b0.out.size))
  have b1 := Lib.hid (b1.out.trans (hbn.mono b1.out.size))
  have b2 := Lib.hid (b2.out.trans (hbn.mono b2.out.size))
  have b3 := Lib.hid (b3.out.trans (hbn.mono b3.out.size))
  have b4 := Lib.hid (b4.out.trans (hbn.mono b4.out.size))
  have b5 := Lib.hid (b5.out.trans (hbn.mono b5.out.size))
  have b6 := Lib.hid (b6.out.trans (hbn.mono b6.out.size))
  have b7 := Lib.hid (b7.out.trans (hbn.mono b7.out.size))
  have b8 := Lib.hid (b8.out.trans (hbn.mono b8.out.size))
  have b9 := Lib.hid (b9.out.trans (hbn.mono b9.out.size))
  have b10 := Lib.hid (b10.out.trans (hbn.mono b10.out.size))
  have b11 := Lib.hid (b11.out.trans (hbn.mono b11.out.size))
  have b12 := Lib.hid hbn
  clear hbn
  have hs7 := Lib.hid hs
  clear hs
  have hsame : Hid (L4 = L7) := Lib.hid (hL4.out.eq hL7.out fun j hj => by
    cases maskS xs j <;> cases maskS ys j <;> rfl)
  have hfa : Fits L4 := hL4.out.fits
  have hfb : Fits L7 := hL7.out.fits
  go_wp2_with fail
  refine (Same_any co4 co7 cc4 cc7 L4 L7 w13 (hs4.out.below b7.out) hs7.out hfa hfb).mono ?_
  rintro e w14 ⟨rfl, hbn⟩
  rw [decide_eq_true hsame.out]
  clear hsame hfa hfb
  have b0 := Lib.hid (b0.out.trans (hbn.mono b0.out.size))
  have b1 := Lib.hid (b1.out.trans (hbn.mono b1.out.size))
  have b2 := Lib.hid (b2.out.trans (hbn.mono b2.out.size))
  have b3 := Lib.hid (b3.out.trans (hbn.mono b3.out.size))
  have b4 := Lib.hid (b4.out.trans (hbn.mono b4.out.size))
  have b5 := Lib.hid (b5.out.trans (hbn.mono b5.out.size))
  have b6 := Lib.hid (b6.out.trans (hbn.mono b6.out.size))
  have b7 := Lib.hid (b7.out.trans (hbn.mono b7.out.size))
  have b8 := Lib.hid (b8.out.trans (hbn.mono b8.out.size))
  have b9 := Lib.hid (b9.out.trans (hbn.mono b9.out.size))
  have b10 := Lib.hid (b10.out.trans (hbn.mono b10.out.size))
  have b11 := Lib.hid (b11.out.trans (hbn.mono b11.out.size))
  have b12 := Lib.hid (b12.out.trans (hbn.mono b12.out.size))
  have b13 := Lib.hid hbn
  clear hbn
  go_wp2_with fail
  refine (Mix_set ao bo cap cap' xs ys 2 w14 (Hx.out.below b0.out) Rx.out (Hy.out.below b0.out) Ry.out (by omega) (by omega)).mono ?_
  rintro e w15 ⟨co8, cc8, L8, rfl, hs, hL8, hbn⟩
  have b0 := Lib.hid (b0.out.trans (hbn.mono b0.out.size))
  have b1 := Lib.hid (b1.out.trans (hbn.mono b1.out.size))
  have b2 := Lib.hid (b2.out.trans (hbn.mono b2.out.size))
  have b3 := Lib.hid (b3.out.trans (hbn.mono b3.out.size))
  have b4 := Lib.hid (b4.out.trans (hbn.mono b4.out.size))
  have b5 := Lib.hid (b5.out.trans (hbn.mono b5.out.size))
  have b6 := Lib.hid (b6.out.trans (hbn.mono b6.out.size))
  have b7 := Lib.hid (b7.out.trans (hbn.mono b7.out.size))
  have b8 := Lib.hid (b8.out.trans (hbn.mono b8.out.size))
  have b9 := Lib.hid (b9.out.trans (hbn.mono b9.out.size))
  have b10 := Lib.hid (b10.out.trans (hbn.mono b10.out.size))
  have b11 := Lib.hid (b11.out.trans (hbn.mono b11.out.size))
  have b12 := Lib.hid (b12.out.trans (hbn.mono b12.out.size))
  have b13 := Lib.hid (b13.out.trans (hbn.mono b13.out.size))
  have b14 := Lib.hid hbn
  clear hbn
  have hs8 := Lib.hid hs
  clear hs
  have hsame : Hid (L5 = L8) := Lib.hid (hL5.out.eq hL8.out fun j hj => by
    cases maskS xs j <;> cases maskS ys j <;> rfl)
  have hfa : Fits L5 := hL5.out.fits
  have hfb : Fits L8 := hL8.out.fits
  go_wp2_with fail
  refine (Same_any co5 co8 cc5 cc8 L5 L8 w15 (hs5.out.below b8.out) hs8.out hfa hfb).mono ?_
  rintro e w16 ⟨rfl, hbn⟩
  rw [decide_eq_true hsame.out]
  clear hsame hfa hfb
  have b0 := Lib.hid (b0.out.trans (hbn.mono b0.out.size))
  have b1 := Lib.hid (b1.out.trans (hbn.mono b1.out.size))
  have b2 := Lib.hid (b2.out.trans (hbn.mono b2.out.size))
  have b3 := Lib.hid (b3.out.trans (hbn.mono b3.out.size))
  have b4 := Lib.hid (b4.out.trans (hbn.mono b4.out.size))
  have b5 := Lib.hid (b5.out.trans (hbn.mono b5.out.size))
  have b6 := Lib.hid (b6.out.trans (hbn.mono b6.out.size))
  have b7 := Lib.hid (b7.out.trans (hbn.mono b7.out.size))
  have b8 := Lib.hid (b8.out.trans (hbn.mono b8.out.size))
  have b9 := Lib.hid (b9.out.trans (hbn.mono b9.out.size))
  have b10 := Lib.hid (b10.out.trans (hbn.mono b10.out.size))
  have b11 := Lib.hid (b11.out.trans (hbn.mono b11.out.size))
  have b12 := Lib.hid (b12.out.trans (hbn.mono b12.out.size))
  have b13 := Lib.hid (b13.out.trans (hbn.mono b13.out.size))
  have b14 := Lib.hid (b14.out.trans (hbn.mono b14.out.size))
  have b15 := Lib.hid hbn
  clear hbn
  go_wp2
  go_ret
  exact ⟨rfl, b0.out⟩
theorem own : ownKnob Try.prog.godebug = none := by kernel_rfl
theorem laidOut : laidOutB Try.prog = true := by kernel_rfl

set_option maxRecDepth 100000 in
theorem lifted (os : Os) (started : os.Started) (H : Type) (enc : TypeId × Value → H) :
    ReturnsInHanded {} Try.checked os 6 .any (Rows.spanMixesSpec.pre6 enc Try.prog Try.f6 Rows.spanMixesRow.domain false) (Rows.spanMixesSpec.post enc Try.prog Try.f6 false true false false) := by
  refine returnsInHanded_of_change_sized (C := Try.checked) own started (by kernel_rfl) Try.func6
    (ChangeSpec.witness6 (enc := enc) (C := Try.checked) false ⟨#[], #[.slice none 0 0, .slice none 0 0], []⟩ 8 (by kernel_rfl) (by kernel_rfl) (by kernel_rfl) (by kernel_rfl)) ?_
  intro W base args ds gs before hval0 hW hcnd hsz0 _
  have hval : ∀ (j : Nat) t v, Try.f6.params[j]? = some t → args[j]? = some v → Value.okWide Try.prog W .any base t v := hval0
  have hsz : (DataW.weightsEach Try.prog (Try.f6.params.toList ++ Rows.spanMixesSpec.plain.varTypes Try.prog) (ds ++ gs)).all (· ≤ reachBytes) = true := hsz0
  have hW' := hW
  obtain ⟨p, q, hA0, hV, rfl, hfz, hnd⟩ := hW
  have hA : DataW.TrodAll enc Try.prog W 0 (fun _ => true) true Try.f6.params.toList args.toList ds p := hA0
  rw [Try.params6] at hA hval hsz
  obtain ⟨v0, vs0, d0, ds0, p0, q0, hargs, rfl, rfl, h0, r0⟩ := trodAll_cons hA
  obtain ⟨v1, vs1, d1, ds1, p1, q1, rfl, rfl, rfl, h1, r1⟩ := trodAll_cons r0
  obtain ⟨rfl, rfl, rfl⟩ := trodAll_nil r1
  obtain rfl : args = #[v0, v1] := by cases args; simp_all
  obtain ⟨rfl, rfl⟩ := trodVars_none hV
  have k0 := h0
  have lt0 : ∀ x ∈ p0, x.block < W.heap.size := by obtain ⟨m, hm⟩ := k0; exact DataW.trod_lt m _ _ _ hm
  obtain ⟨ao0, a0, cap0, rfl, sp0, fi0, nl0⟩ := arg_spans h0 (hval 0 27 v0 rfl rfl) (fun es sp e => sized_slice hsz (j := 0) (t := 27) (e := 34) rfl (by rw [e]; rfl) Try.underlying27)
  have k1 := h1
  have lt1 : ∀ x ∈ p1, x.block < W.heap.size := by obtain ⟨m, hm⟩ := k1; exact DataW.trod_lt m _ _ _ hm
  obtain ⟨ao1, a1, cap1, rfl, sp1, fi1, nl1⟩ := arg_spans h1 (hval 1 27 v1 rfl rfl) (fun es sp e => sized_slice hsz (j := 1) (t := 27) (e := 34) rfl (by rw [e]; rfl) Try.underlying27)
  clear hA0 hval0 hsz0
  refine (walk ao0 a0 cap0 ao1 a1 cap1 W sp0 fi0 nl0 sp1 fi1 nl1).mono fun e W' ⟨he, bel⟩ => ?_
  subst he
  exact ⟨_, rfl, _, _, _, [], _, [], hW', trodAll_mk1 (shut_bool Try.underlying4 _), (trodAll_cons_mk (Below.trod laidOut (by kernel_rfl) (of_decide_eq_true (by kernel_rfl)) k0 bel lt0) (trodAll_cons_mk (Below.trod laidOut (by kernel_rfl) (of_decide_eq_true (by kernel_rfl)) k1 bel lt1) trodAll_mk0)), rfl, bel.frame _, fun h => by cases h⟩

theorem proved : Rows.SpanMixesSaid :=
  OpenClaim.holds_of_wide 6 Try.f6 rfl rfl rfl rfl rfl rfl rfl ⟨rfl, rfl, rfl, rfl, rfl⟩ rfl rfl rfl rfl rfl (by kernel_rfl) Try.func6 (by kernel_rfl)
    (of_decide_eq_true (by kernel_rfl)) (by unfold Func.isWrapper; first | (rw [if_pos (by decide +kernel)]; kernel_rfl) | (rw [if_neg (by decide +kernel)]; exact ⟨rfl, rfl⟩))
    (fun os started H enc _ => lifted os started H enc)
end Go.Proofs.Ytnfcjdfjbabldaa.lawSpanMixes
