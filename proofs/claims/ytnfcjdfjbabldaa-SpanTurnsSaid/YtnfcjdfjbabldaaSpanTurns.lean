/- SpanTurns, for every input: the law returns true and each argument reads behind the call as before. No condition. -/
import Derived.Test.YtnfcjdfjbabldaaSpanR
namespace Go.Proofs.Ytnfcjdfjbabldaa.lawSpanTurns
open Go.ChangeShapes Go.WideShapes Go.ChangeAt Go.RowKit Go.Deep
set_option linter.unusedVariables false

set_option maxHeartbeats 4000000 in
set_option maxRecDepth 20000 in
theorem walk (ao : Option Addr) (xs : List (Int × Int)) (cap : Nat) (bo : Option Addr) (ys : List (Int × Int)) (cap' : Nat) (co : Option Addr) (zs : List (Int × Int)) (cap'' : Nat) (w : World) (hx : Spans w ao xs) (hf : Fits xs) (hn : ao = none → xs = [] ∧ cap = 0)
    (hy : Spans w bo ys) (hg : Fits ys) (hn' : bo = none → ys = [] ∧ cap' = 0) (hz : Spans w co zs) (hh : Fits zs) (hn'' : co = none → zs = [] ∧ cap'' = 0) :
    Calls Try.prog 9 #[.slice ao xs.length cap, .slice bo ys.length cap', .slice co zs.length cap''] w fun e w' => e = .returned (.bool true) ∧ Below w.heap.size w w' := by
  have Hx := Lib.hid hx
  have Hf := Lib.hid hf
  have Hy := Lib.hid hy
  have Hg := Lib.hid hg
  have Hz := Lib.hid hz
  have Hh := Lib.hid hh
  clear hx hf hy hg hn hn' hz hh hn''
  go_enter Try.func9, Try.ntmps9
  go_wp2_with fail
  refine (alive_any w).mono ?_
  rintro e w1 ⟨rfl, hbn⟩
  have b0 := Lib.hid hbn
  clear hbn
  go_wp2_with fail
  refine (Right_any ao cap xs w1 (Hx.out.below b0.out) Hf.out).mono ?_
  rintro e w2 ⟨rfl, hbn⟩
  have b0 := Lib.hid (b0.out.trans (hbn.mono b0.out.size))
  have b1 := Lib.hid hbn
  clear hbn
  cases hR : rightFrom 0 xs
  · go_wp2
    go_ret
    exact ⟨rfl, b0.out⟩
  have Rx := Lib.hid hR
  clear hR
  go_wp2_with fail
  refine (Right_any bo cap' ys w2 (Hy.out.below b0.out) Hg.out).mono ?_
  rintro e w3 ⟨rfl, hbn⟩
  have b0 := Lib.hid (b0.out.trans (hbn.mono b0.out.size))
  have b1 := Lib.hid (b1.out.trans (hbn.mono b1.out.size))
  have b2 := Lib.hid hbn
  clear hbn
  cases hR : rightFrom 0 ys
  · go_wp2
    go_ret
    exact ⟨rfl, b0.out⟩
  have Ry := Lib.hid hR
  clear hR
  go_wp2_with fail
  refine (Right_any co cap'' zs w3 (Hz.out.below b0.out) Hh.out).mono ?_
  rintro e w4 ⟨rfl, hbn⟩
  have b0 := Lib.hid (b0.out.trans (hbn.mono b0.out.size))
  have b1 := Lib.hid (b1.out.trans (hbn.mono b1.out.size))
  have b2 := Lib.hid (b2.out.trans (hbn.mono b2.out.size))
  have b3 := Lib.hid hbn
  clear hbn
  cases hR : rightFrom 0 zs
  · go_wp2
    go_ret
    exact ⟨rfl, b0.out⟩
  have Rz := Lib.hid hR
  clear hR
  go_wp2_with fail
  refine (Join_set ao bo cap cap' xs ys w4 (Hx.out.below b0.out) Rx.out (Hy.out.below b0.out) Ry.out).mono ?_
  rintro e w5 ⟨co1, cc1, L1, rfl, hs, hL1, hbn⟩
  have b0 := Lib.hid (b0.out.trans (hbn.mono b0.out.size))
  have b1 := Lib.hid (b1.out.trans (hbn.mono b1.out.size))
  have b2 := Lib.hid (b2.out.trans (hbn.mono b2.out.size))
  have b3 := Lib.hid (b3.out.trans (hbn.mono b3.out.size))
  have b4 := Lib.hid hbn
  clear hbn
  have hs1 := Lib.hid hs
  clear hs
  go_wp2_with fail
  refine (Join_set co1 co cc1 cap'' L1 zs w5 hs1.out hL1.out.1 (Hz.out.below b0.out) Rz.out).mono ?_
  rintro e w6 ⟨co2, cc2, L2, rfl, hs, hL2, hbn⟩
  have b0 := Lib.hid (b0.out.trans (hbn.mono b0.out.size))
  have b1 := Lib.hid (b1.out.trans (hbn.mono b1.out.size))
  have b2 := Lib.hid (b2.out.trans (hbn.mono b2.out.size))
  have b3 := Lib.hid (b3.out.trans (hbn.mono b3.out.size))
  have b4 := Lib.hid (b4.out.trans (hbn.mono b4.out.size))
  have b5 := Lib.hid hbn
  clear hbn
  have hs2 := Lib.hid hs
  clear hs
  go_wp2_with fail
  refine (Join_set co bo cap'' cap' zs ys w6 (Hz.out.below b0.out) Rz.out (Hy.out.below b0.out) Ry.out).mono ?_
  rintro e w7 ⟨co3, cc3, L3, rfl, hs, hL3, hbn⟩
  have b0 := Lib.hid (b0.out.trans (hbn.mono b0.out.size))
  have b1 := Lib.hid (b1.out.trans (hbn.mono b1.out.size))
  have b2 := Lib.hid (b2.out.trans (hbn.mono b2.out.size))
  have b3 := Lib.hid (b3.out.trans (hbn.mono b3.out.size))
  have b4 := Lib.hid (b4.out.trans (hbn.mono b4.out.size))
  have b5 := Lib.hid (b5.out.trans (hbn.mono b5.out.size))
  have b6 := Lib.hid hbn
  clear hbn
  have hs3 := Lib.hid hs
  clear hs
  go_wp2_with fail
  refine (Join_set ao co3 cap cc3 xs L3 w7 (Hx.out.below b0.out) Rx.out hs3.out hL3.out.1).mono ?_
  rintro e w8 ⟨co4, cc4, L4, rfl, hs, hL4, hbn⟩
  have b0 := Lib.hid (b0.out.trans (hbn.mono b0.out.size))
  have b1 := Lib.hid (b1.out.trans (hbn.mono b1.out.size))
  have b2 := Lib.hid (b2.out.trans (hbn.mono b2.out.size))
  have b3 := Lib.hid (b3.out.trans (hbn.mono b3.out.size))
  have b4 := Lib.hid (b4.out.trans (hbn.mono b4.out.size))
  have b5 := Lib.hid (b5.out.trans (hbn.mono b5.out.size))
  have b6 := Lib.hid (b6.out.trans (hbn.mono b6.out.size))
  have b7 := Lib.hid hbn
  clear hbn
  have hs4 := Lib.hid hs
  clear hs
  go_wp2_with fail
  refine (Both_set ao bo cap cap' xs ys w8 (Hx.out.below b0.out) Rx.out (Hy.out.below b0.out) Ry.out).mono ?_
  rintro e w9 ⟨co5, cc5, L5, rfl, hs, hL5, hbn⟩
  have b0 := Lib.hid (b0.out.trans (hbn.mono b0.out.size))
  have b1 := Lib.hid (b1.out.trans (hbn.mono b1.out.size))
  have b2 := Lib.hid (b2.out.trans (hbn.mono b2.out.size))
  have b3 := Lib.hid (b3.out.trans (hbn.mono b3.out.size))
  have b4 := Lib.hid (b4.out.trans (hbn.mono b4.out.size))
  have b5 := Lib.hid (b5.out.trans (hbn.mono b5.out.size))
  have b6 := Lib.hid (b6.out.trans (hbn.mono b6.out.size))
  have b7 := Lib.hid (b7.out.trans (hbn.mono b7.out.size))
  have b8 := Lib.hid hbn
  clear hbn
  have hs5 := Lib.hid hs
  clear hs
  go_wp2_with fail
  refine (Both_set co5 co cc5 cap'' L5 zs w9 hs5.out hL5.out.1 (Hz.out.below b0.out) Rz.out).mono ?_
  rintro e w10 ⟨co6, cc6, L6, rfl, hs, hL6, hbn⟩
  have b0 := Lib.hid (b0.out.trans (hbn.mono b0.out.size))
  have b1 := Lib.hid (b1.out.trans (hbn.mono b1.out.size))
  have b2 := Lib.hid (b2.out.trans (hbn.mono b2.out.size))
  have b3 := Lib.hid (b3.out.trans (hbn.mono b3.out.size))
  have b4 := Lib.hid (b4.out.trans (hbn.mono b4.out.size))
  have b5 := Lib.hid (b5.out.trans (hbn.mono b5.out.size))
  have b6 := Lib.hid (b6.out.trans (hbn.mono b6.out.size))
  have b7 := Lib.hid (b7.out.trans (hbn.mono b7.out.size))
  have b8 := Lib.hid (b8.out.trans (hbn.mono b8.out.size))
  have b9 := Lib.hid hbn
  clear hbn
  have hs6 := Lib.hid hs
  clear hs
  go_wp2_with fail
  refine (Both_set co ao cap'' cap zs xs w10 (Hz.out.below b0.out) Rz.out (Hx.out.below b0.out) Rx.out).mono ?_
  rintro e w11 ⟨co7, cc7, L7, rfl, hs, hL7, hbn⟩
  have b0 := Lib.hid (b0.out.trans (hbn.mono b0.out.size))
  have b1 := Lib.hid (b1.out.trans (hbn.mono b1.out.size))
  have b2 := Lib.hid (b2.out.trans (hbn.mono b2.out.size))
  have b3 := Lib.hid (b3.out.trans (hbn.mono b3.out.size))
  have b4 := Lib.hid (b4.out.trans (hbn.mono b4.out.size))
  have b5 := Lib.hid (b5.out.trans (hbn.mono b5.out.size))
  have b6 := Lib.hid (b6.out.trans (hbn.mono b6.out.size))
  have b7 := Lib.hid (b7.out.trans (hbn.mono b7.out.size))
  have b8 := Lib.hid (b8.out.trans (hbn.mono b8.out.size))
  have b9 := Lib.hid (b9.out.trans (hbn.mono b9.out.size))
  have b10 := Lib.hid hbn
  clear hbn
  have hs7 := Lib.hid hs
  clear hs
  go_wp2_with fail
  refine (Both_set bo co7 cap' cc7 ys L7 w11 (Hy.out.below b0.out) Ry.out hs7.out hL7.out.1).mono ?_
  rintro e w12 ⟨co8, cc8, L8, rfl, hs, hL8, hbn⟩
  have b0 := Lib.hid (b0.out.trans (hbn.mono b0.out.size))
  have b1 := Lib.hid (b1.out.trans (hbn.mono b1.out.size))
  have b2 := Lib.hid (b2.out.trans (hbn.mono b2.out.size))
  have b3 := Lib.hid (b3.out.trans (hbn.mono b3.out.size))
  have b4 := Lib.hid (b4.out.trans (hbn.mono b4.out.size))
  have b5 := Lib.hid (b5.out.trans (hbn.mono b5.out.size))
  have b6 := Lib.hid (b6.out.trans (hbn.mono b6.out.size))
  have b7 := Lib.hid (b7.out.trans (hbn.mono b7.out.size))
  have b8 := Lib.hid (b8.out.trans (hbn.mono b8.out.size))
  have b9 := Lib.hid (b9.out.trans (hbn.mono b9.out.size))
  have b10 := Lib.hid (b10.out.trans (hbn.mono b10.out.size))
  have b11 := Lib.hid hbn
  clear hbn
  have hs8 := Lib.hid hs
  clear hs
  have hsame : Hid (L2 = L4) := Lib.hid (hL2.out.eq hL4.out fun j hj => by
    simp only [hL1.out.2 j hj, hL3.out.2 j hj]
    cases maskS xs j <;> cases maskS ys j <;> cases maskS zs j <;> rfl)
  have hfa : Fits L2 := hL2.out.fits
  have hfb : Fits L4 := hL4.out.fits
  go_wp2_with fail
  refine (Same_any co2 co4 cc2 cc4 L2 L4 w12 (hs2.out.below b6.out) (hs4.out.below b8.out) hfa hfb).mono ?_
  rintro e w13 ⟨rfl, hbn⟩
  rw [decide_eq_true hsame.out]
  clear hsame hfa hfb
  have b0 := Lib.hid (b0.out.trans (hbn.mono b0.out.size))
  have b1 := Lib.hid (b1.out.trans (hbn.mono b1.out.size))
  have b2 := Lib.hid (b2.out.trans (hbn.mono b2.out.size))
  have b3 := Lib.hid (b3.out.trans (hbn.mono b3.out.size))
  have b4 := Lib.hid (b4.out.trans (hbn.mono b4.out.size))
  have b5 := Lib.hid (b5.out.trans (hbn.mono b5.out.size))
  have b6 := Lib.hid (b6.out.trans (hbn.mono b6.out.size))
  have b7 := Lib.hid (b7.out.trans (hbn.mono b7.out.size))
  have b8 := Lib.hid (b8.out.trans (hbn.mono b8.out.size))
  have b9 := Lib.hid (b9.out.trans (hbn.mono b9.out.size))
  have b10 := Lib.hid (b10.out.trans (hbn.mono b10.out.size))
  have b11 := Lib.hid (b11.out.trans (hbn.mono b11.out.size))
  have b12 := Lib.hid hbn
  clear hbn
  have hsame : Hid (L6 = L8) := Lib.hid (hL6.out.eq hL8.out fun j hj => by
    simp only [hL5.out.2 j hj, hL7.out.2 j hj]
    cases maskS xs j <;> cases maskS ys j <;> cases maskS zs j <;> rfl)
  have hfa : Fits L6 := hL6.out.fits
  have hfb : Fits L8 := hL8.out.fits
  go_wp2_with fail
  refine (Same_any co6 co8 cc6 cc8 L6 L8 w13 (hs6.out.below b10.out) (hs8.out.below b12.out) hfa hfb).mono ?_
  rintro e w14 ⟨rfl, hbn⟩
  rw [decide_eq_true hsame.out]
  clear hsame hfa hfb
  have b0 := Lib.hid (b0.out.trans (hbn.mono b0.out.size))
  have b1 := Lib.hid (b1.out.trans (hbn.mono b1.out.size))
  have b2 := Lib.hid (b2.out.trans (hbn.mono b2.out.size))
  have b3 := Lib.hid (b3.out.trans (hbn.mono b3.out.size))
  have b4 := Lib.hid (b4.out.trans (hbn.mono b4.out.size))
  have b5 := Lib.hid (b5.out.trans (hbn.mono b5.out.size))
  have b6 := Lib.hid (b6.out.trans (hbn.mono b6.out.size))
  have b7 := Lib.hid (b7.out.trans (hbn.mono b7.out.size))
  have b8 := Lib.hid (b8.out.trans (hbn.mono b8.out.size))
  have b9 := Lib.hid (b9.out.trans (hbn.mono b9.out.size))
  have b10 := Lib.hid (b10.out.trans (hbn.mono b10.out.size))
  have b11 := Lib.hid (b11.out.trans (hbn.mono b11.out.size))
  have b12 := Lib.hid (b12.out.trans (hbn.mono b12.out.size))
  have b13 := Lib.hid hbn
  clear hbn
  go_wp2_with fail
  refine (Cut_set ao bo cap cap' xs ys w14 (Hx.out.below b0.out) Rx.out (Hy.out.below b0.out) Ry.out).mono ?_
  rintro e w15 ⟨co9, cc9, L9, rfl, hs, hL9, hbn⟩
  have b0 := Lib.hid (b0.out.trans (hbn.mono b0.out.size))
  have b1 := Lib.hid (b1.out.trans (hbn.mono b1.out.size))
  have b2 := Lib.hid (b2.out.trans (hbn.mono b2.out.size))
  have b3 := Lib.hid (b3.out.trans (hbn.mono b3.out.size))
  have b4 := Lib.hid (b4.out.trans (hbn.mono b4.out.size))
  have b5 := Lib.hid (b5.out.trans (hbn.mono b5.out.size))
  have b6 := Lib.hid (b6.out.trans (hbn.mono b6.out.size))
  have b7 := Lib.hid (b7.out.trans (hbn.mono b7.out.size))
  have b8 := Lib.hid (b8.out.trans (hbn.mono b8.out.size))
  have b9 := Lib.hid (b9.out.trans (hbn.mono b9.out.size))
  have b10 := Lib.hid (b10.out.trans (hbn.mono b10.out.size))
  have b11 := Lib.hid (b11.out.trans (hbn.mono b11.out.size))
  have b12 := Lib.hid (b12.out.trans (hbn.mono b12.out.size))
  have b13 := Lib.hid (b13.out.trans (hbn.mono b13.out.size))
  have b14 := Lib.hid hbn
  clear hbn
  have hs9 := Lib.hid hs
  clear hs
  go_wp2_with fail
  refine (Cut_set co9 co cc9 cap'' L9 zs w15 hs9.out hL9.out.1 (Hz.out.below b0.out) Rz.out).mono ?_
  rintro e w16 ⟨co10, cc10, L10, rfl, hs, hL10, hbn⟩
  have b0 := Lib.hid (b0.out.trans (hbn.mono b0.out.size))
  have b1 := Lib.hid (b1.out.trans (hbn.mono b1.out.size))
  have b2 := Lib.hid (b2.out.trans (hbn.mono b2.out.size))
  have b3 := Lib.hid (b3.out.trans (hbn.mono b3.out.size))
  have b4 := Lib.hid (b4.out.trans (hbn.mono b4.out.size))
  have b5 := Lib.hid (b5.out.trans (hbn.mono b5.out.size))
  have b6 := Lib.hid (b6.out.trans (hbn.mono b6.out.size))
  have b7 := Lib.hid (b7.out.trans (hbn.mono b7.out.size))
  have b8 := Lib.hid (b8.out.trans (hbn.mono b8.out.size))
  have b9 := Lib.hid (b9.out.trans (hbn.mono b9.out.size))
  have b10 := Lib.hid (b10.out.trans (hbn.mono b10.out.size))
  have b11 := Lib.hid (b11.out.trans (hbn.mono b11.out.size))
  have b12 := Lib.hid (b12.out.trans (hbn.mono b12.out.size))
  have b13 := Lib.hid (b13.out.trans (hbn.mono b13.out.size))
  have b14 := Lib.hid (b14.out.trans (hbn.mono b14.out.size))
  have b15 := Lib.hid hbn
  clear hbn
  have hs10 := Lib.hid hs
  clear hs
  go_wp2_with fail
  refine (Join_set bo co cap' cap'' ys zs w16 (Hy.out.below b0.out) Ry.out (Hz.out.below b0.out) Rz.out).mono ?_
  rintro e w17 ⟨co11, cc11, L11, rfl, hs, hL11, hbn⟩
  have b0 := Lib.hid (b0.out.trans (hbn.mono b0.out.size))
  have b1 := Lib.hid (b1.out.trans (hbn.mono b1.out.size))
  have b2 := Lib.hid (b2.out.trans (hbn.mono b2.out.size))
  have b3 := Lib.hid (b3.out.trans (hbn.mono b3.out.size))
  have b4 := Lib.hid (b4.out.trans (hbn.mono b4.out.size))
  have b5 := Lib.hid (b5.out.trans (hbn.mono b5.out.size))
  have b6 := Lib.hid (b6.out.trans (hbn.mono b6.out.size))
  have b7 := Lib.hid (b7.out.trans (hbn.mono b7.out.size))
  have b8 := Lib.hid (b8.out.trans (hbn.mono b8.out.size))
  have b9 := Lib.hid (b9.out.trans (hbn.mono b9.out.size))
  have b10 := Lib.hid (b10.out.trans (hbn.mono b10.out.size))
  have b11 := Lib.hid (b11.out.trans (hbn.mono b11.out.size))
  have b12 := Lib.hid (b12.out.trans (hbn.mono b12.out.size))
  have b13 := Lib.hid (b13.out.trans (hbn.mono b13.out.size))
  have b14 := Lib.hid (b14.out.trans (hbn.mono b14.out.size))
  have b15 := Lib.hid (b15.out.trans (hbn.mono b15.out.size))
  have b16 := Lib.hid hbn
  clear hbn
  have hs11 := Lib.hid hs
  clear hs
  go_wp2_with fail
  refine (Cut_set ao co11 cap cc11 xs L11 w17 (Hx.out.below b0.out) Rx.out hs11.out hL11.out.1).mono ?_
  rintro e w18 ⟨co12, cc12, L12, rfl, hs, hL12, hbn⟩
  have b0 := Lib.hid (b0.out.trans (hbn.mono b0.out.size))
  have b1 := Lib.hid (b1.out.trans (hbn.mono b1.out.size))
  have b2 := Lib.hid (b2.out.trans (hbn.mono b2.out.size))
  have b3 := Lib.hid (b3.out.trans (hbn.mono b3.out.size))
  have b4 := Lib.hid (b4.out.trans (hbn.mono b4.out.size))
  have b5 := Lib.hid (b5.out.trans (hbn.mono b5.out.size))
  have b6 := Lib.hid (b6.out.trans (hbn.mono b6.out.size))
  have b7 := Lib.hid (b7.out.trans (hbn.mono b7.out.size))
  have b8 := Lib.hid (b8.out.trans (hbn.mono b8.out.size))
  have b9 := Lib.hid (b9.out.trans (hbn.mono b9.out.size))
  have b10 := Lib.hid (b10.out.trans (hbn.mono b10.out.size))
  have b11 := Lib.hid (b11.out.trans (hbn.mono b11.out.size))
  have b12 := Lib.hid (b12.out.trans (hbn.mono b12.out.size))
  have b13 := Lib.hid (b13.out.trans (hbn.mono b13.out.size))
  have b14 := Lib.hid (b14.out.trans (hbn.mono b14.out.size))
  have b15 := Lib.hid (b15.out.trans (hbn.mono b15.out.size))
  have b16 := Lib.hid (b16.out.trans (hbn.mono b16.out.size))
  have b17 := Lib.hid hbn
  clear hbn
  have hs12 := Lib.hid hs
  clear hs
  have hsame : Hid (L10 = L12) := Lib.hid (hL10.out.eq hL12.out fun j hj => by
    simp only [hL9.out.2 j hj, hL11.out.2 j hj]
    cases maskS xs j <;> cases maskS ys j <;> cases maskS zs j <;> rfl)
  have hfa : Fits L10 := hL10.out.fits
  have hfb : Fits L12 := hL12.out.fits
  go_wp2_with fail
  refine (Same_any co10 co12 cc10 cc12 L10 L12 w18 (hs10.out.below b16.out) hs12.out hfa hfb).mono ?_
  rintro e w19 ⟨rfl, hbn⟩
  rw [decide_eq_true hsame.out]
  clear hsame hfa hfb
  have b0 := Lib.hid (b0.out.trans (hbn.mono b0.out.size))
  have b1 := Lib.hid (b1.out.trans (hbn.mono b1.out.size))
  have b2 := Lib.hid (b2.out.trans (hbn.mono b2.out.size))
  have b3 := Lib.hid (b3.out.trans (hbn.mono b3.out.size))
  have b4 := Lib.hid (b4.out.trans (hbn.mono b4.out.size))
  have b5 := Lib.hid (b5.out.trans (hbn.mono b5.out.size))
  have b6 := Lib.hid (b6.out.trans (hbn.mono b6.out.size))
  have b7 := Lib.hid (b7.out.trans (hbn.mono b7.out.size))
  have b8 := Lib.hid (b8.out.trans (hbn.mono b8.out.size))
  have b9 := Lib.hid (b9.out.trans (hbn.mono b9.out.size))
  have b10 := Lib.hid (b10.out.trans (hbn.mono b10.out.size))
  have b11 := Lib.hid (b11.out.trans (hbn.mono b11.out.size))
  have b12 := Lib.hid (b12.out.trans (hbn.mono b12.out.size))
  have b13 := Lib.hid (b13.out.trans (hbn.mono b13.out.size))
  have b14 := Lib.hid (b14.out.trans (hbn.mono b14.out.size))
  have b15 := Lib.hid (b15.out.trans (hbn.mono b15.out.size))
  have b16 := Lib.hid (b16.out.trans (hbn.mono b16.out.size))
  have b17 := Lib.hid (b17.out.trans (hbn.mono b17.out.size))
  have b18 := Lib.hid hbn
  clear hbn
  go_wp2
  go_ret
  exact ⟨rfl, b0.out⟩
theorem own : ownKnob Try.prog.godebug = none := by kernel_rfl
theorem laidOut : laidOutB Try.prog = true := by kernel_rfl

set_option maxRecDepth 100000 in
theorem lifted (os : Os) (started : os.Started) (H : Type) (enc : TypeId × Value → H) :
    ReturnsInHanded {} Try.checked os 9 .any (Rows.spanTurnsSpec.pre6 enc Try.prog Try.f9 Rows.spanTurnsRow.domain false) (Rows.spanTurnsSpec.post enc Try.prog Try.f9 false true false false) := by
  refine returnsInHanded_of_change_sized (C := Try.checked) own started (by kernel_rfl) Try.func9
    (ChangeSpec.witness6 (enc := enc) (C := Try.checked) false ⟨#[], #[.slice none 0 0, .slice none 0 0, .slice none 0 0], []⟩ 8 (by kernel_rfl) (by kernel_rfl) (by kernel_rfl) (by kernel_rfl)) ?_
  intro W base args ds gs before hval0 hW hcnd hsz0 _
  have hval : ∀ (j : Nat) t v, Try.f9.params[j]? = some t → args[j]? = some v → Value.okWide Try.prog W .any base t v := hval0
  have hsz : (DataW.weightsEach Try.prog (Try.f9.params.toList ++ Rows.spanTurnsSpec.plain.varTypes Try.prog) (ds ++ gs)).all (· ≤ reachBytes) = true := hsz0
  have hW' := hW
  obtain ⟨p, q, hA0, hV, rfl, hfz, hnd⟩ := hW
  have hA : DataW.TrodAll enc Try.prog W 0 (fun _ => true) true Try.f9.params.toList args.toList ds p := hA0
  rw [Try.params9] at hA hval hsz
  obtain ⟨v0, vs0, d0, ds0, p0, q0, hargs, rfl, rfl, h0, r0⟩ := trodAll_cons hA
  obtain ⟨v1, vs1, d1, ds1, p1, q1, rfl, rfl, rfl, h1, r1⟩ := trodAll_cons r0
  obtain ⟨v2, vs2, d2, ds2, p2, q2, rfl, rfl, rfl, h2, r2⟩ := trodAll_cons r1
  obtain ⟨rfl, rfl, rfl⟩ := trodAll_nil r2
  obtain rfl : args = #[v0, v1, v2] := by cases args; simp_all
  obtain ⟨rfl, rfl⟩ := trodVars_none hV
  have k0 := h0
  have lt0 : ∀ x ∈ p0, x.block < W.heap.size := by obtain ⟨m, hm⟩ := k0; exact DataW.trod_lt m _ _ _ hm
  obtain ⟨ao0, a0, cap0, rfl, sp0, fi0, nl0⟩ := arg_spans h0 (hval 0 27 v0 rfl rfl) (fun es sp e => sized_slice hsz (j := 0) (t := 27) (e := 34) rfl (by rw [e]; rfl) Try.underlying27)
  have k1 := h1
  have lt1 : ∀ x ∈ p1, x.block < W.heap.size := by obtain ⟨m, hm⟩ := k1; exact DataW.trod_lt m _ _ _ hm
  obtain ⟨ao1, a1, cap1, rfl, sp1, fi1, nl1⟩ := arg_spans h1 (hval 1 27 v1 rfl rfl) (fun es sp e => sized_slice hsz (j := 1) (t := 27) (e := 34) rfl (by rw [e]; rfl) Try.underlying27)
  have k2 := h2
  have lt2 : ∀ x ∈ p2, x.block < W.heap.size := by obtain ⟨m, hm⟩ := k2; exact DataW.trod_lt m _ _ _ hm
  obtain ⟨ao2, a2, cap2, rfl, sp2, fi2, nl2⟩ := arg_spans h2 (hval 2 27 v2 rfl rfl) (fun es sp e => sized_slice hsz (j := 2) (t := 27) (e := 34) rfl (by rw [e]; rfl) Try.underlying27)
  clear hA0 hval0 hsz0
  refine (walk ao0 a0 cap0 ao1 a1 cap1 ao2 a2 cap2 W sp0 fi0 nl0 sp1 fi1 nl1 sp2 fi2 nl2).mono fun e W' ⟨he, bel⟩ => ?_
  subst he
  exact ⟨_, rfl, _, _, _, [], _, [], hW', trodAll_mk1 (shut_bool Try.underlying4 _), (trodAll_cons_mk (Below.trod laidOut (by kernel_rfl) (of_decide_eq_true (by kernel_rfl)) k0 bel lt0) (trodAll_cons_mk (Below.trod laidOut (by kernel_rfl) (of_decide_eq_true (by kernel_rfl)) k1 bel lt1) (trodAll_cons_mk (Below.trod laidOut (by kernel_rfl) (of_decide_eq_true (by kernel_rfl)) k2 bel lt2) trodAll_mk0))), rfl, bel.frame _, fun h => by cases h⟩

theorem proved : Rows.SpanTurnsSaid :=
  OpenClaim.holds_of_wide 9 Try.f9 rfl rfl rfl rfl rfl rfl rfl ⟨rfl, rfl, rfl, rfl, rfl⟩ rfl rfl rfl rfl rfl (by kernel_rfl) Try.func9 (by kernel_rfl)
    (of_decide_eq_true (by kernel_rfl)) (by unfold Func.isWrapper; first | (rw [if_pos (by decide +kernel)]; kernel_rfl) | (rw [if_neg (by decide +kernel)]; exact ⟨rfl, rfl⟩))
    (fun os started H enc _ => lifted os started H enc)
end Go.Proofs.Ytnfcjdfjbabldaa.lawSpanTurns
