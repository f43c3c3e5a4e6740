/- SpanAdds, for every input: the law returns true and each argument reads behind the call as before. No condition. -/
import Derived.Test.YtnfcjdfjbabldaaSpanR
namespace Go.Proofs.Ytnfcjdfjbabldaa.lawSpanAdds
open Go.ChangeShapes Go.WideShapes Go.ChangeAt Go.RowKit Go.Deep
set_option linter.unusedVariables false

theorem filter_sum {α : Type} (l : List α) (p q r t : α → Bool) (h1 : ∀ x, r x = (p x || q x)) (h2 : ∀ x, t x = (p x && q x)) : (l.filter r).length + (l.filter t).length = (l.filter p).length + (l.filter q).length := by
  induction l with
  | nil => rfl
  | cons a s ih =>
    have e1 := h1 a
    have e2 := h2 a
    cases hp : p a <;> cases hq : q a <;> rw [hp, hq] at e1 e2 <;> simp [hp, hq, e1, e2] at ih ⊢ <;> omega

theorem count_sum {f g u v : Nat → Bool} (hu : ∀ j, j < 4096 → u j = (f j || g j)) (hv : ∀ j, j < 4096 → v j = (f j && g j)) : (upTo u 4096).length + (upTo v 4096).length = (upTo f 4096).length + (upTo g 4096).length := by
  unfold upTo
  refine filter_sum _ _ _ _ _ (fun x => ?_) (fun x => ?_)
  · simp [hu x.val x.isLt]
  · simp [hv x.val x.isLt]

set_option maxHeartbeats 4000000 in
set_option maxRecDepth 20000 in
theorem walk (ao : Option Addr) (xs : List (Int × Int)) (cap : Nat) (bo : Option Addr) (ys : List (Int × Int)) (cap' : Nat) (w : World) (hx : Spans w ao xs) (hf : Fits xs) (hn : ao = none → xs = [] ∧ cap = 0)
    (hy : Spans w bo ys) (hg : Fits ys) (hn' : bo = none → ys = [] ∧ cap' = 0) :
    Calls Try.prog 7 #[.slice ao xs.length cap, .slice bo ys.length cap'] w fun e w' => e = .returned (.bool true) ∧ Below w.heap.size w w' := by
  have Hx := Lib.hid hx
  have Hf := Lib.hid hf
  have Hy := Lib.hid hy
  have Hg := Lib.hid hg
  have Hn := Lib.hid hn
  have Hn' := Lib.hid hn'
  clear hx hf hy hg hn hn'
  go_enter Try.func7, Try.ntmps7
  go_wp2_with fail
  refine (alive_any w).mono ?_
  rintro e w1 ⟨rfl, hbn⟩
  have b0 := Lib.hid hbn
  clear hbn
  go_wp2_with fail
  refine (Right_any ao cap xs w1 (Hx.out.below b0.out) Hf.out).mono ?_
  rintro e w2 ⟨rfl, hbn⟩
  have b0 := Lib.hid (b0.out.trans (hbn.mono b0.out.size))
  have b1 := Lib.hid hbn
  clear hbn
  cases hR : rightFrom 0 xs
  · go_wp2
    go_ret
    exact ⟨rfl, b0.out⟩
  have Rx := Lib.hid hR
  clear hR
  go_wp2_with fail
  refine (Right_any bo cap' ys w2 (Hy.out.below b0.out) Hg.out).mono ?_
  rintro e w3 ⟨rfl, hbn⟩
  have b0 := Lib.hid (b0.out.trans (hbn.mono b0.out.size))
  have b1 := Lib.hid (b1.out.trans (hbn.mono b1.out.size))
  have b2 := Lib.hid hbn
  clear hbn
  cases hR : rightFrom 0 ys
  · go_wp2
    go_ret
    exact ⟨rfl, b0.out⟩
  have Ry := Lib.hid hR
  clear hR
  go_wp2_with fail
  refine (Join_set ao bo cap cap' xs ys w3 (Hx.out.below b0.out) Rx.out (Hy.out.below b0.out) Ry.out).mono ?_
  rintro e w4 ⟨co1, cc1, L1, rfl, hs, hL1, hbn⟩
  have b0 := Lib.hid (b0.out.trans (hbn.mono b0.out.size))
  have b1 := Lib.hid (b1.out.trans (hbn.mono b1.out.size))
  have b2 := Lib.hid (b2.out.trans (hbn.mono b2.out.size))
  have b3 := Lib.hid hbn
  clear hbn
  have hs1 := Lib.hid hs
  clear hs
  go_wp2_with fail
  refine (Cut_set ao bo cap cap' xs ys w4 (Hx.out.below b0.out) Rx.out (Hy.out.below b0.out) Ry.out).mono ?_
  rintro e w5 ⟨co2, cc2, L2, rfl, hs, hL2, hbn⟩
  have b0 := Lib.hid (b0.out.trans (hbn.mono b0.out.size))
  have b1 := Lib.hid (b1.out.trans (hbn.mono b1.out.size))
  have b2 := Lib.hid (b2.out.trans (hbn.mono b2.out.size))
  have b3 := Lib.hid (b3.out.trans (hbn.mono b3.out.size))
  have b4 := Lib.hid hbn
  clear hbn
  have hs2 := Lib.hid hs
  clear hs
  go_wp2_with fail
  refine (Both_set ao bo cap cap' xs ys w5 (Hx.out.below b0.out) Rx.out (Hy.out.below b0.out) Ry.out).mono ?_
  rintro e w6 ⟨co3, cc3, L3, rfl, hs, hL3, hbn⟩
  have b0 := Lib.hid (b0.out.trans (hbn.mono b0.out.size))
  have b1 := Lib.hid (b1.out.trans (hbn.mono b1.out.size))
  have b2 := Lib.hid (b2.out.trans (hbn.mono b2.out.size))
  have b3 := Lib.hid (b3.out.trans (hbn.mono b3.out.size))
  have b4 := Lib.hid (b4.out.trans (hbn.mono b4.out.size))
  have b5 := Lib.hid hbn
  clear hbn
  have hs3 := Lib.hid hs
  clear hs
  have hfi : Fits L1 := hL1.out.fits
  go_wp2_with fail
  refine (Right_any co1 cc1 L1 w6 (hs1.out.below b4.out) hfi).mono ?_
  rintro e w7 ⟨rfl, hbn⟩
  rw [hL1.out.1]
  clear hfi
  have b0 := Lib.hid (b0.out.trans (hbn.mono b0.out.size))
  have b1 := Lib.hid (b1.out.trans (hbn.mono b1.out.size))
  have b2 := Lib.hid (b2.out.trans (hbn.mono b2.out.size))
  have b3 := Lib.hid (b3.out.trans (hbn.mono b3.out.size))
  have b4 := Lib.hid (b4.out.trans (hbn.mono b4.out.size))
  have b5 := Lib.hid (b5.out.trans (hbn.mono b5.out.size))
  have b6 := Lib.hid hbn
  clear hbn
  have hfi : Fits L2 := hL2.out.fits
  go_wp2_with fail
  refine (Right_any co2 cc2 L2 w7 (hs2.out.below b5.out) hfi).mono ?_
  rintro e w8 ⟨rfl, hbn⟩
  rw [hL2.out.1]
  clear hfi
  have b0 := Lib.hid (b0.out.trans (hbn.mono b0.out.size))
  have b1 := Lib.hid (b1.out.trans (hbn.mono b1.out.size))
  have b2 := Lib.hid (b2.out.trans (hbn.mono b2.out.size))
  have b3 := Lib.hid (b3.out.trans (hbn.mono b3.out.size))
  have b4 := Lib.hid (b4.out.trans (hbn.mono b4.out.size))
  have b5 := Lib.hid (b5.out.trans (hbn.mono b5.out.size))
  have b6 := Lib.hid (b6.out.trans (hbn.mono b6.out.size))
  have b7 := Lib.hid hbn
  clear hbn
  have hfi : Fits L3 := hL3.out.fits
  go_wp2_with fail
  refine (Right_any co3 cc3 L3 w8 (hs3.out.below b6.out) hfi).mono ?_
  rintro e w9 ⟨rfl, hbn⟩
  rw [hL3.out.1]
  clear hfi
  have b0 := Lib.hid (b0.out.trans (hbn.mono b0.out.size))
  have b1 := Lib.hid (b1.out.trans (hbn.mono b1.out.size))
  have b2 := Lib.hid (b2.out.trans (hbn.mono b2.out.size))
  have b3 := Lib.hid (b3.out.trans (hbn.mono b3.out.size))
  have b4 := Lib.hid (b4.out.trans (hbn.mono b4.out.size))
  have b5 := Lib.hid (b5.out.trans (hbn.mono b5.out.size))
  have b6 := Lib.hid (b6.out.trans (hbn.mono b6.out.size))
  have b7 := Lib.hid (b7.out.trans (hbn.mono b7.out.size))
  have b8 := Lib.hid hbn
  clear hbn
  have hfi : Fits L1 := hL1.out.fits
  go_wp2_with fail
  refine (Count_any co1 cc1 L1 w9 (hs1.out.below b4.out) hfi hL1.out.1).mono ?_
  rintro e w10 ⟨rfl, hbn⟩
  obtain ⟨n1, hn1⟩ : ∃ c, c = (upTo (maskS L1) 4096).length := ⟨_, rfl⟩
  rw [← hn1]
  have bn1 : n1 ≤ 4096 := by rw [hn1]; exact upTo_length _ _
  have Hn1 := Lib.hid hn1
  clear hfi hn1
  have b0 := Lib.hid (b0.out.trans (hbn.mono b0.out.size))
  have b1 := Lib.hid (b1.out.trans (hbn.mono b1.out.size))
  have b2 := Lib.hid (b2.out.trans (hbn.mono b2.out.size))
  have b3 := Lib.hid (b3.out.trans (hbn.mono b3.out.size))
  have b4 := Lib.hid (b4.out.trans (hbn.mono b4.out.size))
  have b5 := Lib.hid (b5.out.trans (hbn.mono b5.out.size))
  have b6 := Lib.hid (b6.out.trans (hbn.mono b6.out.size))
  have b7 := Lib.hid (b7.out.trans (hbn.mono b7.out.size))
  have b8 := Lib.hid (b8.out.trans (hbn.mono b8.out.size))
  have b9 := Lib.hid hbn
  clear hbn
  have hfi : Fits L3 := hL3.out.fits
  go_wp2_with fail
  refine (Count_any co3 cc3 L3 w10 (hs3.out.below b6.out) hfi hL3.out.1).mono ?_
  rintro e w11 ⟨rfl, hbn⟩
  obtain ⟨n3, hn3⟩ : ∃ c, c = (upTo (maskS L3) 4096).length := ⟨_, rfl⟩
  rw [← hn3]
  have bn3 : n3 ≤ 4096 := by rw [hn3]; exact upTo_length _ _
  have Hn3 := Lib.hid hn3
  clear hfi hn3
  have b0 := Lib.hid (b0.out.trans (hbn.mono b0.out.size))
  have b1 := Lib.hid (b1.out.trans (hbn.mono b1.out.size))
  have b2 := Lib.hid (b2.out.trans (hbn.mono b2.out.size))
  have b3 := Lib.hid (b3.out.trans (hbn.mono b3.out.size))
  have b4 := Lib.hid (b4.out.trans (hbn.mono b4.out.size))
  have b5 := Lib.hid (b5.out.trans (hbn.mono b5.out.size))
  have b6 := Lib.hid (b6.out.trans (hbn.mono b6.out.size))
  have b7 := Lib.hid (b7.out.trans (hbn.mono b7.out.size))
  have b8 := Lib.hid (b8.out.trans (hbn.mono b8.out.size))
  have b9 := Lib.hid (b9.out.trans (hbn.mono b9.out.size))
  have b10 := Lib.hid hbn
  clear hbn
  have hfi : Fits xs := Hf.out
  go_wp2_with fail
  refine (Count_any ao cap xs w11 (Hx.out.below b0.out) hfi Rx.out).mono ?_
  rintro e w12 ⟨rfl, hbn⟩
  obtain ⟨nx, hnx⟩ : ∃ c, c = (upTo (maskS xs) 4096).length := ⟨_, rfl⟩
  rw [← hnx]
  have bnx : nx ≤ 4096 := by rw [hnx]; exact upTo_length _ _
  have Hnx := Lib.hid hnx
  clear hfi hnx
  have b0 := Lib.hid (b0.out.trans (hbn.mono b0.out.size))
  have b1 := Lib.hid (b1.out.trans (hbn.mono b1.out.size))
  have b2 := Lib.hid (b2.out.trans (hbn.mono b2.out.size))
  have b3 := Lib.hid (b3.out.trans (hbn.mono b3.out.size))
  have b4 := Lib.hid (b4.out.trans (hbn.mono b4.out.size))
  have b5 := Lib.hid (b5.out.trans (hbn.mono b5.out.size))
  have b6 := Lib.hid (b6.out.trans (hbn.mono b6.out.size))
  have b7 := Lib.hid (b7.out.trans (hbn.mono b7.out.size))
  have b8 := Lib.hid (b8.out.trans (hbn.mono b8.out.size))
  have b9 := Lib.hid (b9.out.trans (hbn.mono b9.out.size))
  have b10 := Lib.hid (b10.out.trans (hbn.mono b10.out.size))
  have b11 := Lib.hid hbn
  clear hbn
  have hfi : Fits ys := Hg.out
  go_wp2_with fail
  refine (Count_any bo cap' ys w12 (Hy.out.below b0.out) hfi Ry.out).mono ?_
  rintro e w13 ⟨rfl, hbn⟩
  obtain ⟨ny, hny⟩ : ∃ c, c = (upTo (maskS ys) 4096).length := ⟨_, rfl⟩
  rw [← hny]
  have bny : ny ≤ 4096 := by rw [hny]; exact upTo_length _ _
  have Hny := Lib.hid hny
  clear hfi hny
  have b0 := Lib.hid (b0.out.trans (hbn.mono b0.out.size))
  have b1 := Lib.hid (b1.out.trans (hbn.mono b1.out.size))
  have b2 := Lib.hid (b2.out.trans (hbn.mono b2.out.size))
  have b3 := Lib.hid (b3.out.trans (hbn.mono b3.out.size))
  have b4 := Lib.hid (b4.out.trans (hbn.mono b4.out.size))
  have b5 := Lib.hid (b5.out.trans (hbn.mono b5.out.size))
  have b6 := Lib.hid (b6.out.trans (hbn.mono b6.out.size))
  have b7 := Lib.hid (b7.out.trans (hbn.mono b7.out.size))
  have b8 := Lib.hid (b8.out.trans (hbn.mono b8.out.size))
  have b9 := Lib.hid (b9.out.trans (hbn.mono b9.out.size))
  have b10 := Lib.hid (b10.out.trans (hbn.mono b10.out.size))
  have b11 := Lib.hid (b11.out.trans (hbn.mono b11.out.size))
  have b12 := Lib.hid hbn
  clear hbn
  have hsum : n1 + n3 = nx + ny := by
    rw [Hn1.out, Hn3.out, Hnx.out, Hny.out]
    exact count_sum (fun j hj => hL1.out.2 j hj) (fun j hj => hL3.out.2 j hj)
  have hne : ((n1 : Int) + (n3 : Int) != (nx : Int) + (ny : Int)) = false := by simp; omega
  clear hsum
  go_wp2_with fail
  refine (Join_set co2 co3 cc2 cc3 L2 L3 w13 (hs2.out.below b5.out) hL2.out.1 (hs3.out.below b6.out) hL3.out.1).mono ?_
  rintro e w14 ⟨co4, cc4, L4, rfl, hs, hL4, hbn⟩
  have b0 := Lib.hid (b0.out.trans (hbn.mono b0.out.size))
  have b1 := Lib.hid (b1.out.trans (hbn.mono b1.out.size))
  have b2 := Lib.hid (b2.out.trans (hbn.mono b2.out.size))
  have b3 := Lib.hid (b3.out.trans (hbn.mono b3.out.size))
  have b4 := Lib.hid (b4.out.trans (hbn.mono b4.out.size))
  have b5 := Lib.hid (b5.out.trans (hbn.mono b5.out.size))
  have b6 := Lib.hid (b6.out.trans (hbn.mono b6.out.size))
  have b7 := Lib.hid (b7.out.trans (hbn.mono b7.out.size))
  have b8 := Lib.hid (b8.out.trans (hbn.mono b8.out.size))
  have b9 := Lib.hid (b9.out.trans (hbn.mono b9.out.size))
  have b10 := Lib.hid (b10.out.trans (hbn.mono b10.out.size))
  have b11 := Lib.hid (b11.out.trans (hbn.mono b11.out.size))
  have b12 := Lib.hid (b12.out.trans (hbn.mono b12.out.size))
  have b13 := Lib.hid hbn
  clear hbn
  have hs4 := Lib.hid hs
  clear hs
  have hsame : Hid (L4 = xs) := Lib.hid (right_of_masks hL4.out.1 Rx.out fun j hj => by
    simp only [hL4.out.2 j hj, hL2.out.2 j hj, hL3.out.2 j hj]
    cases maskS xs j <;> cases maskS ys j <;> rfl)
  have hfa : Fits L4 := hL4.out.fits
  have hfb : Fits xs := Hf.out
  go_wp2_with fail
  refine (Same_any co4 ao cc4 cap L4 xs w14 hs4.out (Hx.out.below b0.out) hfa hfb).mono ?_
  rintro e w15 ⟨rfl, hbn⟩
  rw [decide_eq_true hsame.out]
  clear hsame hfa hfb
  have b0 := Lib.hid (b0.out.trans (hbn.mono b0.out.size))
  have b1 := Lib.hid (b1.out.trans (hbn.mono b1.out.size))
  have b2 := Lib.hid (b2.out.trans (hbn.mono b2.out.size))
  have b3 := Lib.hid (b3.out.trans (hbn.mono b3.out.size))
  have b4 := Lib.hid (b4.out.trans (hbn.mono b4.out.size))
  have b5 := Lib.hid (b5.out.trans (hbn.mono b5.out.size))
  have b6 := Lib.hid (b6.out.trans (hbn.mono b6.out.size))
  have b7 := Lib.hid (b7.out.trans (hbn.mono b7.out.size))
  have b8 := Lib.hid (b8.out.trans (hbn.mono b8.out.size))
  have b9 := Lib.hid (b9.out.trans (hbn.mono b9.out.size))
  have b10 := Lib.hid (b10.out.trans (hbn.mono b10.out.size))
  have b11 := Lib.hid (b11.out.trans (hbn.mono b11.out.size))
  have b12 := Lib.hid (b12.out.trans (hbn.mono b12.out.size))
  have b13 := Lib.hid (b13.out.trans (hbn.mono b13.out.size))
  have b14 := Lib.hid hbn
  clear hbn
  go_wp2_with fail
  refine (Join_set co2 bo cc2 cap' L2 ys w15 (hs2.out.below b5.out) hL2.out.1 (Hy.out.below b0.out) Ry.out).mono ?_
  rintro e w16 ⟨co5, cc5, L5, rfl, hs, hL5, hbn⟩
  have b0 := Lib.hid (b0.out.trans (hbn.mono b0.out.size))
  have b1 := Lib.hid (b1.out.trans (hbn.mono b1.out.size))
  have b2 := Lib.hid (b2.out.trans (hbn.mono b2.out.size))
  have b3 := Lib.hid (b3.out.trans (hbn.mono b3.out.size))
  have b4 := Lib.hid (b4.out.trans (hbn.mono b4.out.size))
  have b5 := Lib.hid (b5.out.trans (hbn.mono b5.out.size))
  have b6 := Lib.hid (b6.out.trans (hbn.mono b6.out.size))
  have b7 := Lib.hid (b7.out.trans (hbn.mono b7.out.size))
  have b8 := Lib.hid (b8.out.trans (hbn.mono b8.out.size))
  have b9 := Lib.hid (b9.out.trans (hbn.mono b9.out.size))
  have b10 := Lib.hid (b10.out.trans (hbn.mono b10.out.size))
  have b11 := Lib.hid (b11.out.trans (hbn.mono b11.out.size))
  have b12 := Lib.hid (b12.out.trans (hbn.mono b12.out.size))
  have b13 := Lib.hid (b13.out.trans (hbn.mono b13.out.size))
  have b14 := Lib.hid (b14.out.trans (hbn.mono b14.out.size))
  have b15 := Lib.hid hbn
  clear hbn
  have hs5 := Lib.hid hs
  clear hs
  have hsame : Hid (L5 = L1) := Lib.hid (right_of_masks hL5.out.1 hL1.out.1 fun j hj => by
    simp only [hL5.out.2 j hj, hL2.out.2 j hj, hL1.out.2 j hj]
    cases maskS xs j <;> cases maskS ys j <;> rfl)
  have hfa : Fits L5 := hL5.out.fits
  have hfb : Fits L1 := hL1.out.fits
  go_wp2_with fail
  refine (Same_any co5 co1 cc5 cc1 L5 L1 w16 hs5.out (hs1.out.below b4.out) hfa hfb).mono ?_
  rintro e w17 ⟨rfl, hbn⟩
  rw [decide_eq_true hsame.out]
  clear hsame hfa hfb
  have b0 := Lib.hid (b0.out.trans (hbn.mono b0.out.size))
  have b1 := Lib.hid (b1.out.trans (hbn.mono b1.out.size))
  have b2 := Lib.hid (b2.out.trans (hbn.mono b2.out.size))
  have b3 := Lib.hid (b3.out.trans (hbn.mono b3.out.size))
  have b4 := Lib.hid (b4.out.trans (hbn.mono b4.out.size))
  have b5 := Lib.hid (b5.out.trans (hbn.mono b5.out.size))
  have b6 := Lib.hid (b6.out.trans (hbn.mono b6.out.size))
  have b7 := Lib.hid (b7.out.trans (hbn.mono b7.out.size))
  have b8 := Lib.hid (b8.out.trans (hbn.mono b8.out.size))
  have b9 := Lib.hid (b9.out.trans (hbn.mono b9.out.size))
  have b10 := Lib.hid (b10.out.trans (hbn.mono b10.out.size))
  have b11 := Lib.hid (b11.out.trans (hbn.mono b11.out.size))
  have b12 := Lib.hid (b12.out.trans (hbn.mono b12.out.size))
  have b13 := Lib.hid (b13.out.trans (hbn.mono b13.out.size))
  have b14 := Lib.hid (b14.out.trans (hbn.mono b14.out.size))
  have b15 := Lib.hid (b15.out.trans (hbn.mono b15.out.size))
  have b16 := Lib.hid hbn
  clear hbn
  go_wp2_with fail
  refine (Both_set co2 bo cc2 cap' L2 ys w17 (hs2.out.below b5.out) hL2.out.1 (Hy.out.below b0.out) Ry.out).mono ?_
  rintro e w18 ⟨co6, cc6, L6, rfl, hs, hL6, hbn⟩
  have b0 := Lib.hid (b0.out.trans (hbn.mono b0.out.size))
  have b1 := Lib.hid (b1.out.trans (hbn.mono b1.out.size))
  have b2 := Lib.hid (b2.out.trans (hbn.mono b2.out.size))
  have b3 := Lib.hid (b3.out.trans (hbn.mono b3.out.size))
  have b4 := Lib.hid (b4.out.trans (hbn.mono b4.out.size))
  have b5 := Lib.hid (b5.out.trans (hbn.mono b5.out.size))
  have b6 := Lib.hid (b6.out.trans (hbn.mono b6.out.size))
  have b7 := Lib.hid (b7.out.trans (hbn.mono b7.out.size))
  have b8 := Lib.hid (b8.out.trans (hbn.mono b8.out.size))
  have b9 := Lib.hid (b9.out.trans (hbn.mono b9.out.size))
  have b10 := Lib.hid (b10.out.trans (hbn.mono b10.out.size))
  have b11 := Lib.hid (b11.out.trans (hbn.mono b11.out.size))
  have b12 := Lib.hid (b12.out.trans (hbn.mono b12.out.size))
  have b13 := Lib.hid (b13.out.trans (hbn.mono b13.out.size))
  have b14 := Lib.hid (b14.out.trans (hbn.mono b14.out.size))
  have b15 := Lib.hid (b15.out.trans (hbn.mono b15.out.size))
  have b16 := Lib.hid (b16.out.trans (hbn.mono b16.out.size))
  have b17 := Lib.hid hbn
  clear hbn
  have hs6 := Lib.hid hs
  clear hs
  have h6 : L6 = [] := right_of_masks hL6.out.1 rfl fun j hj => by
    simp only [hL6.out.2 j hj, hL2.out.2 j hj]
    cases maskS xs j <;> cases maskS ys j <;> rfl
  subst h6
  go_wp2
  go_ret
  exact ⟨rfl, b0.out⟩
theorem own : ownKnob Try.prog.godebug = none := by kernel_rfl
theorem laidOut : laidOutB Try.prog = true := by kernel_rfl

set_option maxRecDepth 100000 in
theorem lifted (os : Os) (started : os.Started) (H : Type) (enc : TypeId × Value → H) :
    ReturnsInHanded {} Try.checked os 7 .any (Rows.spanAddsSpec.pre6 enc Try.prog Try.f7 Rows.spanAddsRow.domain false) (Rows.spanAddsSpec.post enc Try.prog Try.f7 false true false false) := by
  refine returnsInHanded_of_change_sized (C := Try.checked) own started (by kernel_rfl) Try.func7
    (ChangeSpec.witness6 (enc := enc) (C := Try.checked) false ⟨#[], #[.slice none 0 0, .slice none 0 0], []⟩ 8 (by kernel_rfl) (by kernel_rfl) (by kernel_rfl) (by kernel_rfl)) ?_
  intro W base args ds gs before hval0 hW hcnd hsz0 _
  have hval : ∀ (j : Nat) t v, Try.f7.params[j]? = some t → args[j]? = some v → Value.okWide Try.prog W .any base t v := hval0
  have hsz : (DataW.weightsEach Try.prog (Try.f7.params.toList ++ Rows.spanAddsSpec.plain.varTypes Try.prog) (ds ++ gs)).all (· ≤ reachBytes) = true := hsz0
  have hW' := hW
  obtain ⟨p, q, hA0, hV, rfl, hfz, hnd⟩ := hW
  have hA : DataW.TrodAll enc Try.prog W 0 (fun _ => true) true Try.f7.params.toList args.toList ds p := hA0
  rw [Try.params7] at hA hval hsz
  obtain ⟨v0, vs0, d0, ds0, p0, q0, hargs, rfl, rfl, h0, r0⟩ := trodAll_cons hA
  obtain ⟨v1, vs1, d1, ds1, p1, q1, rfl, rfl, rfl, h1, r1⟩ := trodAll_cons r0
  obtain ⟨rfl, rfl, rfl⟩ := trodAll_nil r1
  obtain rfl : args = #[v0, v1] := by cases args; simp_all
  obtain ⟨rfl, rfl⟩ := trodVars_none hV
  have k0 := h0
  have lt0 : ∀ x ∈ p0, x.block < W.heap.size := by obtain ⟨m, hm⟩ := k0; exact DataW.trod_lt m _ _ _ hm
  obtain ⟨ao0, a0, cap0, rfl, sp0, fi0, nl0⟩ := arg_spans h0 (hval 0 27 v0 rfl rfl) (fun es sp e => sized_slice hsz (j := 0) (t := 27) (e := 34) rfl (by rw [e]; rfl) Try.underlying27)
  have k1 := h1
  have lt1 : ∀ x ∈ p1, x.block < W.heap.size := by obtain ⟨m, hm⟩ := k1; exact DataW.trod_lt m _ _ _ hm
  obtain ⟨ao1, a1, cap1, rfl, sp1, fi1, nl1⟩ := arg_spans h1 (hval 1 27 v1 rfl rfl) (fun es sp e => sized_slice hsz (j := 1) (t := 27) (e := 34) rfl (by rw [e]; rfl) Try.underlying27)
  clear hA0 hval0 hsz0
  refine (walk ao0 a0 cap0 ao1 a1 cap1 W sp0 fi0 nl0 sp1 fi1 nl1).mono fun e W' ⟨he, bel⟩ => ?_
  subst he
  exact ⟨_, rfl, _, _, _, [], _, [], hW', trodAll_mk1 (shut_bool Try.underlying4 _), (trodAll_cons_mk (Below.trod laidOut (by kernel_rfl) (of_decide_eq_true (by kernel_rfl)) k0 bel lt0) (trodAll_cons_mk (Below.trod laidOut (by kernel_rfl) (of_decide_eq_true (by kernel_rfl)) k1 bel lt1) trodAll_mk0)), rfl, bel.frame _, fun h => by cases h⟩

theorem proved : Rows.SpanAddsSaid :=
  OpenClaim.holds_of_wide 7 Try.f7 rfl rfl rfl rfl rfl rfl rfl ⟨rfl, rfl, rfl, rfl, rfl⟩ rfl rfl rfl rfl rfl (by kernel_rfl) Try.func7 (by kernel_rfl)
    (of_decide_eq_true (by kernel_rfl)) (by unfold Func.isWrapper; first | (rw [if_pos (by decide +kernel)]; kernel_rfl) | (rw [if_neg (by decide +kernel)]; exact ⟨rfl, rfl⟩))
    (fun os started H enc _ => lifted os started H enc)
end Go.Proofs.Ytnfcjdfjbabldaa.lawSpanAdds
