/- SpanBack, for every input: the law returns true and each argument reads behind the call as before. No condition. -/
import Derived.Test.YtnfcjdfjbabldaaSpanR
namespace Go.Proofs.Ytnfcjdfjbabldaa.lawSpanBack
open Go.ChangeShapes Go.WideShapes Go.ChangeAt Go.RowKit Go.Deep
set_option linter.unusedVariables false

theorem numsL_mem {xs : List (Int × Int)} (hg : Good xs) (z : Int) : z ∈ numsL (maskS xs) 4096 ↔ hasL xs z = true := by
  unfold numsL
  simp only [List.mem_map, List.mem_filter, List.mem_range]
  constructor
  · rintro ⟨i, ⟨_, h⟩, rfl⟩
    exact h
  · intro h
    obtain ⟨h0, h1⟩ := hasL_range hg h
    obtain ⟨m, rfl⟩ := Int.eq_ofNat_of_zero_le h0
    exact ⟨m, ⟨by omega, h⟩, rfl⟩

theorem numsL_rise (f : Nat → Bool) : (numsL f 4096).Pairwise (· < ·) := by
  unfold numsL
  rw [List.pairwise_map]
  refine List.Pairwise.imp ?_ (List.Pairwise.filter _ List.pairwise_lt_range)
  intro a b h
  simp only [Int.ofNat_eq_natCast]
  omega

theorem mask_numsL {xs : List (Int × Int)} (hr : rightFrom 0 xs = true) : runs (maskOf (numsL (maskS xs) 4096)) 4096 = xs := by
  rw [← runs_of_right hr]
  refine runs_eq fun j hj => ?_
  rw [runs_of_right hr, Bool.eq_iff_iff]
  simp only [maskOf, decide_eq_true_eq]
  rw [numsL_mem (right_good hr)]
  rfl

set_option maxHeartbeats 4000000 in
set_option maxRecDepth 20000 in
theorem walk (ao : Option Addr) (xs : List (Int × Int)) (cap : Nat) (n : Int) (w : World) (hx : Spans w ao xs) (hf : Fits xs) (hn : ao = none → xs = [] ∧ cap = 0) (h1 : I64 n) :
    Calls Try.prog 8 #[.slice ao xs.length cap, .int .i64 n] w fun e w' => e = .returned (.bool true) ∧ Below w.heap.size w w' := by
  obtain ⟨n1, n2⟩ := h1
  have hl := hf.2
  have Hx := Lib.hid hx
  have Hf := Lib.hid hf
  clear hx hf hn
  go_enter Try.func8, Try.ntmps8
  go_wp2_with fail
  refine (alive_any w).mono ?_
  rintro e w1 ⟨rfl, hbn⟩
  have b0 := Lib.hid hbn
  clear hbn
  go_wp2_with fail
  refine (Right_any ao cap xs w1 (Hx.out.below b0.out) Hf.out).mono ?_
  rintro e w2 ⟨rfl, hbn⟩
  have b0 := Lib.hid (b0.out.trans (hbn.mono b0.out.size))
  have b1 := Lib.hid hbn
  clear hbn
  cases hR : rightFrom 0 xs
  · go_wp2
    go_ret
    exact ⟨rfl, b0.out⟩
  have Rx := Lib.hid hR
  clear hR
  go_wp2_with fail
  refine (List_any ao cap xs w2 (Hx.out.below b0.out) Hf.out Rx.out).mono ?_
  rintro e w3 ⟨v, rfl, ho, hbn⟩
  have b0 := Lib.hid (b0.out.trans (hbn.mono b0.out.size))
  have b1 := Lib.hid (b1.out.trans (hbn.mono b1.out.size))
  have b2 := Lib.hid hbn
  clear hbn
  obtain ⟨co, cc, rfl, hs⟩ := ho.nums
  obtain ⟨N, hN⟩ : ∃ N, N = numsL (maskS xs) 4096 := ⟨_, rfl⟩
  rw [← hN] at hs ⊢
  have hmem : ∀ z, z ∈ N ↔ hasL xs z = true := fun z => by rw [hN]; exact numsL_mem (right_good Rx.out) z
  have hrise : N.Pairwise (· < ·) := by rw [hN]; exact numsL_rise _
  have hNf : FitsI N := by rw [hN]; exact numsL_map _ _ (Nat.le_refl _)
  have hNx : runs (maskOf N) 4096 = xs := by rw [hN]; exact mask_numsL Rx.out
  have hNl : N.length ≤ 4096 := by rw [hN]; exact numsL_length _ _
  have HN := Lib.hid hN
  have Hmem := Lib.hid hmem
  have Hrise := Lib.hid hrise
  have HNf := Lib.hid hNf
  have HNx := Lib.hid hNx
  have hs3 := Lib.hid hs
  clear hN ho hs hmem hrise hNf hNx
  go_wp2
  go_loopw [6, 18] (fun b i wr => ∃ k : Nat, k ≤ N.length ∧ i = .int .i64 k ∧ b = .bool (decide (n ∈ N.take k)) ∧ Below w3.heap.size w3 wr)
    (fun _ i _ => N.length - (intOf i).toNat)
  case atStart => exact ⟨0, by omega, rfl, by simp, Below.refl _ _⟩
  case round =>
    obtain ⟨k, hk, rfl, rfl, hb⟩ := hrel
    have hb := Lib.hid hb
    by_cases hlt : k < N.length
    · obtain ⟨b, off, z, rfl, hd, ht, c1, hbb, z1, z2⟩ := (hs3.out.below hb.out).get HNf.out hlt
      have hz : Hid (hasL xs z = true) := Lib.hid ((Hmem.out z).1 (by
        have : z ∈ N.drop k := by rw [hd.out]; exact List.mem_cons_self
        exact List.mem_of_mem_drop this))
      have hin : Hid (decide (n ∈ N.take (k + 1)) = (decide (n ∈ N.take k) || (z == n))) := Lib.hid (by
        rw [ht.out, Bool.eq_iff_iff]; simp; exact or_congr_right eq_comm)
      have hprev : Hid (0 < k → ∃ z', wr.cell? ⟨b, off + (k - 1), none⟩ = some (.int .i64 z') ∧ -9223372036854775808 ≤ z' ∧ z' ≤ 9223372036854775807 ∧ z' < z) := Lib.hid (fun h0 => by
        obtain ⟨b', off', z', e', hd', _, c', _, y1, y2⟩ := (hs3.out.below hb.out).get HNf.out (k := k - 1) (by omega)
        cases e'
        refine ⟨z', c', y1, y2, ?_⟩
        have h1 := hd'.out
        rw [show k - 1 + 1 = k from by omega, hd.out] at h1
        have h2 : (N.drop (k - 1)).Pairwise (· < ·) := List.Pairwise.sublist (List.drop_sublist _ _) Hrise.out
        rw [h1] at h2
        exact (List.pairwise_cons.1 h2).1 z List.mem_cons_self)
      generalize hbin : decide (n ∈ N.take k) = bin at hin ⊢
      have hbin := Lib.hid hbin
      have hin2 := Lib.hid hin.out
      by_cases hk0 : k = 0
      · subst hk0
        simp only [Nat.add_zero] at c1
        cases bin <;> cases hzn : (z == n)
        all_goals
          go_wp2_with fail
          refine (Has_any _ cap xs z wr (Hx.out.below (b0.out.trans (hb.out.mono b0.out.size))) Hf.out Rx.out).mono ?_
          rintro e wq ⟨rfl, hbq⟩
          rw [hz.out]
          have hbq := Lib.hid (hb.out.trans (hbq.mono hb.out.size))
          go_wp2
          go_roundw
          case rel => exact ⟨1, by omega, by go_num, by rw [hin2.out, hzn]; rfl, hbq.out⟩
          case measure => simp [intOf] <;> omega
      · obtain ⟨z', c', y1, y2, y3⟩ := hprev.out (by omega)
        have hk1 : 0 < k := by omega
        clear hk0
        cases bin <;> cases hzn : (z == n)
        all_goals
          go_wp2_with fail
          refine (Has_any _ cap xs z wr (Hx.out.below (b0.out.trans (hb.out.mono b0.out.size))) Hf.out Rx.out).mono ?_
          rintro e wq ⟨rfl, hbq⟩
          rw [hz.out]
          have c2 := (hbq.cell (cell_lt c')).trans c'
          have hbq := Lib.hid (hb.out.trans (hbq.mono hb.out.size))
          go_wp2
          go_roundw
          case rel => exact ⟨k + 1, by omega, by go_num, by rw [hin2.out, hzn]; rfl, hbq.out⟩
          case measure => simp [intOf] <;> omega
    · have hkN : k = N.length := by omega
      have hdec : decide (n ∈ N.take k) = hasL xs n := by
        rw [hkN, List.take_length, Bool.eq_iff_iff, decide_eq_true_eq]
        exact Hmem.out n
      rw [hdec]
      clear hkN hdec
      have hb0 := Lib.hid (b0.out.trans (hb.out.mono b0.out.size))
      go_wp2_with fail
      refine (Has_any ao cap xs n wr (Hx.out.below hb0.out) Hf.out Rx.out).mono ?_
      rintro e wq ⟨rfl, hbq⟩
      have hsq := Lib.hid (hs3.out.below (hb.out.trans (hbq.mono hb.out.size)))
      have hbq := Lib.hid (hb0.out.trans (hbq.mono hb0.out.size))
      cases hH : hasL xs n
      all_goals
        have hH := Lib.hid hH
        go_wp2_with fail
        refine (Of_any co cc N wq hsq.out HNf.out).mono ?_
        rintro e wo ⟨v, rfl, ho, hbo⟩
        rw [HNx.out] at ho
        obtain ⟨co5, cc5, rfl, hs5⟩ := ho.spans
        have hs5 := Lib.hid hs5
        have hbo := Lib.hid (hbq.out.trans (hbo.mono hbq.out.size))
        clear ho
        go_wp2_with fail
        refine (Same_any co5 ao cc5 cap xs xs wo hs5.out (Hx.out.below hbo.out) Hf.out Hf.out).mono ?_
        rintro e wz ⟨rfl, hbz⟩
        rw [decide_eq_true (rfl : xs = xs)]
        have hbz := Lib.hid (hbo.out.trans (hbz.mono hbo.out.size))
        go_wp2
        go_ret
        exact ⟨rfl, hbz.out⟩
theorem own : ownKnob Try.prog.godebug = none := by kernel_rfl
theorem laidOut : laidOutB Try.prog = true := by kernel_rfl

set_option maxRecDepth 100000 in
theorem lifted (os : Os) (started : os.Started) (H : Type) (enc : TypeId × Value → H) :
    ReturnsInHanded {} Try.checked os 8 .any (Rows.spanBackSpec.pre6 enc Try.prog Try.f8 Rows.spanBackRow.domain false) (Rows.spanBackSpec.post enc Try.prog Try.f8 false true false false) := by
  refine returnsInHanded_of_change_sized (C := Try.checked) own started (by kernel_rfl) Try.func8
    (ChangeSpec.witness6 (enc := enc) (C := Try.checked) false ⟨#[], #[.slice none 0 0, .int .i64 0], []⟩ 8 (by kernel_rfl) (by kernel_rfl) (by kernel_rfl) (by kernel_rfl)) ?_
  intro W base args ds gs before hval0 hW hcnd hsz0 _
  have hval : ∀ (j : Nat) t v, Try.f8.params[j]? = some t → args[j]? = some v → Value.okWide Try.prog W .any base t v := hval0
  have hsz : (DataW.weightsEach Try.prog (Try.f8.params.toList ++ Rows.spanBackSpec.plain.varTypes Try.prog) (ds ++ gs)).all (· ≤ reachBytes) = true := hsz0
  have hW' := hW
  obtain ⟨p, q, hA0, hV, rfl, hfz, hnd⟩ := hW
  have hA : DataW.TrodAll enc Try.prog W 0 (fun _ => true) true Try.f8.params.toList args.toList ds p := hA0
  rw [Try.params8] at hA hval hsz
  obtain ⟨v0, vs0, d0, ds0, p0, q0, hargs, rfl, rfl, h0, r0⟩ := trodAll_cons hA
  obtain ⟨v1, vs1, d1, ds1, p1, q1, rfl, rfl, rfl, h1, r1⟩ := trodAll_cons r0
  obtain ⟨rfl, rfl, rfl⟩ := trodAll_nil r1
  obtain rfl : args = #[v0, v1] := by cases args; simp_all
  obtain ⟨rfl, rfl⟩ := trodVars_none hV
  have k0 := h0
  have lt0 : ∀ x ∈ p0, x.block < W.heap.size := by obtain ⟨m, hm⟩ := k0; exact DataW.trod_lt m _ _ _ hm
  obtain ⟨ao0, a0, cap0, rfl, sp0, fi0, nl0⟩ := arg_spans h0 (hval 0 27 v0 rfl rfl) (fun es sp e => sized_slice hsz (j := 0) (t := 27) (e := 34) rfl (by rw [e]; rfl) Try.underlying27)
  obtain ⟨a1, rfl, rfl, rfl, wf1⟩ := open_int Try.underlying3 (hval 1 3 v1 rfl rfl) h1
  clear hA0 hval0 hsz0
  refine (walk ao0 a0 cap0 a1 W sp0 fi0 nl0 (wf_i64 wf1)).mono fun e W' ⟨he, bel⟩ => ?_
  subst he
  exact ⟨_, rfl, _, _, _, [], _, [], hW', trodAll_mk1 (shut_bool Try.underlying4 _), (trodAll_cons_mk (Below.trod laidOut (by kernel_rfl) (of_decide_eq_true (by kernel_rfl)) k0 bel lt0) (trodAll_cons_mk (shut_int Try.underlying3 wf1) trodAll_mk0)), rfl, bel.frame _, fun h => by cases h⟩

theorem proved : Rows.SpanBackSaid :=
  OpenClaim.holds_of_wide 8 Try.f8 rfl rfl rfl rfl rfl rfl rfl ⟨rfl, rfl, rfl, rfl, rfl⟩ rfl rfl rfl rfl rfl (by kernel_rfl) Try.func8 (by kernel_rfl)
    (of_decide_eq_true (by kernel_rfl)) (by unfold Func.isWrapper; first | (rw [if_pos (by decide +kernel)]; kernel_rfl) | (rw [if_neg (by decide +kernel)]; exact ⟨rfl, rfl⟩))
    (fun os started H enc _ => lifted os started H enc)
end Go.Proofs.Ytnfcjdfjbabldaa.lawSpanBack
