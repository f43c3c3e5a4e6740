/- FieldWide, for every input: the law returns true and each argument reads behind the call as before. No condition. -/
import Derived.Test.YtiaihhgafnageaaFieldM
namespace Go.Proofs.Ytiaihhgafnageaa.lawFieldWide
open Go.ChangeShapes Go.WideShapes Go.ChangeAt Go.RowKit Go.Deep
set_option linter.unusedVariables false

theorem eq_lens {a b : List UInt8} (h : a = b) : ((strOf a).toList == (strOf b).toList) = true := by subst h; simp

set_option maxHeartbeats 4000000 in
theorem way_no (ao : Option Addr) (ws : List Int) (cap : Nat) (bo : Option Addr) (us : List Nat) (cap1 : Nat) (co : Option Addr) (bs : List Nat) (cap2 : Nat) (w : World) (hx1 : Hid (Ints w ao ws)) (hf1 : Hid (I64s ws))
    (hy1 : Hid (U64s w bo us)) (hg1 : Hid (Fit64 us)) (hz1 : Hid (U64s w co bs)) (hh1 : Hid (Fit64 bs)) (hno : Hid (putL ws us = none ∨ putL ws bs = none)) :
    Calls Try.prog 9 #[.slice ao ws.length cap, .slice bo us.length cap1, .slice co bs.length cap2] w fun e w' => e = .returned (.bool true) ∧ Below w.heap.size w w' := by
  cases hA : putL ws us with
  | none =>
    have hA1 := Lib.hid hA
    clear hA hno
    cases hB : putL ws bs with
    | none =>
      have hB1 := Lib.hid hB
      clear hB
      go_enter Try.func9, Try.ntmps9
      go_wp2_with fail
      refine (alive_any w).mono ?_
      rintro e w1 ⟨rfl, hb1⟩
      have hb1 := Lib.hid hb1
      go_wp2_with fail
      refine (Put_any ao bo cap cap1 ws us w1 (Reads.below hx1.out hb1.out) (Reads.below hy1.out hb1.out) hf1.out hg1.out).mono ?_
      intro e w2 hR
      obtain ⟨po, pc, rfl, hb2⟩ := hR.nope hA1.out
      clear hR
      have hb2 := Lib.hid (hb1.out.trans (hb2.mono hb1.out.size))
      go_wp2_with fail
      refine (Put_any ao co cap cap2 ws bs w2 (Reads.below hx1.out hb2.out) (Reads.below hz1.out hb2.out) hf1.out hh1.out).mono ?_
      intro e w3 hR
      obtain ⟨qo, qc, rfl, hb3⟩ := hR.nope hB1.out
      clear hR
      have hb3 := Lib.hid (hb2.out.trans (hb3.mono hb2.out.size))
      go_wp2
      go_ret
      exact ⟨rfl, hb3.out⟩
    | some y =>
      have hB1 := Lib.hid hB
      have hlen := (putL_length hB).1
      have he : ((ws.length : Int) == (bs.length : Int)) = true := by simp [hlen]
      have he' := Lib.hid hlen
      clear hB hlen
      go_enter Try.func9, Try.ntmps9
      go_wp2_with fail
      refine (alive_any w).mono ?_
      rintro e w1 ⟨rfl, hb1⟩
      have hb1 := Lib.hid hb1
      go_wp2_with fail
      refine (Put_any ao bo cap cap1 ws us w1 (Reads.below hx1.out hb1.out) (Reads.below hy1.out hb1.out) hf1.out hg1.out).mono ?_
      intro e w2 hR
      obtain ⟨po, pc, rfl, hb2⟩ := hR.nope hA1.out
      clear hR
      have hb2 := Lib.hid (hb1.out.trans (hb2.mono hb1.out.size))
      go_wp2_with fail
      refine (Put_any ao co cap cap2 ws bs w2 (Reads.below hx1.out hb2.out) (Reads.below hz1.out hb2.out) hf1.out hh1.out).mono ?_
      intro e w3 hR
      obtain ⟨qo, qc, rfl, hq, _, _, _, hb3⟩ := hR.yes hB1.out
      clear hR
      have hb3 := Lib.hid (hb2.out.trans (hb3.mono hb2.out.size))
      go_wp2
      go_ret
      exact ⟨rfl, hb3.out⟩
  | some x =>
    have hA1 := Lib.hid hA
    have hlen := (putL_length hA).1
    have he : ((ws.length : Int) == (us.length : Int)) = true := by simp [hlen]
    have he' := Lib.hid hlen
    have hB1 : Hid (putL ws bs = none) := Lib.hid (by rcases hno.out with h | h; · rw [hA] at h; cases h
                                                      · exact h)
    clear hA hlen hno
    go_enter Try.func9, Try.ntmps9
    go_wp2_with fail
    refine (alive_any w).mono ?_
    rintro e w1 ⟨rfl, hb1⟩
    have hb1 := Lib.hid hb1
    go_wp2_with fail
    refine (Put_any ao bo cap cap1 ws us w1 (Reads.below hx1.out hb1.out) (Reads.below hy1.out hb1.out) hf1.out hg1.out).mono ?_
    intro e w2 hR
    obtain ⟨po, pc, rfl, hp, _, _, _, hb2⟩ := hR.yes hA1.out
    clear hR
    have hb2 := Lib.hid (hb1.out.trans (hb2.mono hb1.out.size))
    go_wp2_with fail
    refine (Put_any ao co cap cap2 ws bs w2 (Reads.below hx1.out hb2.out) (Reads.below hz1.out hb2.out) hf1.out hh1.out).mono ?_
    intro e w3 hR
    obtain ⟨qo, qc, rfl, hb3⟩ := hR.nope hB1.out
    clear hR
    have hb3 := Lib.hid (hb2.out.trans (hb3.mono hb2.out.size))
    go_wp2
    go_ret
    exact ⟨rfl, hb3.out⟩

set_option maxHeartbeats 4000000 in
theorem way_yes (ao : Option Addr) (ws : List Int) (cap : Nat) (bo : Option Addr) (us : List Nat) (cap1 : Nat) (co : Option Addr) (bs : List Nat) (cap2 : Nat) (w : World) (hx1 : Hid (Ints w ao ws)) (hf1 : Hid (I64s ws))
    (hy1 : Hid (U64s w bo us)) (hg1 : Hid (Fit64 us)) (hz1 : Hid (U64s w co bs)) (hh1 : Hid (Fit64 bs)) (x y : List UInt8) (hA : Hid (putL ws us = some x)) (hB : Hid (putL ws bs = some y)) (s : Bool) (hs1 : Hid (decide (us = bs) = s)) (hs2 : ((strOf x).toList == (strOf y).toList) = s) :
    Calls Try.prog 9 #[.slice ao ws.length cap, .slice bo us.length cap1, .slice co bs.length cap2] w fun e w' => e = .returned (.bool true) ∧ Below w.heap.size w w' := by
  have hl := hf1.out.2
  have hxl := Lib.hid (putL_length hA.out).2.2
  have hyl := Lib.hid (putL_length hB.out).2.2
  have hok := Lib.hid (putL_length hA.out).2.1
  have hsl := sumW_le hok.out
  go_enter Try.func9, Try.ntmps9
  go_wp2_with fail
  refine (alive_any w).mono ?_
  rintro e w1 ⟨rfl, hb1⟩
  have hb1 := Lib.hid hb1
  go_wp2_with fail
  refine (Put_any ao bo cap cap1 ws us w1 (Reads.below hx1.out hb1.out) (Reads.below hy1.out hb1.out) hf1.out hg1.out).mono ?_
  intro e w2 hR
  obtain ⟨po, pc, rfl, hp, _, _, _, hb2⟩ := hR.yes hA.out
  clear hR
  have hb2 := Lib.hid (hb1.out.trans (hb2.mono hb1.out.size))
  go_wp2_with fail
  refine (Put_any ao co cap cap2 ws bs w2 (Reads.below hx1.out hb2.out) (Reads.below hz1.out hb2.out) hf1.out hh1.out).mono ?_
  intro e w3 hR
  obtain ⟨qo, qc, rfl, hq, _, _, _, hb3⟩ := hR.yes hB.out
  clear hR
  have hp3 := Lib.hid (Reads.below hp.out hb3)
  have hb3 := Lib.hid (hb2.out.trans (hb3.mono hb2.out.size))
  clear hp
  go_wp2
  go_loop [11, 13, 56] (fun n _ j => ∃ k s : Nat, k ≤ ws.length ∧ j = .int .i64 k ∧ n = .int .i64 (s : Int) ∧ s ≤ 8 * k ∧ Hid (s + sumW (ws.drop k) = sumW ws))
    (fun _ _ j => ws.length - (intOf j).toNat)
  case atStart => exact ⟨0, 0, by omega, rfl, rfl, by omega, Lib.hid (by simp)⟩
  case round =>
    obtain ⟨k, t, hk, rfl, rfl, ht, hh⟩ := hrel
    by_cases hlt : k < ws.length
    · obtain ⟨b, off, z, rfl, c, hb, hzk, hd, _, hz1, hz2⟩ := (show Ints _ _ _ from Reads.below hx1.out hb3.out).at hf1.out hlt
      obtain ⟨h1, h8⟩ := okW_mem hok.out z (List.mem_of_getElem? hzk.out)
      go_wp2
      go_round
      case rel => exact ⟨k + 1, t + z.toNat, by omega, by go_num, (by congr 1; omega), by omega, Lib.hid (by
        have := hh.out
        rw [hd.out] at this
        simp only [sumW] at this
        omega)⟩
      case measure => simp [intOf] <;> omega
    · have ht' : Hid (sumW ws = t) := Lib.hid (by
        have e := List.drop_of_length_le (i := k) (l := ws) (by omega)
        have h1 := hh.out
        rw [e] at h1
        simp [sumW] at h1; omega)
      have hx2 : Hid (x.length = t) := Lib.hid (hxl.out.trans ht'.out)
      have hy2 : Hid (y.length = t) := Lib.hid (hyl.out.trans ht'.out)
      rw [hx2.out, hy2.out]
      have q1 : ∀ n, (convert 26 9 (.slice po t pc)).run Try.prog (w3.drewN n) = .ok (.string (strOf x)) (w3.drewN n) := fun n => str_at t pc (Reads.drewN hp3.out n) hx2.out
      have q2 : ∀ n, (convert 26 9 (.slice qo t qc)).run Try.prog (w3.drewN n) = .ok (.string (strOf y)) (w3.drewN n) := fun n => str_at t qc (Reads.drewN hq.out n) hy2.out
      have q3 : (convert 26 9 (.slice po t pc)).run Try.prog w3 = .ok (.string (strOf x)) w3 := q1 0
      have q4 : (convert 26 9 (.slice qo t qc)).run Try.prog w3 = .ok (.string (strOf y)) w3 := q2 0
      have hS : Hid (∀ n, Calls Try.prog 15 #[.slice bo us.length cap1, .slice co bs.length cap2] (w3.drewN n) fun e w' => e = .returned (.bool s) ∧ ∃ m, w' = (w3.drewN n).drewN m) := Lib.hid fun n => by
        have := SameNums_quiet bo co cap1 cap2 us bs (w3.drewN n) (Reads.drewN (Reads.below hy1.out hb3.out) n) (Reads.drewN (Reads.below hz1.out hb3.out) n) hg1.out hh1.out
        rw [hs1.out] at this
        exact this
      clear hb1 hb2
      go_wp2
      go_quiet ((go_at_call 15; first | exact Calls.quiet_of (hS.out _) | exact Calls.quiet_of (hS.out 0)))
      go_wp2
      go_ret
      exact ⟨ret_bool (by simp), below_drewN' hb3.out _⟩

theorem walk (ao : Option Addr) (ws : List Int) (cap : Nat) (bo : Option Addr) (us : List Nat) (cap1 : Nat) (co : Option Addr) (bs : List Nat) (cap2 : Nat) (w : World) (hx : Ints w ao ws) (hf : I64s ws) (hn : ao = none → cap = 0)
    (hy : U64s w bo us) (hg : Fit64 us) (hn' : bo = none → cap1 = 0) (hz : U64s w co bs) (hh : Fit64 bs) (hm : co = none → cap2 = 0) :
    Calls Try.prog 9 #[.slice ao ws.length cap, .slice bo us.length cap1, .slice co bs.length cap2] w fun e w' => e = .returned (.bool true) ∧ Below w.heap.size w w' := by
  cases hA : putL ws us with
  | none => exact way_no ao ws cap bo us cap1 co bs cap2 w hx hf hy hg hz hh (.inl hA)
  | some x =>
    cases hB : putL ws bs with
    | none => exact way_no ao ws cap bo us cap1 co bs cap2 w hx hf hy hg hz hh (.inr hB)
    | some y =>
      by_cases e : us = bs
      · exact way_yes ao ws cap bo us cap1 co bs cap2 w hx hf hy hg hz hh x y hA hB true (decide_eq_true e) (eq_lens ((putL_inj hA hB).2 e))
      · exact way_yes ao ws cap bo us cap1 co bs cap2 w hx hf hy hg hz hh x y hA hB false (decide_eq_false e) (str_ne fun h => e ((putL_inj hA hB).1 h))


theorem own : ownKnob Try.prog.godebug = none := by kernel_rfl
theorem laidOut : laidOutB Try.prog = true := by kernel_rfl

set_option maxRecDepth 100000 in
theorem lifted (os : Os) (started : os.Started) (H : Type) (enc : TypeId × Value → H) :
    ReturnsInHanded {} Try.checked os 9 .any (Rows.fieldWideSpec.pre6 enc Try.prog Try.f9 Rows.fieldWideRow.domain false) (Rows.fieldWideSpec.post enc Try.prog Try.f9 false true false false) := by
  refine returnsInHanded_of_change_sized (C := Try.checked) own started (by kernel_rfl) Try.func9
    (ChangeSpec.witness6 (enc := enc) (C := Try.checked) false ⟨#[], #[.slice none 0 0, .slice none 0 0, .slice none 0 0], []⟩ 8 (by kernel_rfl) (by kernel_rfl) (by kernel_rfl) (by kernel_rfl)) ?_
  intro W base args ds gs before hval0 hW hcnd hsz0 _
  have hval : ∀ (j : Nat) t v, Try.f9.params[j]? = some t → args[j]? = some v → Value.okWide Try.prog W .any base t v := hval0
  have hsz : (DataW.weightsEach Try.prog (Try.f9.params.toList ++ Rows.fieldWideSpec.plain.varTypes Try.prog) (ds ++ gs)).all (· ≤ reachBytes) = true := hsz0
  have hW' := hW
  obtain ⟨p, q, hA0, hV, rfl, hfz, hnd⟩ := hW
  have hA : DataW.TrodAll enc Try.prog W 0 (fun _ => true) true Try.f9.params.toList args.toList ds p := hA0
  rw [Try.params9] at hA hval hsz
  obtain ⟨v0, vs0, d0, ds0, p0, q0, hargs, rfl, rfl, h0, r0⟩ := trodAll_cons hA
  obtain ⟨v1, vs1, d1, ds1, p1, q1, rfl, rfl, rfl, h1, r1⟩ := trodAll_cons r0
  obtain ⟨v2, vs2, d2, ds2, p2, q2, rfl, rfl, rfl, h2, r2⟩ := trodAll_cons r1
  obtain ⟨rfl, rfl, rfl⟩ := trodAll_nil r2
  obtain rfl : args = #[v0, v1, v2] := by cases args; simp_all
  obtain ⟨rfl, rfl⟩ := trodVars_none hV
  have k0 := h0
  have lt0 : ∀ x ∈ p0, x.block < W.heap.size := by obtain ⟨m, hm⟩ := k0; exact DataW.trod_lt m _ _ _ hm
  obtain ⟨ao0, a0, cap0, rfl, sp0, fi0, nl0⟩ := arg_ints h0 (hval 0 28 v0 rfl rfl) (fun es sp e => sized_slice hsz (j := 0) (t := 28) (e := 3) rfl (by rw [e]; rfl) Try.underlying28)
  have k1 := h1
  have lt1 : ∀ x ∈ p1, x.block < W.heap.size := by obtain ⟨m, hm⟩ := k1; exact DataW.trod_lt m _ _ _ hm
  obtain ⟨ao1, a1, cap1, rfl, sp1, fi1, nl1⟩ := arg_u64s h1 (hval 1 22 v1 rfl rfl) (fun es sp e => sized_slice hsz (j := 1) (t := 22) (e := 52) rfl (by rw [e]; rfl) Try.underlying22)
  have k2 := h2
  have lt2 : ∀ x ∈ p2, x.block < W.heap.size := by obtain ⟨m, hm⟩ := k2; exact DataW.trod_lt m _ _ _ hm
  obtain ⟨ao2, a2, cap2, rfl, sp2, fi2, nl2⟩ := arg_u64s h2 (hval 2 22 v2 rfl rfl) (fun es sp e => sized_slice hsz (j := 2) (t := 22) (e := 52) rfl (by rw [e]; rfl) Try.underlying22)
  clear hA0 hval0 hsz0
  refine (walk ao0 a0 cap0 ao1 a1 cap1 ao2 a2 cap2 W sp0 fi0 nl0 sp1 fi1 nl1 sp2 fi2 nl2).mono fun e W' ⟨he, bel⟩ => ?_
  subst he
  exact ⟨_, rfl, _, _, _, [], _, [], hW', trodAll_mk1 (shut_bool Try.underlying4 _), (trodAll_cons_mk (Below.trod laidOut (by kernel_rfl) (of_decide_eq_true (by kernel_rfl)) k0 bel lt0) (trodAll_cons_mk (Below.trod laidOut (by kernel_rfl) (of_decide_eq_true (by kernel_rfl)) k1 bel lt1) (trodAll_cons_mk (Below.trod laidOut (by kernel_rfl) (of_decide_eq_true (by kernel_rfl)) k2 bel lt2) trodAll_mk0))), rfl, bel.frame _, fun h => by cases h⟩

theorem proved : Rows.FieldWideSaid :=
  OpenClaim.holds_of_wide 9 Try.f9 rfl rfl rfl rfl rfl rfl rfl ⟨rfl, rfl, rfl, rfl, rfl⟩ rfl rfl rfl rfl rfl (by kernel_rfl) Try.func9 (by kernel_rfl)
    (of_decide_eq_true (by kernel_rfl)) (by unfold Func.isWrapper; first | (rw [if_pos (by decide +kernel)]; kernel_rfl) | (rw [if_neg (by decide +kernel)]; exact ⟨rfl, rfl⟩))
    (fun os started H enc _ => lifted os started H enc)
end Go.Proofs.Ytiaihhgafnageaa.lawFieldWide
