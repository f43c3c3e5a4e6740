/- FieldCuts, for every input: the law returns true and each argument reads behind the call as before. No condition. -/
import Derived.Test.YtiaihhgafnageaaFieldM
namespace Go.Proofs.Ytiaihhgafnageaa.lawFieldCuts
open Go.ChangeShapes Go.WideShapes Go.ChangeAt Go.RowKit Go.Deep
set_option linter.unusedVariables false

theorem joinT_length {ts : List (List UInt8)} {x : List UInt8} (h : joinT ts = some x) : x.length ≤ 65537 * ts.length := by
  induction ts generalizing x with
  | nil => simp [joinT] at h; subst h; simp
  | cons t r ih =>
    simp only [joinT] at h
    split at h
    · rename_i hc
      cases h' : joinT r with
      | none => rw [h'] at h; cases h
      | some b =>
        rw [h'] at h
        simp only [Option.map_some, Option.some.injEq] at h
        subst h
        have := ih h'
        have hl := leB_length 2 t.length
        simp only [List.length_append, List.length_cons]
        omega
    · cases h
theorem joinL_length {ts : List (List UInt8)} {x : List UInt8} (h : joinL ts = some x) : x.length ≤ 2 + 65537 * ts.length := by
  unfold joinL at h
  split at h
  · cases h' : joinT ts with
    | none => rw [h'] at h; cases h
    | some b =>
      rw [h'] at h
      simp only [Option.map_some, Option.some.injEq] at h
      subst h
      have := joinT_length h'
      have hl := leB_length 2 ts.length
      simp only [List.length_append]
      omega
  · cases h

set_option maxHeartbeats 4000000 in
theorem way_none (ao : Option Addr) (ts : List (List UInt8)) (cap : Nat) (z : Int) (w : World) (hx1 : Hid (Texts w ao ts)) (hz1 : -9223372036854775808 ≤ z) (hz2 : z ≤ 9223372036854775807) (hmany : ts.length ≤ 100) (hJ : Hid (joinL ts = none)) :
    Calls Try.prog 8 #[.slice ao ts.length cap, .int .i64 z] w fun e w' => e = .returned (.bool true) ∧ Below w.heap.size w w' := by
  go_enter Try.func8, Try.ntmps8
  go_wp2_with fail
  refine (alive_any w).mono ?_
  rintro e w1 ⟨rfl, hb1⟩
  have hb1 := Lib.hid hb1
  go_wp2_with fail
  refine (Join_any ao cap ts w1 (hx1.out.below hb1.out) (by omega)).mono ?_
  intro e w2 hR
  obtain ⟨po, pc, rfl, hb2⟩ := hR.nope hJ.out
  clear hR
  have hb2 := Lib.hid (hb1.out.trans (hb2.mono hb1.out.size))
  go_wp2
  go_ret
  exact ⟨rfl, hb2.out⟩

set_option maxHeartbeats 4000000 in
theorem way_neg (ao : Option Addr) (ts : List (List UInt8)) (cap : Nat) (z : Int) (w : World) (hx1 : Hid (Texts w ao ts)) (hz1 : -9223372036854775808 ≤ z) (hz2 : z < 0) (hmany : ts.length ≤ 100) (x : List UInt8) (hJ : Hid (joinL ts = some x)) :
    Calls Try.prog 8 #[.slice ao ts.length cap, .int .i64 z] w fun e w' => e = .returned (.bool true) ∧ Below w.heap.size w w' := by
  go_enter Try.func8, Try.ntmps8
  go_wp2_with fail
  refine (alive_any w).mono ?_
  rintro e w1 ⟨rfl, hb1⟩
  have hb1 := Lib.hid hb1
  go_wp2_with fail
  refine (Join_any ao cap ts w1 (hx1.out.below hb1.out) (by omega)).mono ?_
  intro e w2 hR
  obtain ⟨po, pc, rfl, hp, _, _, _, hb2⟩ := hR.yes hJ.out
  clear hR
  have hb2 := Lib.hid (hb1.out.trans (hb2.mono hb1.out.size))
  go_wp2
  go_ret
  exact ⟨rfl, hb2.out⟩

set_option maxHeartbeats 4000000 in
theorem way_pos (ao : Option Addr) (ts : List (List UInt8)) (cap : Nat) (c : Nat) (w : World) (hx1 : Hid (Texts w ao ts)) (hz2 : c ≤ 9223372036854775807) (hmany : ts.length ≤ 100) (x : List UInt8) (hJ : Hid (joinL ts = some x)) :
    Calls Try.prog 8 #[.slice ao ts.length cap, .int .i64 (c : Int)] w fun e w' => e = .returned (.bool true) ∧ Below w.heap.size w w' := by
  obtain ⟨j0, hj, hy0, hy1', hy2⟩ := info_parts infoU8
  have hxl := joinL_length hJ.out
  have lb := Lib.hid (bytesV_length x)
  have ob := Lib.hid (bytesV_one x)
  have hS1 := Lib.hid (splitL_joinL hJ.out)
  have hS2 := Lib.hid (splitL_more hS1.out (r := [7]) (by simp))
  have hl7 : (x ++ [7]).length = x.length + 1 := by simp
  have hl7' := Lib.hid hl7
  clear hl7
  go_enter Try.func8, Try.ntmps8
  go_wp2_with fail
  refine (alive_any w).mono ?_
  rintro e w1 ⟨rfl, hb1⟩
  have hb1 := Lib.hid hb1
  go_wp2_with fail
  refine (Join_any ao cap ts w1 (hx1.out.below hb1.out) (by omega)).mono ?_
  intro e w2 hR
  obtain ⟨po, pc, rfl, hp, hpc, hpm, hpn, hb2⟩ := hR.yes hJ.out
  clear hR
  have hb2 := Lib.hid (hb1.out.trans (hb2.mono hb1.out.size))
  go_wp2_with (at_builtin; refine wpList_copy rfl (.tmp 30) (.tmp 31) 26 rfl 5 j0 (.int .u8 0) 1 Try.underlying26 hj hy0 hy1' hy2 rfl w2 rfl po x.length pc (bytesV x) rfl hpn.out lb.out hp.out ob.out (by omega) (by omega) ?_; intro a2 c2 w3 ho2 hc2' hc3 hnn hb3; have ho2 := Lib.hid ho2; have hb3 := Lib.hid hb3; have hnn := Lib.hid hnn)
  have hr3 := Lib.hid (show Bytes w3 a2 x from ho2.out.reads)
  have hp3 := Lib.hid (Reads.below hp.out hb3.out)
  have hb4 := Lib.hid (hb2.out.trans (hb3.out.mono hb2.out.size))
  clear ho2 hp
  refine (Split_any a2 c2 x w3 hr3.out hc2' hc3 hnn.out).mono ?_
  intro e w4 hR
  obtain ⟨qo, qc, rfl, hq, hb5⟩ := hR.yes hS1.out
  clear hR hr3
  have hp4 := Lib.hid (Reads.below hp3.out hb5)
  have hb5 := Lib.hid (hb4.out.trans (hb5.mono hb4.out.size))
  clear hp3
  go_wp2_with (first
    | (at_builtin; refine wpList_copy rfl (.tmp 37) (.tmp 38) 26 rfl 5 j0 (.int .u8 0) 1 Try.underlying26 hj hy0 hy1' hy2 rfl w4 rfl po x.length pc (bytesV x) rfl hpn.out lb.out hp4.out ob.out (by omega) (by omega) ?_; intro a3 c3 w5 ho3 hc5 hc6 hnn3 hb6; have ho3 := Lib.hid ho3; have hb6 := Lib.hid hb6; have hs5 := hb6.out.size)
    | (at_builtin; refine wpList_own_push rfl (.tmp 39) (.tmp 40) 26 rfl w4.heap.size 5 j0 (.int .u8 0) 1 Try.underlying26 hj hy0 hy1' hy2 rfl (.slice a3 x.length c3) _ w5 rfl ho3.out 1 (.int .u8 7) rfl rfl (by rw [lb.out]; omega) (by rw [lb.out]; omega) hs5 ?_; intro v6 w6 ho6 hg6; have hb7 : Hid (Below w4.heap.size w5 w6) := Lib.hid (hg6.out hs5 (fun g hg => (ho3.out.lt g hg).1)); have ho6 : Own w6 w4.heap.size 5 v6 (bytesV (x ++ [7])) := (by rw [bytesV_append]; exact ho6); obtain ⟨a6, c6, rfl, hc7, hc8, hc9, hr6, _, _⟩ := ho6.shape; rw [bytesV_length, hl7'.out] at hc7 ⊢; have hr6 := Lib.hid hr6; have hc9 := Lib.hid hc9; have hc8 : c6 ≤ 9223372036854775807 := (by simpa [maxLen] using hc8); clear ho6 hg6))
  have hb8 := Lib.hid (hb6.out.trans hb7.out)
  have hSp := Split_any a6 c6 (x ++ [7]) w6 hr6.out (by rw [hl7'.out]; exact hc7) hc8 hc9.out
  rw [hl7'.out] at hSp
  refine hSp.mono ?_
  intro e w7 hR
  clear hSp
  obtain ⟨so, sc, rfl, hb9⟩ := hR.nope hS2.out
  clear hR
  have hb10 : Hid (Below w4.heap.size w4 w7) := Lib.hid (hb8.out.trans (hb9.mono hb8.out.size))
  have hp7 := Lib.hid (Reads.below hp4.out hb10.out)
  have hq7 := Lib.hid (hq.out.below hb10.out)
  have hb11 := Lib.hid (hb5.out.trans (hb10.out.mono hb5.out.size))
  clear hp4 hq ho3 hr6 hb9
  go_wp2_with fail
  refine (SameTexts_any qo ao qc cap ts ts w7 hq7.out (hx1.out.below hb11.out) (by omega) (by omega)).mono ?_
  rintro e w8 ⟨rfl, hb12⟩
  rw [decide_eq_true rfl]
  have hp8 := Lib.hid (Reads.below hp7.out hb12)
  have hb12 := Lib.hid (hb11.out.trans (hb12.mono hb11.out.size))
  clear hp7 hq7
  by_cases hc : c < x.length
  · have hS3 := Lib.hid (splitL_cut hS1.out hc)
    have lc := Lib.hid (show (bytesV (x.take c)).length = c by rw [bytesV_length]; simp; omega)
    have lc' := Lib.hid (show (x.take c).length = c by simp; omega)
    have oc := Lib.hid (bytesV_one (x.take c))
    have k1 : ∀ w, (Instr.slice 26 (.slice po x.length pc) none (some (.int .i64 (c : Int))) none).run Try.prog w = .ok (.slice po c pc) w := fun w => run_cut_h 26 5 Try.underlying26 cells5 po x.length pc c (by omega) w
    have hge : ¬ ((x.length : Int) ≤ (c : Int)) := by omega
    go_wp2_with (at_builtin; refine wpList_copy rfl (.tmp 62) (.tmp 65) 26 rfl 5 j0 (.int .u8 0) 1 Try.underlying26 hj hy0 hy1' hy2 rfl w8 rfl po c pc (bytesV (x.take c)) rfl hpn.out lc.out (Bytes.take hp8.out c) oc.out (by omega) (by omega) ?_; intro a9 c9 w9 ho9 hc10 hc11 hnn9 hb13; have ho9 := Lib.hid ho9; have hb13 := Lib.hid hb13; have hnn9 := Lib.hid hnn9)
    have hr9 := Lib.hid (show Bytes w9 a9 (x.take c) from ho9.out.reads)
    have hb14 := Lib.hid (hb12.out.trans (hb13.out.mono hb12.out.size))
    have hSp := Split_any a9 c9 (x.take c) w9 hr9.out (by rw [lc'.out]; exact hc10) hc11 hnn9.out
    rw [lc'.out] at hSp
    refine hSp.mono ?_
    intro e w10 hR
    clear hSp
    obtain ⟨to, tc, rfl, hb15⟩ := hR.nope hS3.out
    clear hR
    have hb15 := Lib.hid (hb14.out.trans (hb15.mono hb14.out.size))
    go_wp2
    go_ret
    exact ⟨rfl, hb15.out⟩
  · have hge : (x.length : Int) ≤ (c : Int) := by omega
    go_wp2
    go_ret
    exact ⟨rfl, hb12.out⟩

set_option maxHeartbeats 2000000 in
theorem walk (ao : Option Addr) (ts : List (List UInt8)) (cap : Nat) (z : Int) (w : World) (hx : Texts w ao ts) (hf : ts.length ≤ cap ∧ cap * 24 ≤ 140737488351232) (hn : ao = none → cap = 0) (hz : I64 z) :
    Calls Try.prog 8 #[.slice ao ts.length cap, .int .i64 z] w fun e w' => e = .returned (.bool true) ∧ Below w.heap.size w w' := by
  by_cases hmany : ts.length ≤ 100
  · cases hJ : joinL ts with
    | none => exact way_none ao ts cap z w hx hz.1 hz.2 hmany hJ
    | some x =>
      by_cases h0 : z < 0
      · exact way_neg ao ts cap z w hx hz.1 h0 hmany x hJ
      · obtain ⟨c, rfl⟩ := Int.eq_ofNat_of_zero_le (a := z) (by omega)
        exact way_pos ao ts cap c w hx (by have := hz.2; omega) hmany x hJ
  · obtain ⟨hz1, hz2⟩ := hz
    have hf1 := hf.1
    have hf2 := hf.2
    clear hx hn hf
    go_enter Try.func8, Try.ntmps8
    go_wp2_with fail
    refine (alive_any w).mono ?_
    rintro e w1 ⟨rfl, hb1⟩
    have hb1 := Lib.hid hb1
    go_wp2
    go_ret
    exact ⟨rfl, hb1.out⟩


theorem own : ownKnob Try.prog.godebug = none := by kernel_rfl
theorem laidOut : laidOutB Try.prog = true := by kernel_rfl

set_option maxRecDepth 100000 in
theorem lifted (os : Os) (started : os.Started) (H : Type) (enc : TypeId × Value → H) :
    ReturnsInHanded {} Try.checked os 8 .any (Rows.fieldCutsSpec.pre6 enc Try.prog Try.f8 Rows.fieldCutsRow.domain false) (Rows.fieldCutsSpec.post enc Try.prog Try.f8 false true false false) := by
  refine returnsInHanded_of_change_sized (C := Try.checked) own started (by kernel_rfl) Try.func8
    (ChangeSpec.witness6 (enc := enc) (C := Try.checked) false ⟨#[], #[.slice none 0 0, .int .i64 0], []⟩ 8 (by kernel_rfl) (by kernel_rfl) (by kernel_rfl) (by kernel_rfl)) ?_
  intro W base args ds gs before hval0 hW hcnd hsz0 _
  have hval : ∀ (j : Nat) t v, Try.f8.params[j]? = some t → args[j]? = some v → Value.okWide Try.prog W .any base t v := hval0
  have hsz : (DataW.weightsEach Try.prog (Try.f8.params.toList ++ Rows.fieldCutsSpec.plain.varTypes Try.prog) (ds ++ gs)).all (· ≤ reachBytes) = true := hsz0
  have hW' := hW
  obtain ⟨p, q, hA0, hV, rfl, hfz, hnd⟩ := hW
  have hA : DataW.TrodAll enc Try.prog W 0 (fun _ => true) true Try.f8.params.toList args.toList ds p := hA0
  rw [Try.params8] at hA hval hsz
  obtain ⟨v0, vs0, d0, ds0, p0, q0, hargs, rfl, rfl, h0, r0⟩ := trodAll_cons hA
  obtain ⟨v1, vs1, d1, ds1, p1, q1, rfl, rfl, rfl, h1, r1⟩ := trodAll_cons r0
  obtain ⟨rfl, rfl, rfl⟩ := trodAll_nil r1
  obtain rfl : args = #[v0, v1] := by cases args; simp_all
  obtain ⟨rfl, rfl⟩ := trodVars_none hV
  have k0 := h0
  have lt0 : ∀ x ∈ p0, x.block < W.heap.size := by obtain ⟨m, hm⟩ := k0; exact DataW.trod_lt m _ _ _ hm
  obtain ⟨ao0, a0, cap0, rfl, sp0, fi0, nl0⟩ := arg_texts h0 (hval 0 38 v0 rfl rfl) (fun es sp e => sized_slice hsz (j := 0) (t := 38) (e := 26) rfl (by rw [e]; rfl) Try.underlying38)
  obtain ⟨a1, rfl, rfl, rfl, wf1⟩ := open_int Try.underlying3 (hval 1 3 v1 rfl rfl) h1
  clear hA0 hval0 hsz0
  refine (walk ao0 a0 cap0 a1 W sp0 fi0 nl0 (wf_i64 wf1)).mono fun e W' ⟨he, bel⟩ => ?_
  subst he
  exact ⟨_, rfl, _, _, _, [], _, [], hW', trodAll_mk1 (shut_bool Try.underlying4 _), (trodAll_cons_mk (Below.trod laidOut (by kernel_rfl) (of_decide_eq_true (by kernel_rfl)) k0 bel lt0) (trodAll_cons_mk (shut_int Try.underlying3 wf1) trodAll_mk0)), rfl, bel.frame _, fun h => by cases h⟩

theorem proved : Rows.FieldCutsSaid :=
  OpenClaim.holds_of_wide 8 Try.f8 rfl rfl rfl rfl rfl rfl rfl ⟨rfl, rfl, rfl, rfl, rfl⟩ rfl rfl rfl rfl rfl (by kernel_rfl) Try.func8 (by kernel_rfl)
    (of_decide_eq_true (by kernel_rfl)) (by unfold Func.isWrapper; first | (rw [if_pos (by decide +kernel)]; kernel_rfl) | (rw [if_neg (by decide +kernel)]; exact ⟨rfl, rfl⟩))
    (fun os started H enc _ => lifted os started H enc)
end Go.Proofs.Ytiaihhgafnageaa.lawFieldCuts
