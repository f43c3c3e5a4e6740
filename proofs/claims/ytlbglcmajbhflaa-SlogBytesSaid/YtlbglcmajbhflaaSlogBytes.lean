/- SlogBytes, for every input: the law returns true and each argument reads behind the call as before. No condition. -/
import Derived.Test.YtlbglcmajbhflaaSlogP
namespace Go.Proofs.Ytlbglcmajbhflaa.lawSlogBytes
open Go.ChangeShapes Go.WideShapes Go.ChangeAt Go.RowKit Go.Deep
set_option linter.unusedVariables false
set_option maxRecDepth 20000

set_option maxHeartbeats 4000000 in
theorem walk (ao : Option Addr) (ms : List (Bool × Int × Int)) (cap : Nat) (bo : Option Addr) (bs : List UInt8) (cap' : Nat) (w : World) (hx : Moves w ao ms) (hf : FitM ms) (hn : (ao = none → ms = [] ∧ cap = 0) ∧ ms.length ≤ cap ∧ cap ≤ 140737488351232)
    (hy : Bytes w bo bs) (hc : bs.length ≤ cap' ∧ cap' ≤ 140737488351232) (hn' : bo = none → cap' = 0) :
    Calls Try.prog 6 #[.slice ao ms.length cap, .slice bo bs.length cap'] w fun e w' => e = .returned (.bool true) ∧ Below w.heap.size w w' := by
  obtain ⟨i0, hi, hz0, hz1, hz2⟩ := info_parts infoU8
  obtain ⟨hc1, hc2⟩ := hc
  have Hx := Lib.hid hx
  have Hf := Lib.hid hf
  have Hy := Lib.hid hy
  have Hn' := Lib.hid hn'
  have hfl := hf.2
  clear hx hf hn hy hn'
  go_enter Try.func6, Try.ntmps6
  go_wp2_with fail
  refine (slogAlive_any w).mono ?_
  rintro e w1 ⟨rfl, hb1⟩
  have hb1 := Lib.hid hb1
  by_cases hl1 : 5000 < ms.length
  · go_wp2
    go_ret
    exact ⟨rfl, hb1.out⟩
  have hl1 : ms.length ≤ 5000 := by omega
  by_cases hl2 : 30000 < bs.length
  · go_wp2
    go_ret
    exact ⟨rfl, hb1.out⟩
  have hl2 : bs.length ≤ 30000 := by omega
  go_wp2_with fail
  refine (mBytes_s ao cap ms w1 (Hx.out.below hb1.out) Hf.out).mono ?_
  rintro e w2 ⟨co, cc, L, E, rfl, hL, hE, hs, _, _, hb2⟩
  have hb2 := Lib.hid (hb1.out.trans (hb2.mono hb1.out.size))
  go_wp2_with fail
  refine (mRefBytes_s ao cap ms w2 (Hx.out.below hb2.out) Hf.out).mono ?_
  rintro e w3 ⟨eo, ec, L', E', rfl, hL', hE', hs', _, _, hb3⟩
  obtain rfl : L' = L := by rw [hL'.out, hL.out]
  obtain rfl : E' = E := by rw [hE'.out, hE.out]
  have hs := Lib.hid (Reads.below hs.out hb3)
  have hb3 := Lib.hid (hb2.out.trans (hb3.mono hb2.out.size))
  clear hL hL' hE hE'
  go_wp2_with (at_builtin; refine wpList_copy rfl (.tmp 34) (.tmp 35) 35 rfl 5 i0 (.int .u8 0) 1 Try.underlying35 hi hz0 hz1 hz2 rfl w3 rfl bo bs.length cap' (bytesV bs) rfl Hn'.out (bytesV_length bs) (Reads.below Hy.out hb3.out) (bytesV_one bs) (by omega) (by omega) ?_; intro po pc w4 ho4 hp1 hp2 _ hb4; have hp := Lib.hid (show Bytes w4 po bs from ho4.reads); have hs := Lib.hid (Reads.below hs.out hb4); have hs' := Lib.hid (Reads.below hs'.out hb4); have hb4 := Lib.hid (hb3.out.trans (hb4.mono hb3.out.size)); clear ho4)
  refine (mRead_s po pc bs w4 hp.out hp1 hp2).mono ?_
  rintro e w5 ⟨qo, qc, M, F, rfl, hM, hF, ht, hb5⟩
  have hs := Lib.hid (Reads.below hs.out hb5)
  have hs' := Lib.hid (Reads.below hs'.out hb5)
  have hb5 := Lib.hid (hb4.out.trans (hb5.mono hb4.out.size))
  clear hp
  go_wp2_with fail
  refine (mRefRead_s bo cap' bs w5 (Reads.below Hy.out hb5.out) hc1 (by omega)).mono ?_
  rintro e w6 ⟨ro, rc, M', F', rfl, hM', hF', ht', hb6⟩
  obtain rfl : M' = M := by rw [hM'.out, hM.out]
  obtain rfl : F' = F := by rw [hF'.out, hF.out]
  have ht := Lib.hid (ht.out.below hb6)
  have hs := Reads.below hs.out hb6
  have hs' := Reads.below hs'.out hb6
  have hb6 := Lib.hid (hb5.out.trans (hb6.mono hb5.out.size))
  have hMf := Lib.hid (show FitM M' by rw [hM'.out]; exact readM_fit)
  have q1 : (convert 35 9 (.slice co L'.length cc)).run Try.prog w6 = .ok (.string (strOf L')) w6 := str_at _ cc hs rfl
  have q2 : (convert 35 9 (.slice eo L'.length ec)).run Try.prog w6 = .ok (.string (strOf L')) w6 := str_at _ ec hs' rfl
  clear hM hM' hF hF' hs hs'
  go_wp2_with fail
  refine (SameM_yes qo ro qc rc M' w6 ht.out ht'.out hMf.out).mono ?_
  rintro e w7 ⟨rfl, hb7⟩
  have hb7 := Lib.hid (hb6.out.trans (hb7.mono hb6.out.size))
  go_wp2
  go_ret
  exact ⟨rfl, hb7.out⟩

theorem own : ownKnob Try.prog.godebug = none := by kernel_rfl
theorem laidOut : laidOutB Try.prog = true := by kernel_rfl

set_option maxRecDepth 100000 in
theorem lifted (os : Os) (started : os.Started) (H : Type) (enc : TypeId × Value → H) :
    ReturnsInHanded {} Try.checked os 6 .any (Rows.slogBytesSpec.pre6 enc Try.prog Try.f6 Rows.slogBytesRow.domain false) (Rows.slogBytesSpec.post enc Try.prog Try.f6 false true false false) := by
  refine returnsInHanded_of_change_sized (C := Try.checked) own started (by kernel_rfl) Try.func6
    (ChangeSpec.witness6 (enc := enc) (C := Try.checked) false ⟨#[], #[.slice none 0 0, .slice none 0 0], []⟩ 8 (by kernel_rfl) (by kernel_rfl) (by kernel_rfl) (by kernel_rfl)) ?_
  intro W base args ds gs before hval0 hW hcnd hsz0 _
  have hval : ∀ (j : Nat) t v, Try.f6.params[j]? = some t → args[j]? = some v → Value.okWide Try.prog W .any base t v := hval0
  have hsz : (DataW.weightsEach Try.prog (Try.f6.params.toList ++ Rows.slogBytesSpec.plain.varTypes Try.prog) (ds ++ gs)).all (· ≤ reachBytes) = true := hsz0
  have hW' := hW
  obtain ⟨p, q, hA0, hV, rfl, hfz, hnd⟩ := hW
  have hA : DataW.TrodAll enc Try.prog W 0 (fun _ => true) true Try.f6.params.toList args.toList ds p := hA0
  rw [Try.params6] at hA hval hsz
  obtain ⟨v0, vs0, d0, ds0, p0, q0, hargs, rfl, rfl, h0, r0⟩ := trodAll_cons hA
  obtain ⟨v1, vs1, d1, ds1, p1, q1, rfl, rfl, rfl, h1, r1⟩ := trodAll_cons r0
  obtain ⟨rfl, rfl, rfl⟩ := trodAll_nil r1
  obtain rfl : args = #[v0, v1] := by cases args; simp_all
  obtain ⟨rfl, rfl⟩ := trodVars_none hV
  have k0 := h0
  have lt0 : ∀ x ∈ p0, x.block < W.heap.size := by obtain ⟨m, hm⟩ := k0; exact DataW.trod_lt m _ _ _ hm
  obtain ⟨ao0, a0, cap0, rfl, sp0, fi0, nl0⟩ := arg_moves h0 (hval 0 27 v0 rfl rfl) (fun es sp e => sized_slice hsz (j := 0) (t := 27) (e := 55) rfl (by rw [e]; rfl) Try.underlying27)
  have k1 := h1
  have lt1 : ∀ x ∈ p1, x.block < W.heap.size := by obtain ⟨m, hm⟩ := k1; exact DataW.trod_lt m _ _ _ hm
  obtain ⟨ao1, a1, cap1, rfl, sp1, fi1, nl1⟩ := arg_bytes h1 (hval 1 35 v1 rfl rfl) (fun es sp e => sized_slice hsz (j := 1) (t := 35) (e := 5) rfl (by rw [e]; rfl) Try.underlying35)
  clear hA0 hval0 hsz0
  refine (walk ao0 a0 cap0 ao1 a1 cap1 W sp0 fi0 nl0 sp1 fi1 nl1).mono fun e W' ⟨he, bel⟩ => ?_
  subst he
  exact ⟨_, rfl, _, _, _, [], _, [], hW', trodAll_mk1 (shut_bool Try.underlying4 _), (trodAll_cons_mk (Below.trod laidOut (by kernel_rfl) (of_decide_eq_true (by kernel_rfl)) k0 bel lt0) (trodAll_cons_mk (Below.trod laidOut (by kernel_rfl) (of_decide_eq_true (by kernel_rfl)) k1 bel lt1) trodAll_mk0)), rfl, bel.frame _, fun h => by cases h⟩

theorem proved : Rows.SlogBytesSaid :=
  OpenClaim.holds_of_wide 6 Try.f6 rfl rfl rfl rfl rfl rfl rfl ⟨rfl, rfl, rfl, rfl, rfl⟩ rfl rfl rfl rfl rfl (by kernel_rfl) Try.func6 (by kernel_rfl)
    (of_decide_eq_true (by kernel_rfl)) (by unfold Func.isWrapper; first | (rw [if_pos (by decide +kernel)]; kernel_rfl) | (rw [if_neg (by decide +kernel)]; exact ⟨rfl, rfl⟩))
    (fun os started H enc _ => lifted os started H enc)
end Go.Proofs.Ytlbglcmajbhflaa.lawSlogBytes
