/- SumMores, for every input: the law returns true and each argument reads behind the call as before. No condition. -/
import Derived.Test.YtbnfciefllbcdaaSumD
namespace Go.Proofs.Ytbnfciefllbcdaa.lawSumMores
open Go.ChangeShapes Go.WideShapes Go.ChangeAt Go.RowKit Go.Deep
set_option linter.unusedVariables false

set_option maxHeartbeats 2000000 in
theorem walk (s : Nat) (ao : Option Addr) (bs : List UInt8) (cap : Nat) (w : World) (hs : s < 4294967296) (hx : Bytes w ao bs) (hf : bs.length ≤ cap ∧ cap ≤ 140737488351232) (hn : ao = none → cap = 0) :
    Calls Try.prog 4 #[.int .u32 (s : Int), .slice ao bs.length cap] w fun e w' => e = .returned (.bool true) ∧ Below w.heap.size w w' := by
  obtain ⟨i0, hi, hz0, hz1, hz2⟩ := info_parts infoU8
  have hl : bs.length ≤ 140737488351232 := by omega
  have hx1 := Lib.hid hx
  have hn1 := Lib.hid hn
  have la := Lib.hid (bytesV_length bs)
  have oa := Lib.hid (bytesV_one bs)
  clear hx hf hn
  go_enter Try.func4, Try.ntmps4
  go_wp2_with (first
    | (at_builtin; refine wpList_copy rfl (.tmp 6) (.tmp 7) 24 rfl 5 i0 (.int .u8 0) 1 Try.underlying24 hi hz0 hz1 hz2 rfl w rfl ao bs.length cap (bytesV bs) rfl hn1.out la.out hx1.out oa.out (by omega) (by omega) ?_; intro a1 c1 w1 ho1 hcc hcm hcn hb1))
  have hr1 := Lib.hid (show Bytes w1 a1 bs from (Lib.hid ho1).out.reads)
  have hb1 := Lib.hid hb1
  have hcn := Lib.hid hcn
  clear ho1
  refine (names_any w1).mono ?_
  rintro e w2 ⟨rfl, hb2⟩
  have hr2 := Lib.hid (Reads.below hr1.out hb2)
  have hb2 := Lib.hid (hb1.out.trans (hb2.mono hb1.out.size))
  go_wp2_with fail
  refine (More_any s hs a1 bs c1 _ hr2.out (by omega)).mono ?_
  rintro e w3 ⟨rfl, rfl⟩
  have hx2 := Lib.hid (Reads.below hx1.out hb2.out)
  go_wp2_with fail
  refine (refMore_any s hs ao bs cap _ hx2.out (by omega)).mono ?_
  rintro e w3 ⟨rfl, rfl⟩
  have q1 := str_at _ c1 hr2.out rfl
  have q2 := str_at _ cap hx2.out rfl
  go_wp2
  go_ret
  exact ⟨rfl, hb2.out⟩

theorem own : ownKnob Try.prog.godebug = none := by kernel_rfl
theorem laidOut : laidOutB Try.prog = true := by kernel_rfl

set_option maxRecDepth 100000 in
theorem lifted (os : Os) (started : os.Started) (H : Type) (enc : TypeId × Value → H) :
    ReturnsInHanded {} Try.checked os 4 .any (Rows.sumMoresSpec.pre6 enc Try.prog Try.f4 Rows.sumMoresRow.domain false) (Rows.sumMoresSpec.post enc Try.prog Try.f4 false true false false) := by
  refine returnsInHanded_of_change_sized (C := Try.checked) own started (by kernel_rfl) Try.func4
    (ChangeSpec.witness6 (enc := enc) (C := Try.checked) false ⟨#[], #[.int .u32 0, .slice none 0 0], []⟩ 8 (by kernel_rfl) (by kernel_rfl) (by kernel_rfl) (by kernel_rfl)) ?_
  intro W base args ds gs before hval0 hW hcnd hsz0 _
  have hval : ∀ (j : Nat) t v, Try.f4.params[j]? = some t → args[j]? = some v → Value.okWide Try.prog W .any base t v := hval0
  have hsz : (DataW.weightsEach Try.prog (Try.f4.params.toList ++ Rows.sumMoresSpec.plain.varTypes Try.prog) (ds ++ gs)).all (· ≤ reachBytes) = true := hsz0
  have hW' := hW
  obtain ⟨p, q, hA0, hV, rfl, hfz, hnd⟩ := hW
  have hA : DataW.TrodAll enc Try.prog W 0 (fun _ => true) true Try.f4.params.toList args.toList ds p := hA0
  rw [Try.params4] at hA hval hsz
  obtain ⟨v0, vs0, d0, ds0, p0, q0, hargs, rfl, rfl, h0, r0⟩ := trodAll_cons hA
  obtain ⟨v1, vs1, d1, ds1, p1, q1, rfl, rfl, rfl, h1, r1⟩ := trodAll_cons r0
  obtain ⟨rfl, rfl, rfl⟩ := trodAll_nil r1
  obtain rfl : args = #[v0, v1] := by cases args; simp_all
  obtain ⟨rfl, rfl⟩ := trodVars_none hV
  obtain ⟨z0, rfl, rfl, rfl, wf0⟩ := open_int Try.underlying22 (hval 0 22 v0 rfl rfl) h0
  obtain ⟨a0, rfl, b0⟩ := nat_u32 wf0
  have k1 := h1
  have lt1 : ∀ x ∈ p1, x.block < W.heap.size := by obtain ⟨m, hm⟩ := k1; exact DataW.trod_lt m _ _ _ hm
  obtain ⟨ao1, a1, cap1, rfl, sp1, fi1, nl1⟩ := arg_bytes h1 (hval 1 24 v1 rfl rfl) (fun es sp e => sized_slice hsz (j := 1) (t := 24) (e := 5) rfl (by rw [e]; rfl) Try.underlying24)
  clear hA0 hval0 hsz0
  refine (walk a0 ao1 a1 cap1 W b0 sp1 fi1 nl1).mono fun e W' ⟨he, bel⟩ => ?_
  subst he
  exact ⟨_, rfl, _, _, _, [], _, [], hW', trodAll_mk1 (shut_bool Try.underlying4 _), (trodAll_cons_mk (shut_int Try.underlying22 wf0) (trodAll_cons_mk (Below.trod laidOut (by kernel_rfl) (of_decide_eq_true (by kernel_rfl)) k1 bel lt1) trodAll_mk0)), rfl, bel.frame _, fun h => by cases h⟩

theorem proved : Rows.SumMoresSaid :=
  OpenClaim.holds_of_wide 4 Try.f4 rfl rfl rfl rfl rfl rfl rfl ⟨rfl, rfl, rfl, rfl, rfl⟩ rfl rfl rfl rfl rfl (by kernel_rfl) Try.func4 (by kernel_rfl)
    (of_decide_eq_true (by kernel_rfl)) (by unfold Func.isWrapper; first | (rw [if_pos (by decide +kernel)]; kernel_rfl) | (rw [if_neg (by decide +kernel)]; exact ⟨rfl, rfl⟩))
    (fun os started H enc _ => lifted os started H enc)
end Go.Proofs.Ytbnfciefllbcdaa.lawSumMores
