/- SumParts, for every input: the law returns true and each argument reads behind the call as before. Condition: what comes in is of bulk at most 1048576 values and letters. -/
import Derived.Test.YtbnfciefllbcdaaSumD
import Derived.Test.YtbnfciefllbcdaaBulk
namespace Go.Proofs.Ytbnfciefllbcdaa.lawSumPartsUpto
open Go.ChangeShapes Go.WideShapes Go.ChangeAt Go.RowKit Go.Deep
set_option linter.unusedVariables false

set_option maxHeartbeats 2000000 in
theorem walk (ao : Option Addr) (xs : List UInt8) (cap : Nat) (bo : Option Addr) (ys : List UInt8) (cap' : Nat) (w : World) (hx : Bytes w ao xs) (hf : xs.length ≤ cap ∧ cap ≤ 140737488351232) (hn : ao = none → cap = 0)
    (hy : Bytes w bo ys) (hf' : ys.length ≤ cap' ∧ cap' ≤ 140737488351232) (hn' : bo = none → cap' = 0) (hux : xs.length ≤ 1048576) (huy : ys.length ≤ 1048576) :
    Calls Try.prog 5 #[.slice ao xs.length cap, .slice bo ys.length cap'] w fun e w' => e = .returned (.bool true) ∧ Below w.heap.size w w' := by
  obtain ⟨i0, hi, hz0, hz1, hz2⟩ := info_parts infoU8
  have hx1 := Lib.hid hx
  have hy1 := Lib.hid hy
  have hn1 := Lib.hid hn
  have hn2 := Lib.hid hn'
  have la := Lib.hid (bytesV_length xs)
  have lb := Lib.hid (bytesV_length ys)
  have oa := Lib.hid (bytesV_one xs)
  have ob := Lib.hid (bytesV_one ys)
  clear hx hf hn hy hf' hn'
  go_enter Try.func5, Try.ntmps5
  go_wp2_with (first
    | (at_builtin; refine wpList_copy rfl (.tmp 6) (.tmp 7) 24 rfl 5 i0 (.int .u8 0) 1 Try.underlying24 hi hz0 hz1 hz2 rfl w rfl ao xs.length cap (bytesV xs) rfl hn1.out la.out hx1.out oa.out (by omega) (by omega) ?_; intro a1 c1 w1 ho1 hcc hcm hcn hb1; have ho1 := Lib.hid ho1; have hb1 := Lib.hid hb1; have hcn := Lib.hid hcn)
    | (at_builtin; refine wpList_own_app rfl (.tmp 8) (.tmp 9) 24 rfl w.heap.size 5 i0 (.int .u8 0) 1 Try.underlying24 hi hz0 hz1 hz2 rfl (.slice a1 xs.length c1) (bytesV xs) w1 rfl ho1.out bo ys.length cap' (bytesV ys) rfl hn2.out lb.out (Reads.below hy1.out hb1.out) ob.out (by rw [la.out]; omega) (by rw [la.out]; omega) hb1.out.size ?_; intro v2 w2 ho2 hg2; have ho2 := Lib.hid ho2; have hg2 := Lib.hid hg2))
  have hb2 := Lib.hid (hb1.out.trans (hg2.out.out hb1.out.size (fun g hg => (ho1.out.lt g hg).1)))
  obtain ⟨zs, hzs⟩ : ∃ zs, Hid (zs = xs ++ ys) := ⟨_, Lib.hid rfl⟩
  have ho3 : Hid (Own w2 w.heap.size 5 v2 (bytesV zs)) := Lib.hid (by rw [hzs.out, bytesV_append]; exact ho2.out)
  obtain ⟨po, pc, rfl, _, _, _, hr2, _, _⟩ := ho3.out.shape
  rw [bytesV_length]
  have hr3 := Lib.hid (show Bytes w2 po zs from hr2)
  have hxy : zs.length ≤ 2097152 := by rw [hzs.out, List.length_append]; omega
  clear hr2 ho1 ho2 ho3 hg2
  refine (names_any w2).mono ?_
  rintro e w3 ⟨rfl, hb3⟩
  have hb3 := Lib.hid hb3
  have hb4 := Lib.hid (hb2.out.trans (hb3.out.mono hb2.out.size))
  have hx3 := Lib.hid (Reads.below hx1.out hb4.out)
  have hy3 := Lib.hid (Reads.below hy1.out hb4.out)
  have hr4 := Lib.hid (Reads.below hr3.out hb3.out)
  have hm := crcMore_lt 0 xs
  have he : Hid (crcMore (crcMore 0 xs) ys = crcMore 0 zs) := Lib.hid (by rw [hzs.out]; exact crcMore_append 0 xs ys (by omega))
  go_wp2_with fail
  refine (Of_any ao xs cap _ hx3.out (by omega)).mono ?_
  rintro e w4 ⟨rfl, rfl⟩
  go_wp2_with fail
  refine (More_any _ hm bo ys cap' _ hy3.out (by omega)).mono ?_
  rintro e w4 ⟨rfl, rfl⟩
  rw [he.out]
  go_wp2_with fail
  refine (Of_any po zs pc _ hr4.out (by omega)).mono ?_
  rintro e w4 ⟨rfl, rfl⟩
  go_wp2
  go_ret
  exact ⟨rfl, hb4.out⟩

theorem own : ownKnob Try.prog.godebug = none := by kernel_rfl
theorem laidOut : laidOutB Try.prog = true := by kernel_rfl

set_option maxRecDepth 100000 in
theorem lifted (os : Os) (started : os.Started) (H : Type) (enc : TypeId × Value → H) (F : Stop.Interp) :
    ReturnsInHanded {} Try.checked os 5 .any ((Rows.OpenSpec.upto Rows.sumPartsSpec).pre6 enc Try.prog Try.f5 Rows.sumPartsUptoRow.domain false) (((Rows.OpenSpec.upto Rows.sumPartsSpec).at F).post enc Try.prog Try.f5 false true false false) := by
  refine returnsInHanded_of_cond_sized (C := Try.checked) (s := Rows.OpenSpec.upto Rows.sumPartsSpec) (k := Rows.uptoSmall) rfl own started (by kernel_rfl) Try.func5
    (OpenSpec.witness (enc := enc) (C := Try.checked) (s := Rows.OpenSpec.upto Rows.sumPartsSpec) (k := Rows.uptoSmall) rfl false ⟨#[], #[.slice none 0 0, .slice none 0 0], []⟩ 8 (by kernel_rfl) (by kernel_rfl) (by kernel_rfl) (x := ([.nil, .nil], [], [])) (by kernel_rfl) rfl (by kernel_rfl)) ?_
  intro W base args ds gs before hval0 hW hcnd hk0 hsz0 _
  have hval : ∀ (j : Nat) t v, Try.f5.params[j]? = some t → args[j]? = some v → Value.okWide Try.prog W .any base t v := hval0
  have hsz : (DataW.weightsEach Try.prog (Try.f5.params.toList ++ Rows.sumPartsSpec.plain.varTypes Try.prog) (ds ++ gs)).all (· ≤ reachBytes) = true := hsz0
  have hW' := hW
  obtain ⟨p, q, hA0, hV, rfl, hfz, hnd⟩ := hW
  have hA : DataW.TrodAll enc Try.prog W 0 (fun _ => true) true Try.f5.params.toList args.toList ds p := hA0
  rw [Try.params5] at hA hval hsz
  obtain ⟨v0, vs0, d0, ds0, p0, q0, hargs, rfl, rfl, h0, r0⟩ := trodAll_cons hA
  obtain ⟨v1, vs1, d1, ds1, p1, q1, rfl, rfl, rfl, h1, r1⟩ := trodAll_cons r0
  obtain ⟨rfl, rfl, rfl⟩ := trodAll_nil r1
  obtain rfl : args = #[v0, v1] := by cases args; simp_all
  obtain ⟨rfl, rfl⟩ := trodVars_none hV
  have k0 := h0
  have lt0 : ∀ x ∈ p0, x.block < W.heap.size := by obtain ⟨m, hm⟩ := k0; exact DataW.trod_lt m _ _ _ hm
  obtain ⟨ao0, a0, cap0, rfl, sp0, fi0, nl0⟩ := arg_bytes h0 (hval 0 24 v0 rfl rfl) (fun es sp e => sized_slice hsz (j := 0) (t := 24) (e := 5) rfl (by rw [e]; rfl) Try.underlying24)
  have k1 := h1
  have lt1 : ∀ x ∈ p1, x.block < W.heap.size := by obtain ⟨m, hm⟩ := k1; exact DataW.trod_lt m _ _ _ hm
  obtain ⟨ao1, a1, cap1, rfl, sp1, fi1, nl1⟩ := arg_bytes h1 (hval 1 24 v1 rfl rfl) (fun es sp e => sized_slice hsz (j := 1) (t := 24) (e := 5) rfl (by rw [e]; rfl) Try.underlying24)
  clear hA0 hval0 hsz0
  have hk : Rows.uptoBulkAll [d0, d1] ≤ 1048576 := of_decide_eq_true hk0
  simp only [Rows.uptoBulkAll] at hk
  have u0 := bulk_len Try.underlying24 h0
  have u1 := bulk_len Try.underlying24 h1
  refine (walk ao0 a0 cap0 ao1 a1 cap1 W sp0 fi0 nl0 sp1 fi1 nl1 (by omega) (by omega)).mono fun e W' ⟨he, bel⟩ => ?_
  subst he
  exact ⟨_, rfl, _, _, _, [], _, [], hW', trodAll_mk1 (shut_bool Try.underlying4 _), (trodAll_cons_mk (Below.trod laidOut (by kernel_rfl) (of_decide_eq_true (by kernel_rfl)) k0 bel lt0) (trodAll_cons_mk (Below.trod laidOut (by kernel_rfl) (of_decide_eq_true (by kernel_rfl)) k1 bel lt1) trodAll_mk0)), rfl, bel.frame _, fun h => by cases h⟩

theorem proved : Rows.SumPartsUptoSaid :=
  OpenClaim.holds_of_cond 5 Try.f5 rfl rfl rfl rfl rfl rfl rfl ⟨rfl, rfl, rfl, rfl, rfl⟩ rfl rfl rfl rfl rfl (by kernel_rfl) Try.func5 (by kernel_rfl)
    (of_decide_eq_true (by kernel_rfl)) (by unfold Func.isWrapper; first | (rw [if_pos (by decide +kernel)]; kernel_rfl) | (rw [if_neg (by decide +kernel)]; exact ⟨rfl, rfl⟩))
    (fun os started H enc _ F => lifted os started H enc F)
end Go.Proofs.Ytbnfciefllbcdaa.lawSumPartsUpto
