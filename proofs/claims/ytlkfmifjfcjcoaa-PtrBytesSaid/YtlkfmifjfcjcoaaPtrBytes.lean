/- PtrBytes, for every input: the law returns true and each argument reads behind the call as before. No condition. -/
import Derived.Test.YtlkfmifjfcjcoaaPtrE
namespace Go.Proofs.Ytlkfmifjfcjcoaa.lawPtrBytes
open Go.ChangeShapes Go.WideShapes Go.ChangeAt Go.RowKit Go.Deep
set_option linter.unusedVariables false

set_option maxHeartbeats 4000000 in
theorem walk (p : P3) (bo : Option Addr) (bs : List UInt8) (cap : Nat) (w : World) (hp : p.Fit) (hb0 : Bytes w bo bs) (hc : bs.length ≤ cap ∧ cap ≤ 140737488351232) (hn : bo = none → cap = 0) :
    Calls Try.prog 5 #[p3V p, .slice bo bs.length cap] w fun e w' => e = .returned (.bool true) ∧ Below w.heap.size w w' := by
  obtain ⟨i0, hi, hz0, hz1, hz2⟩ := info_parts infoU8
  obtain ⟨hc1, hc2⟩ := hc
  have hB1 := fun W => Bytes_any p.a p.b p.s W hp
  have hB2 := fun W => refBytes_any p.a p.b p.s W hp
  have hB1 := Lib.hid hB1
  have hB2 := Lib.hid hB2
  have hn1 := Lib.hid hn
  have hbb := Lib.hid hb0
  have la := Lib.hid (bytesV_length bs)
  have oa := Lib.hid (bytesV_one bs)
  have hQ := Lib.hid ((Below.refl w.heap.size w).alloc (Nat.le_refl _) (.cells #[.int .i64 p.a, .int .u64 (p.b : Int), .int .u32 (p.s : Int)] 26))
  have P1 := PtrAt.first w p
  obtain ⟨c0, c1, c2⟩ := P1.cells
  have P1 := Lib.hid P1
  obtain ⟨n, hlen⟩ : ∃ n : Nat, Hid (bs.length = n) := ⟨_, Lib.hid rfl⟩
  have hlen' := hlen.out
  rw [hlen'] at hc1 ⊢
  rw [hlen'] at la
  clear hn hb0 hlen' hp
  unfold p3V
  go_enter Try.func5, Try.ntmps5
  go_wp2_with fail
  refine (hB1.out _).mono ?_
  intro e w1 h1
  obtain ⟨xo, xc, rfl, hx, _, _, hb⟩ := h1.out
  clear h1
  have P1 := Lib.hid (P1.out.next hb)
  clear c0 c1 c2
  obtain ⟨c0, c1, c2⟩ := P1.out.cells
  have hQ := Lib.hid (hQ.out.trans (hb.mono hQ.out.size))
  clear hb
  rw [show P3.bytesO ⟨p.a, p.b, p.s⟩ = p.bytesO from rfl] at hx ⊢
  obtain ⟨xs, hxs⟩ : ∃ xs : List UInt8, Hid (p.bytesO.getD [] = xs) := ⟨_, Lib.hid rfl⟩
  obtain ⟨xn, hxn⟩ : ∃ xn : Nat, Hid (xs.length = xn) := ⟨_, Lib.hid rfl⟩
  obtain ⟨xe, hxe⟩ : ∃ xe : Int, Hid (errI 51 p.bytesO = xe) := ⟨_, Lib.hid rfl⟩
  rw [hxs.out] at hx ⊢
  rw [hxn.out, hxe.out]
  go_wp2_with fail
  refine (hB2.out _).mono ?_
  intro e w2 h1
  obtain ⟨yo, yc, rfl, hy, _, _, hb⟩ := h1.out
  clear h1
  have hx := Lib.hid (Reads.below hx.out hb)
  clear c0 c1 c2
  have hQ := Lib.hid (hQ.out.trans (hb.mono hQ.out.size))
  clear hb
  rw [show P3.bytesO ⟨p.a, p.b, p.s⟩ = p.bytesO from rfl] at hy ⊢
  rw [hxs.out] at hy ⊢
  rw [hxn.out, hxe.out]
  have hbb := Lib.hid (Reads.below hbb.out hQ.out)
  go_wp2_with (first
    | (at_builtin
       refine wpList_copy rfl (.tmp 24) (.tmp 25) 31 rfl 5 i0 (.int .u8 0) 1 Try.underlying31 hi hz0 hz1 hz2 rfl w2 rfl bo n cap (bytesV bs) rfl hn1.out (la.out) hbb.out oa.out (by omega) (by omega) ?_
       intro a1 k1 w3 ho1 l1 m1 _ hb
       have ho1 := Lib.hid ho1
       have hQ := Lib.hid (hQ.out.trans (hb.mono hQ.out.size))
       have hx := Lib.hid (Reads.below hx.out hb)
       have hy := Lib.hid (Reads.below hy.out hb)
       have hbb := Lib.hid (Reads.below hbb.out hb)
       clear hb))
  have hr := Lib.hid (show Bytes w3 a1 bs from ho1.out.reads)
  have hR := Read_any a1 k1 bs w3 hr.out (by rw [hlen.out]; omega) (by omega)
  rw [hlen.out] at hR
  have hR' := Lib.hid hR
  clear hR
  refine hR'.out.mono ?_
  rintro e w4 ⟨rfl, hb⟩
  clear hR' ho1 hr
  have hQ := Lib.hid (hQ.out.trans (hb.mono hQ.out.size))
  have hx := Lib.hid (Reads.below hx.out hb)
  have hy := Lib.hid (Reads.below hy.out hb)
  have hbb := Lib.hid (Reads.below hbb.out hb)
  clear hb
  unfold p3V
  obtain ⟨r, hr⟩ : ∃ r : P3, Hid ((p3O bs).getD p3z = r) := ⟨_, Lib.hid rfl⟩
  obtain ⟨re, hre⟩ : ∃ re : Int, Hid (errI 51 (p3O bs) = re) := ⟨_, Lib.hid rfl⟩
  rw [hr.out, hre.out]
  have hs4 := hQ.out.size
  have hQ := Lib.hid (hQ.out.alloc hs4 (.cells #[.int .i64 r.a, .int .u64 (r.b : Int), .int .u32 (r.s : Int)] 26))
  have R1 := PtrAt.first w4 r
  have hx := Lib.hid (Reads.alloc hx.out (.cells #[.int .i64 r.a, .int .u64 (r.b : Int), .int .u32 (r.s : Int)] 26))
  have hy := Lib.hid (Reads.alloc hy.out (.cells #[.int .i64 r.a, .int .u64 (r.b : Int), .int .u32 (r.s : Int)] 26))
  have hbb := Lib.hid (Reads.alloc hbb.out (.cells #[.int .i64 r.a, .int .u64 (r.b : Int), .int .u32 (r.s : Int)] 26))
  have R1 := Lib.hid R1
  have hR := fun (W : World) (h : Bytes W bo bs) => refRead_any bo cap bs W h (by rw [hlen.out]; omega) (by omega)
  rw [hlen.out] at hR
  have hR' := Lib.hid hR
  clear hR
  go_wp2_with fail
  refine (hR'.out _ hbb.out).mono ?_
  rintro e w5 ⟨rfl, hb⟩
  unfold p3V
  rw [hr.out, hre.out]
  have hQ := Lib.hid (hQ.out.trans (hb.mono (by have := hQ.out.size; simp at this ⊢; omega)))
  have hx := Lib.hid (Reads.below hx.out hb)
  have hy := Lib.hid (Reads.below hy.out hb)
  have R1 := R1.out.next hb
  clear hb hR' hbb
  have hs5 := hQ.out.size
  have hlt := Blk.lt R1
  have hQ := Lib.hid (hQ.out.alloc hs5 (.cells #[.int .i64 r.a, .int .u64 (r.b : Int), .int .u32 (r.s : Int)] 26))
  have S1 := PtrAt.first w5 r
  have R1 := R1.alloc (.cells #[.int .i64 r.a, .int .u64 (r.b : Int), .int .u32 (r.s : Int)] 26)
  have hx := Lib.hid (Reads.alloc hx.out (.cells #[.int .i64 r.a, .int .u64 (r.b : Int), .int .u32 (r.s : Int)] 26))
  have hy := Lib.hid (Reads.alloc hy.out (.cells #[.int .i64 r.a, .int .u64 (r.b : Int), .int .u32 (r.s : Int)] 26))
  have R1 := Lib.hid R1
  have S1 := Lib.hid S1
  go_wp2_with fail
  refine (alive_any _).mono ?_
  rintro e w6 ⟨rfl, hb⟩
  have hQ := Lib.hid (hQ.out.trans (hb.mono (by have := hQ.out.size; simp at this ⊢; omega)))
  have hx := Lib.hid (Reads.below hx.out hb)
  have hy := Lib.hid (Reads.below hy.out hb)
  have R1 := R1.out.next hb
  have S1 := S1.out.next hb
  clear hb
  obtain ⟨c0, c1, c2⟩ := R1.cells
  obtain ⟨c3, c4, c5⟩ := S1.cells
  have R1 := Lib.hid R1
  have S1 := Lib.hid S1
  have q1 : (convert 31 9 (.slice xo xn xc)).run Try.prog w6 = .ok (.string (strOf xs)) w6 := str_at xn xc hx.out hxn.out
  have q2 : (convert 31 9 (.slice yo xn yc)).run Try.prog w6 = .ok (.string (strOf xs)) w6 := str_at xn yc hy.out hxn.out
  go_wp2
  go_ret
  exact ⟨rfl, hQ.out⟩


theorem own : ownKnob Try.prog.godebug = none := by kernel_rfl
theorem laidOut : laidOutB Try.prog = true := by kernel_rfl

set_option maxRecDepth 100000 in
theorem lifted (os : Os) (started : os.Started) (H : Type) (enc : TypeId × Value → H) :
    ReturnsInHanded {} Try.checked os 5 .any (Rows.ptrBytesSpec.pre6 enc Try.prog Try.f5 Rows.ptrBytesRow.domain false) (Rows.ptrBytesSpec.post enc Try.prog Try.f5 false true false false) := by
  refine returnsInHanded_of_change_sized (C := Try.checked) own started (by kernel_rfl) Try.func5
    (ChangeSpec.witness6 (enc := enc) (C := Try.checked) false ⟨#[], #[.agg #[.int .i64 0, .int .u64 0, .int .u32 0], .slice none 0 0], []⟩ 8 (by kernel_rfl) (by kernel_rfl) (by kernel_rfl) (by kernel_rfl)) ?_
  intro W base args ds gs before hval0 hW hcnd hsz0 _
  have hval : ∀ (j : Nat) t v, Try.f5.params[j]? = some t → args[j]? = some v → Value.okWide Try.prog W .any base t v := hval0
  have hsz : (DataW.weightsEach Try.prog (Try.f5.params.toList ++ Rows.ptrBytesSpec.plain.varTypes Try.prog) (ds ++ gs)).all (· ≤ reachBytes) = true := hsz0
  have hW' := hW
  obtain ⟨p, q, hA0, hV, rfl, hfz, hnd⟩ := hW
  have hA : DataW.TrodAll enc Try.prog W 0 (fun _ => true) true Try.f5.params.toList args.toList ds p := hA0
  rw [Try.params5] at hA hval hsz
  obtain ⟨v0, vs0, d0, ds0, p0, q0, hargs, rfl, rfl, h0, r0⟩ := trodAll_cons hA
  obtain ⟨v1, vs1, d1, ds1, p1, q1, rfl, rfl, rfl, h1, r1⟩ := trodAll_cons r0
  obtain ⟨rfl, rfl, rfl⟩ := trodAll_nil r1
  obtain rfl : args = #[v0, v1] := by cases args; simp_all
  obtain ⟨rfl, rfl⟩ := trodVars_none hV
  obtain ⟨a0, rfl, rfl, rfl, wf0⟩ := open_ptr (hval 0 26 v0 rfl rfl) h0
  have k1 := h1
  have lt1 : ∀ x ∈ p1, x.block < W.heap.size := by obtain ⟨m, hm⟩ := k1; exact DataW.trod_lt m _ _ _ hm
  obtain ⟨ao1, a1, cap1, rfl, sp1, fi1, nl1⟩ := arg_bytes h1 (hval 1 31 v1 rfl rfl) (fun es sp e => sized_slice hsz (j := 1) (t := 31) (e := 5) rfl (by rw [e]; rfl) Try.underlying31)
  clear hA0 hval0 hsz0
  refine (walk a0 ao1 a1 cap1 W wf0 sp1 fi1 nl1).mono fun e W' ⟨he, bel⟩ => ?_
  subst he
  exact ⟨_, rfl, _, _, _, [], _, [], hW', trodAll_mk1 (shut_bool Try.underlying4 _), (trodAll_cons_mk (shut_ptr wf0) (trodAll_cons_mk (Below.trod laidOut (by kernel_rfl) (of_decide_eq_true (by kernel_rfl)) k1 bel lt1) trodAll_mk0)), rfl, bel.frame _, fun h => by cases h⟩

theorem proved : Rows.PtrBytesSaid :=
  OpenClaim.holds_of_wide 5 Try.f5 rfl rfl rfl rfl rfl rfl rfl ⟨rfl, rfl, rfl, rfl, rfl⟩ rfl rfl rfl rfl rfl (by kernel_rfl) Try.func5 (by kernel_rfl)
    (of_decide_eq_true (by kernel_rfl)) (by unfold Func.isWrapper; first | (rw [if_pos (by decide +kernel)]; kernel_rfl) | (rw [if_neg (by decide +kernel)]; exact ⟨rfl, rfl⟩))
    (fun os started H enc _ => lifted os started H enc)
end Go.Proofs.Ytlkfmifjfcjcoaa.lawPtrBytes
