/- FieldBack, for every input: the law returns true and each argument reads behind the call as before. No condition. -/
import Derived.Test.YtiaihhgafnageaaFieldM
namespace Go.Proofs.Ytiaihhgafnageaa.lawFieldBack
open Go.ChangeShapes Go.WideShapes Go.ChangeAt Go.RowKit Go.Deep
set_option linter.unusedVariables false

set_option maxHeartbeats 4000000 in
theorem way111 (ao : Option Addr) (ws : List Int) (cap : Nat) (bo : Option Addr) (zs : List Nat) (cap1 : Nat) (co : Option Addr) (bs : List UInt8) (cap2 : Nat) (w : World) (hx1 : Hid (Ints w ao ws)) (hf1 : Hid (I64s ws))
    (hy1 : Hid (U64s w bo zs)) (hg1 : Hid (Fit64 zs)) (hz1 : Hid (Bytes w co bs)) (hc1 : bs.length ≤ cap2) (hc2 : cap2 ≤ 140737488351232) (hn2 : Hid (co = none → cap2 = 0))
    (x : List UInt8) (hP : Hid (putL ws zs = some x)) (l : List Nat) (hG : Hid (getL ws bs = some l)) (ts : List (List UInt8)) (hS : Hid (splitL bs = some ts)) :
    Calls Try.prog 7 #[.slice ao ws.length cap, .slice bo zs.length cap1, .slice co bs.length cap2] w fun e w' => e = .returned (.bool true) ∧ Below w.heap.size w w' := by
  obtain ⟨j0, hj, hy0, hy1', hy2⟩ := info_parts infoU8
  have lb := Lib.hid (bytesV_length bs)
  have ob := Lib.hid (bytesV_one bs)
  have hfl : Hid (Fit64 l) := Lib.hid ⟨getL_fit hG.out, by have := (getL_length hG.out).2.2; have := hf1.out.2; omega⟩
  have htl : ts.length ≤ 65535 := by have := splitL_length (b := bs); rw [hS.out] at this; exact this
  go_enter Try.func7, Try.ntmps7
  go_wp2_with fail
  refine (alive_any w).mono ?_
  rintro e w1 ⟨rfl, hb1⟩
  have hb1 := Lib.hid hb1
  go_wp2_with fail
  refine (Put_any ao bo cap cap1 ws zs w1 (Reads.below hx1.out hb1.out) (Reads.below hy1.out hb1.out) hf1.out hg1.out).mono ?_
  intro e w2 hR
  obtain ⟨po, pc, rfl, hp, hpc, hpm, _, hb2⟩ := hR.yes hP.out
  clear hR
  have hb2 := Lib.hid (hb1.out.trans (hb2.mono hb1.out.size))
  go_wp2_with fail
  refine (Get_any ao po cap pc ws x w2 (Reads.below hx1.out hb2.out) hp.out hf1.out hpc hpm).mono ?_
  intro e w3 hR
  obtain ⟨qo, qc, rfl, hq, hb3⟩ := hR.yes (getL_putL hP.out)
  clear hR hp
  have hb3 := Lib.hid (hb2.out.trans (hb3.mono hb2.out.size))
  go_wp2_with fail
  refine (SameNums_any qo bo qc cap1 zs zs w3 hq.out (Reads.below hy1.out hb3.out) hg1.out hg1.out).mono ?_
  rintro e w4 ⟨rfl, hb4⟩
  rw [decide_eq_true rfl]
  have hb4 := Lib.hid (hb3.out.trans (hb4.mono hb3.out.size))
  go_wp2_with fail
  refine (Get_any ao co cap cap2 ws bs w4 (Reads.below hx1.out hb4.out) (Reads.below hz1.out hb4.out) hf1.out hc1 (by omega)).mono ?_
  intro e w5 hR
  obtain ⟨ro, rc, rfl, hr, hb5⟩ := hR.yes hG.out
  clear hR
  have hb5 := Lib.hid (hb4.out.trans (hb5.mono hb4.out.size))
  go_wp2_with fail
  refine (Put_any ao ro cap rc ws l w5 (Reads.below hx1.out hb5.out) hr.out hf1.out hfl.out).mono ?_
  intro e w6 hR
  obtain ⟨so, sc, rfl, hs, _, _, _, hb6⟩ := hR.yes (putL_getL hG.out)
  clear hR hr
  have hb6 := Lib.hid (hb5.out.trans (hb6.mono hb5.out.size))
  have q1 := str_at _ sc hs.out rfl
  have q2 := str_at _ cap2 (Reads.below hz1.out hb6.out) rfl
  go_wp2_with (at_builtin; refine wpList_copy rfl (.tmp 67) (.tmp 68) 26 rfl 5 j0 (.int .u8 0) 1 Try.underlying26 hj hy0 hy1' hy2 rfl w6 rfl co bs.length cap2 (bytesV bs) rfl hn2.out lb.out (Reads.below hz1.out hb6.out) ob.out (by omega) (by omega) ?_; intro a2 c2 w7 ho2 hc2' hc3 hnn hb7; have ho2 := Lib.hid ho2; have hb7 := Lib.hid hb7; have hnn := Lib.hid hnn)
  have hr2 := Lib.hid (show Bytes w7 a2 bs from ho2.out.reads)
  have hb8 := Lib.hid (hb6.out.trans (hb7.out.mono hb6.out.size))
  clear ho2
  clear q1 q2
  refine (Split_any a2 c2 bs w7 hr2.out hc2' hc3 hnn.out).mono ?_
  intro e w8 hR
  obtain ⟨uo, uc, rfl, hu, hb9⟩ := hR.yes hS.out
  clear hR
  have hb9 := Lib.hid (hb8.out.trans (hb9.mono hb8.out.size))
  go_wp2_with fail
  refine (Join_any uo uc ts w8 hu.out (by omega)).mono ?_
  intro e w9 hR
  obtain ⟨vo, vc, rfl, hv, _, _, _, hb10⟩ := hR.yes (joinL_splitL hS.out)
  clear hR hu
  have hb10 := Lib.hid (hb9.out.trans (hb10.mono hb9.out.size))
  have q3 := str_at _ vc hv.out rfl
  have q4 := str_at _ cap2 (Reads.below hz1.out hb10.out) rfl
  go_wp2
  go_ret
  exact ⟨rfl, hb10.out⟩

set_option maxHeartbeats 4000000 in
theorem way110 (ao : Option Addr) (ws : List Int) (cap : Nat) (bo : Option Addr) (zs : List Nat) (cap1 : Nat) (co : Option Addr) (bs : List UInt8) (cap2 : Nat) (w : World) (hx1 : Hid (Ints w ao ws)) (hf1 : Hid (I64s ws))
    (hy1 : Hid (U64s w bo zs)) (hg1 : Hid (Fit64 zs)) (hz1 : Hid (Bytes w co bs)) (hc1 : bs.length ≤ cap2) (hc2 : cap2 ≤ 140737488351232) (hn2 : Hid (co = none → cap2 = 0))
    (x : List UInt8) (hP : Hid (putL ws zs = some x)) (l : List Nat) (hG : Hid (getL ws bs = some l)) (hS : Hid (splitL bs = none)) :
    Calls Try.prog 7 #[.slice ao ws.length cap, .slice bo zs.length cap1, .slice co bs.length cap2] w fun e w' => e = .returned (.bool true) ∧ Below w.heap.size w w' := by
  obtain ⟨j0, hj, hy0, hy1', hy2⟩ := info_parts infoU8
  have lb := Lib.hid (bytesV_length bs)
  have ob := Lib.hid (bytesV_one bs)
  have hfl : Hid (Fit64 l) := Lib.hid ⟨getL_fit hG.out, by have := (getL_length hG.out).2.2; have := hf1.out.2; omega⟩
  go_enter Try.func7, Try.ntmps7
  go_wp2_with fail
  refine (alive_any w).mono ?_
  rintro e w1 ⟨rfl, hb1⟩
  have hb1 := Lib.hid hb1
  go_wp2_with fail
  refine (Put_any ao bo cap cap1 ws zs w1 (Reads.below hx1.out hb1.out) (Reads.below hy1.out hb1.out) hf1.out hg1.out).mono ?_
  intro e w2 hR
  obtain ⟨po, pc, rfl, hp, hpc, hpm, _, hb2⟩ := hR.yes hP.out
  clear hR
  have hb2 := Lib.hid (hb1.out.trans (hb2.mono hb1.out.size))
  go_wp2_with fail
  refine (Get_any ao po cap pc ws x w2 (Reads.below hx1.out hb2.out) hp.out hf1.out hpc hpm).mono ?_
  intro e w3 hR
  obtain ⟨qo, qc, rfl, hq, hb3⟩ := hR.yes (getL_putL hP.out)
  clear hR hp
  have hb3 := Lib.hid (hb2.out.trans (hb3.mono hb2.out.size))
  go_wp2_with fail
  refine (SameNums_any qo bo qc cap1 zs zs w3 hq.out (Reads.below hy1.out hb3.out) hg1.out hg1.out).mono ?_
  rintro e w4 ⟨rfl, hb4⟩
  rw [decide_eq_true rfl]
  have hb4 := Lib.hid (hb3.out.trans (hb4.mono hb3.out.size))
  go_wp2_with fail
  refine (Get_any ao co cap cap2 ws bs w4 (Reads.below hx1.out hb4.out) (Reads.below hz1.out hb4.out) hf1.out hc1 (by omega)).mono ?_
  intro e w5 hR
  obtain ⟨ro, rc, rfl, hr, hb5⟩ := hR.yes hG.out
  clear hR
  have hb5 := Lib.hid (hb4.out.trans (hb5.mono hb4.out.size))
  go_wp2_with fail
  refine (Put_any ao ro cap rc ws l w5 (Reads.below hx1.out hb5.out) hr.out hf1.out hfl.out).mono ?_
  intro e w6 hR
  obtain ⟨so, sc, rfl, hs, _, _, _, hb6⟩ := hR.yes (putL_getL hG.out)
  clear hR hr
  have hb6 := Lib.hid (hb5.out.trans (hb6.mono hb5.out.size))
  have q1 := str_at _ sc hs.out rfl
  have q2 := str_at _ cap2 (Reads.below hz1.out hb6.out) rfl
  go_wp2_with (at_builtin; refine wpList_copy rfl (.tmp 67) (.tmp 68) 26 rfl 5 j0 (.int .u8 0) 1 Try.underlying26 hj hy0 hy1' hy2 rfl w6 rfl co bs.length cap2 (bytesV bs) rfl hn2.out lb.out (Reads.below hz1.out hb6.out) ob.out (by omega) (by omega) ?_; intro a2 c2 w7 ho2 hc2' hc3 hnn hb7; have ho2 := Lib.hid ho2; have hb7 := Lib.hid hb7; have hnn := Lib.hid hnn)
  have hr2 := Lib.hid (show Bytes w7 a2 bs from ho2.out.reads)
  have hb8 := Lib.hid (hb6.out.trans (hb7.out.mono hb6.out.size))
  clear ho2
  clear q1 q2
  refine (Split_any a2 c2 bs w7 hr2.out hc2' hc3 hnn.out).mono ?_
  intro e w8 hR
  obtain ⟨uo, uc, rfl, hb9⟩ := hR.nope hS.out
  clear hR
  have hb9 := Lib.hid (hb8.out.trans (hb9.mono hb8.out.size))
  go_wp2
  go_ret
  exact ⟨rfl, hb9.out⟩

set_option maxHeartbeats 4000000 in
theorem way101 (ao : Option Addr) (ws : List Int) (cap : Nat) (bo : Option Addr) (zs : List Nat) (cap1 : Nat) (co : Option Addr) (bs : List UInt8) (cap2 : Nat) (w : World) (hx1 : Hid (Ints w ao ws)) (hf1 : Hid (I64s ws))
    (hy1 : Hid (U64s w bo zs)) (hg1 : Hid (Fit64 zs)) (hz1 : Hid (Bytes w co bs)) (hc1 : bs.length ≤ cap2) (hc2 : cap2 ≤ 140737488351232) (hn2 : Hid (co = none → cap2 = 0))
    (x : List UInt8) (hP : Hid (putL ws zs = some x)) (hG : Hid (getL ws bs = none)) (ts : List (List UInt8)) (hS : Hid (splitL bs = some ts)) :
    Calls Try.prog 7 #[.slice ao ws.length cap, .slice bo zs.length cap1, .slice co bs.length cap2] w fun e w' => e = .returned (.bool true) ∧ Below w.heap.size w w' := by
  obtain ⟨j0, hj, hy0, hy1', hy2⟩ := info_parts infoU8
  have lb := Lib.hid (bytesV_length bs)
  have ob := Lib.hid (bytesV_one bs)
  have htl : ts.length ≤ 65535 := by have := splitL_length (b := bs); rw [hS.out] at this; exact this
  go_enter Try.func7, Try.ntmps7
  go_wp2_with fail
  refine (alive_any w).mono ?_
  rintro e w1 ⟨rfl, hb1⟩
  have hb1 := Lib.hid hb1
  go_wp2_with fail
  refine (Put_any ao bo cap cap1 ws zs w1 (Reads.below hx1.out hb1.out) (Reads.below hy1.out hb1.out) hf1.out hg1.out).mono ?_
  intro e w2 hR
  obtain ⟨po, pc, rfl, hp, hpc, hpm, _, hb2⟩ := hR.yes hP.out
  clear hR
  have hb2 := Lib.hid (hb1.out.trans (hb2.mono hb1.out.size))
  go_wp2_with fail
  refine (Get_any ao po cap pc ws x w2 (Reads.below hx1.out hb2.out) hp.out hf1.out hpc hpm).mono ?_
  intro e w3 hR
  obtain ⟨qo, qc, rfl, hq, hb3⟩ := hR.yes (getL_putL hP.out)
  clear hR hp
  have hb3 := Lib.hid (hb2.out.trans (hb3.mono hb2.out.size))
  go_wp2_with fail
  refine (SameNums_any qo bo qc cap1 zs zs w3 hq.out (Reads.below hy1.out hb3.out) hg1.out hg1.out).mono ?_
  rintro e w4 ⟨rfl, hb4⟩
  rw [decide_eq_true rfl]
  have hb4 := Lib.hid (hb3.out.trans (hb4.mono hb3.out.size))
  go_wp2_with fail
  refine (Get_any ao co cap cap2 ws bs w4 (Reads.below hx1.out hb4.out) (Reads.below hz1.out hb4.out) hf1.out hc1 (by omega)).mono ?_
  intro e w5 hR
  obtain ⟨ro, rc, rfl, hb5⟩ := hR.nope hG.out
  clear hR
  have hb6 := Lib.hid (hb4.out.trans (hb5.mono hb4.out.size))
  obtain ⟨w6, rfl⟩ : ∃ w6, w6 = w5 := ⟨_, rfl⟩
  go_wp2_with (at_builtin; refine wpList_copy rfl (.tmp 67) (.tmp 68) 26 rfl 5 j0 (.int .u8 0) 1 Try.underlying26 hj hy0 hy1' hy2 rfl w6 rfl co bs.length cap2 (bytesV bs) rfl hn2.out lb.out (Reads.below hz1.out hb6.out) ob.out (by omega) (by omega) ?_; intro a2 c2 w7 ho2 hc2' hc3 hnn hb7; have ho2 := Lib.hid ho2; have hb7 := Lib.hid hb7; have hnn := Lib.hid hnn)
  have hr2 := Lib.hid (show Bytes w7 a2 bs from ho2.out.reads)
  have hb8 := Lib.hid (hb6.out.trans (hb7.out.mono hb6.out.size))
  clear ho2
  refine (Split_any a2 c2 bs w7 hr2.out hc2' hc3 hnn.out).mono ?_
  intro e w8 hR
  obtain ⟨uo, uc, rfl, hu, hb9⟩ := hR.yes hS.out
  clear hR
  have hb9 := Lib.hid (hb8.out.trans (hb9.mono hb8.out.size))
  go_wp2_with fail
  refine (Join_any uo uc ts w8 hu.out (by omega)).mono ?_
  intro e w9 hR
  obtain ⟨vo, vc, rfl, hv, _, _, _, hb10⟩ := hR.yes (joinL_splitL hS.out)
  clear hR hu
  have hb10 := Lib.hid (hb9.out.trans (hb10.mono hb9.out.size))
  have q3 := str_at _ vc hv.out rfl
  have q4 := str_at _ cap2 (Reads.below hz1.out hb10.out) rfl
  go_wp2
  go_ret
  exact ⟨rfl, hb10.out⟩

set_option maxHeartbeats 4000000 in
theorem way100 (ao : Option Addr) (ws : List Int) (cap : Nat) (bo : Option Addr) (zs : List Nat) (cap1 : Nat) (co : Option Addr) (bs : List UInt8) (cap2 : Nat) (w : World) (hx1 : Hid (Ints w ao ws)) (hf1 : Hid (I64s ws))
    (hy1 : Hid (U64s w bo zs)) (hg1 : Hid (Fit64 zs)) (hz1 : Hid (Bytes w co bs)) (hc1 : bs.length ≤ cap2) (hc2 : cap2 ≤ 140737488351232) (hn2 : Hid (co = none → cap2 = 0))
    (x : List UInt8) (hP : Hid (putL ws zs = some x)) (hG : Hid (getL ws bs = none)) (hS : Hid (splitL bs = none)) :
    Calls Try.prog 7 #[.slice ao ws.length cap, .slice bo zs.length cap1, .slice co bs.length cap2] w fun e w' => e = .returned (.bool true) ∧ Below w.heap.size w w' := by
  obtain ⟨j0, hj, hy0, hy1', hy2⟩ := info_parts infoU8
  have lb := Lib.hid (bytesV_length bs)
  have ob := Lib.hid (bytesV_one bs)
  go_enter Try.func7, Try.ntmps7
  go_wp2_with fail
  refine (alive_any w).mono ?_
  rintro e w1 ⟨rfl, hb1⟩
  have hb1 := Lib.hid hb1
  go_wp2_with fail
  refine (Put_any ao bo cap cap1 ws zs w1 (Reads.below hx1.out hb1.out) (Reads.below hy1.out hb1.out) hf1.out hg1.out).mono ?_
  intro e w2 hR
  obtain ⟨po, pc, rfl, hp, hpc, hpm, _, hb2⟩ := hR.yes hP.out
  clear hR
  have hb2 := Lib.hid (hb1.out.trans (hb2.mono hb1.out.size))
  go_wp2_with fail
  refine (Get_any ao po cap pc ws x w2 (Reads.below hx1.out hb2.out) hp.out hf1.out hpc hpm).mono ?_
  intro e w3 hR
  obtain ⟨qo, qc, rfl, hq, hb3⟩ := hR.yes (getL_putL hP.out)
  clear hR hp
  have hb3 := Lib.hid (hb2.out.trans (hb3.mono hb2.out.size))
  go_wp2_with fail
  refine (SameNums_any qo bo qc cap1 zs zs w3 hq.out (Reads.below hy1.out hb3.out) hg1.out hg1.out).mono ?_
  rintro e w4 ⟨rfl, hb4⟩
  rw [decide_eq_true rfl]
  have hb4 := Lib.hid (hb3.out.trans (hb4.mono hb3.out.size))
  go_wp2_with fail
  refine (Get_any ao co cap cap2 ws bs w4 (Reads.below hx1.out hb4.out) (Reads.below hz1.out hb4.out) hf1.out hc1 (by omega)).mono ?_
  intro e w5 hR
  obtain ⟨ro, rc, rfl, hb5⟩ := hR.nope hG.out
  clear hR
  have hb6 := Lib.hid (hb4.out.trans (hb5.mono hb4.out.size))
  obtain ⟨w6, rfl⟩ : ∃ w6, w6 = w5 := ⟨_, rfl⟩
  go_wp2_with (at_builtin; refine wpList_copy rfl (.tmp 67) (.tmp 68) 26 rfl 5 j0 (.int .u8 0) 1 Try.underlying26 hj hy0 hy1' hy2 rfl w6 rfl co bs.length cap2 (bytesV bs) rfl hn2.out lb.out (Reads.below hz1.out hb6.out) ob.out (by omega) (by omega) ?_; intro a2 c2 w7 ho2 hc2' hc3 hnn hb7; have ho2 := Lib.hid ho2; have hb7 := Lib.hid hb7; have hnn := Lib.hid hnn)
  have hr2 := Lib.hid (show Bytes w7 a2 bs from ho2.out.reads)
  have hb8 := Lib.hid (hb6.out.trans (hb7.out.mono hb6.out.size))
  clear ho2
  refine (Split_any a2 c2 bs w7 hr2.out hc2' hc3 hnn.out).mono ?_
  intro e w8 hR
  obtain ⟨uo, uc, rfl, hb9⟩ := hR.nope hS.out
  clear hR
  have hb9 := Lib.hid (hb8.out.trans (hb9.mono hb8.out.size))
  go_wp2
  go_ret
  exact ⟨rfl, hb9.out⟩

set_option maxHeartbeats 4000000 in
theorem way011 (ao : Option Addr) (ws : List Int) (cap : Nat) (bo : Option Addr) (zs : List Nat) (cap1 : Nat) (co : Option Addr) (bs : List UInt8) (cap2 : Nat) (w : World) (hx1 : Hid (Ints w ao ws)) (hf1 : Hid (I64s ws))
    (hy1 : Hid (U64s w bo zs)) (hg1 : Hid (Fit64 zs)) (hz1 : Hid (Bytes w co bs)) (hc1 : bs.length ≤ cap2) (hc2 : cap2 ≤ 140737488351232) (hn2 : Hid (co = none → cap2 = 0))
    (hP : Hid (putL ws zs = none)) (l : List Nat) (hG : Hid (getL ws bs = some l)) (ts : List (List UInt8)) (hS : Hid (splitL bs = some ts)) :
    Calls Try.prog 7 #[.slice ao ws.length cap, .slice bo zs.length cap1, .slice co bs.length cap2] w fun e w' => e = .returned (.bool true) ∧ Below w.heap.size w w' := by
  obtain ⟨j0, hj, hy0, hy1', hy2⟩ := info_parts infoU8
  have lb := Lib.hid (bytesV_length bs)
  have ob := Lib.hid (bytesV_one bs)
  have hfl : Hid (Fit64 l) := Lib.hid ⟨getL_fit hG.out, by have := (getL_length hG.out).2.2; have := hf1.out.2; omega⟩
  have htl : ts.length ≤ 65535 := by have := splitL_length (b := bs); rw [hS.out] at this; exact this
  go_enter Try.func7, Try.ntmps7
  go_wp2_with fail
  refine (alive_any w).mono ?_
  rintro e w1 ⟨rfl, hb1⟩
  have hb1 := Lib.hid hb1
  go_wp2_with fail
  refine (Put_any ao bo cap cap1 ws zs w1 (Reads.below hx1.out hb1.out) (Reads.below hy1.out hb1.out) hf1.out hg1.out).mono ?_
  intro e w2 hR
  obtain ⟨po, pc, rfl, hb2⟩ := hR.nope hP.out
  clear hR
  have hb4 := Lib.hid (hb1.out.trans (hb2.mono hb1.out.size))
  obtain ⟨w4, rfl⟩ : ∃ w4, w4 = w2 := ⟨_, rfl⟩
  go_wp2_with fail
  refine (Get_any ao co cap cap2 ws bs w4 (Reads.below hx1.out hb4.out) (Reads.below hz1.out hb4.out) hf1.out hc1 (by omega)).mono ?_
  intro e w5 hR
  obtain ⟨ro, rc, rfl, hr, hb5⟩ := hR.yes hG.out
  clear hR
  have hb5 := Lib.hid (hb4.out.trans (hb5.mono hb4.out.size))
  go_wp2_with fail
  refine (Put_any ao ro cap rc ws l w5 (Reads.below hx1.out hb5.out) hr.out hf1.out hfl.out).mono ?_
  intro e w6 hR
  obtain ⟨so, sc, rfl, hs, _, _, _, hb6⟩ := hR.yes (putL_getL hG.out)
  clear hR hr
  have hb6 := Lib.hid (hb5.out.trans (hb6.mono hb5.out.size))
  have q1 := str_at _ sc hs.out rfl
  have q2 := str_at _ cap2 (Reads.below hz1.out hb6.out) rfl
  go_wp2_with (at_builtin; refine wpList_copy rfl (.tmp 67) (.tmp 68) 26 rfl 5 j0 (.int .u8 0) 1 Try.underlying26 hj hy0 hy1' hy2 rfl w6 rfl co bs.length cap2 (bytesV bs) rfl hn2.out lb.out (Reads.below hz1.out hb6.out) ob.out (by omega) (by omega) ?_; intro a2 c2 w7 ho2 hc2' hc3 hnn hb7; have ho2 := Lib.hid ho2; have hb7 := Lib.hid hb7; have hnn := Lib.hid hnn)
  have hr2 := Lib.hid (show Bytes w7 a2 bs from ho2.out.reads)
  have hb8 := Lib.hid (hb6.out.trans (hb7.out.mono hb6.out.size))
  clear ho2
  clear q1 q2
  refine (Split_any a2 c2 bs w7 hr2.out hc2' hc3 hnn.out).mono ?_
  intro e w8 hR
  obtain ⟨uo, uc, rfl, hu, hb9⟩ := hR.yes hS.out
  clear hR
  have hb9 := Lib.hid (hb8.out.trans (hb9.mono hb8.out.size))
  go_wp2_with fail
  refine (Join_any uo uc ts w8 hu.out (by omega)).mono ?_
  intro e w9 hR
  obtain ⟨vo, vc, rfl, hv, _, _, _, hb10⟩ := hR.yes (joinL_splitL hS.out)
  clear hR hu
  have hb10 := Lib.hid (hb9.out.trans (hb10.mono hb9.out.size))
  have q3 := str_at _ vc hv.out rfl
  have q4 := str_at _ cap2 (Reads.below hz1.out hb10.out) rfl
  go_wp2
  go_ret
  exact ⟨rfl, hb10.out⟩

set_option maxHeartbeats 4000000 in
theorem way010 (ao : Option Addr) (ws : List Int) (cap : Nat) (bo : Option Addr) (zs : List Nat) (cap1 : Nat) (co : Option Addr) (bs : List UInt8) (cap2 : Nat) (w : World) (hx1 : Hid (Ints w ao ws)) (hf1 : Hid (I64s ws))
    (hy1 : Hid (U64s w bo zs)) (hg1 : Hid (Fit64 zs)) (hz1 : Hid (Bytes w co bs)) (hc1 : bs.length ≤ cap2) (hc2 : cap2 ≤ 140737488351232) (hn2 : Hid (co = none → cap2 = 0))
    (hP : Hid (putL ws zs = none)) (l : List Nat) (hG : Hid (getL ws bs = some l)) (hS : Hid (splitL bs = none)) :
    Calls Try.prog 7 #[.slice ao ws.length cap, .slice bo zs.length cap1, .slice co bs.length cap2] w fun e w' => e = .returned (.bool true) ∧ Below w.heap.size w w' := by
  obtain ⟨j0, hj, hy0, hy1', hy2⟩ := info_parts infoU8
  have lb := Lib.hid (bytesV_length bs)
  have ob := Lib.hid (bytesV_one bs)
  have hfl : Hid (Fit64 l) := Lib.hid ⟨getL_fit hG.out, by have := (getL_length hG.out).2.2; have := hf1.out.2; omega⟩
  go_enter Try.func7, Try.ntmps7
  go_wp2_with fail
  refine (alive_any w).mono ?_
  rintro e w1 ⟨rfl, hb1⟩
  have hb1 := Lib.hid hb1
  go_wp2_with fail
  refine (Put_any ao bo cap cap1 ws zs w1 (Reads.below hx1.out hb1.out) (Reads.below hy1.out hb1.out) hf1.out hg1.out).mono ?_
  intro e w2 hR
  obtain ⟨po, pc, rfl, hb2⟩ := hR.nope hP.out
  clear hR
  have hb4 := Lib.hid (hb1.out.trans (hb2.mono hb1.out.size))
  obtain ⟨w4, rfl⟩ : ∃ w4, w4 = w2 := ⟨_, rfl⟩
  go_wp2_with fail
  refine (Get_any ao co cap cap2 ws bs w4 (Reads.below hx1.out hb4.out) (Reads.below hz1.out hb4.out) hf1.out hc1 (by omega)).mono ?_
  intro e w5 hR
  obtain ⟨ro, rc, rfl, hr, hb5⟩ := hR.yes hG.out
  clear hR
  have hb5 := Lib.hid (hb4.out.trans (hb5.mono hb4.out.size))
  go_wp2_with fail
  refine (Put_any ao ro cap rc ws l w5 (Reads.below hx1.out hb5.out) hr.out hf1.out hfl.out).mono ?_
  intro e w6 hR
  obtain ⟨so, sc, rfl, hs, _, _, _, hb6⟩ := hR.yes (putL_getL hG.out)
  clear hR hr
  have hb6 := Lib.hid (hb5.out.trans (hb6.mono hb5.out.size))
  have q1 := str_at _ sc hs.out rfl
  have q2 := str_at _ cap2 (Reads.below hz1.out hb6.out) rfl
  go_wp2_with (at_builtin; refine wpList_copy rfl (.tmp 67) (.tmp 68) 26 rfl 5 j0 (.int .u8 0) 1 Try.underlying26 hj hy0 hy1' hy2 rfl w6 rfl co bs.length cap2 (bytesV bs) rfl hn2.out lb.out (Reads.below hz1.out hb6.out) ob.out (by omega) (by omega) ?_; intro a2 c2 w7 ho2 hc2' hc3 hnn hb7; have ho2 := Lib.hid ho2; have hb7 := Lib.hid hb7; have hnn := Lib.hid hnn)
  have hr2 := Lib.hid (show Bytes w7 a2 bs from ho2.out.reads)
  have hb8 := Lib.hid (hb6.out.trans (hb7.out.mono hb6.out.size))
  clear ho2
  clear q1 q2
  refine (Split_any a2 c2 bs w7 hr2.out hc2' hc3 hnn.out).mono ?_
  intro e w8 hR
  obtain ⟨uo, uc, rfl, hb9⟩ := hR.nope hS.out
  clear hR
  have hb9 := Lib.hid (hb8.out.trans (hb9.mono hb8.out.size))
  go_wp2
  go_ret
  exact ⟨rfl, hb9.out⟩

set_option maxHeartbeats 4000000 in
theorem way001 (ao : Option Addr) (ws : List Int) (cap : Nat) (bo : Option Addr) (zs : List Nat) (cap1 : Nat) (co : Option Addr) (bs : List UInt8) (cap2 : Nat) (w : World) (hx1 : Hid (Ints w ao ws)) (hf1 : Hid (I64s ws))
    (hy1 : Hid (U64s w bo zs)) (hg1 : Hid (Fit64 zs)) (hz1 : Hid (Bytes w co bs)) (hc1 : bs.length ≤ cap2) (hc2 : cap2 ≤ 140737488351232) (hn2 : Hid (co = none → cap2 = 0))
    (hP : Hid (putL ws zs = none)) (hG : Hid (getL ws bs = none)) (ts : List (List UInt8)) (hS : Hid (splitL bs = some ts)) :
    Calls Try.prog 7 #[.slice ao ws.length cap, .slice bo zs.length cap1, .slice co bs.length cap2] w fun e w' => e = .returned (.bool true) ∧ Below w.heap.size w w' := by
  obtain ⟨j0, hj, hy0, hy1', hy2⟩ := info_parts infoU8
  have lb := Lib.hid (bytesV_length bs)
  have ob := Lib.hid (bytesV_one bs)
  have htl : ts.length ≤ 65535 := by have := splitL_length (b := bs); rw [hS.out] at this; exact this
  go_enter Try.func7, Try.ntmps7
  go_wp2_with fail
  refine (alive_any w).mono ?_
  rintro e w1 ⟨rfl, hb1⟩
  have hb1 := Lib.hid hb1
  go_wp2_with fail
  refine (Put_any ao bo cap cap1 ws zs w1 (Reads.below hx1.out hb1.out) (Reads.below hy1.out hb1.out) hf1.out hg1.out).mono ?_
  intro e w2 hR
  obtain ⟨po, pc, rfl, hb2⟩ := hR.nope hP.out
  clear hR
  have hb4 := Lib.hid (hb1.out.trans (hb2.mono hb1.out.size))
  obtain ⟨w4, rfl⟩ : ∃ w4, w4 = w2 := ⟨_, rfl⟩
  go_wp2_with fail
  refine (Get_any ao co cap cap2 ws bs w4 (Reads.below hx1.out hb4.out) (Reads.below hz1.out hb4.out) hf1.out hc1 (by omega)).mono ?_
  intro e w5 hR
  obtain ⟨ro, rc, rfl, hb5⟩ := hR.nope hG.out
  clear hR
  have hb6 := Lib.hid (hb4.out.trans (hb5.mono hb4.out.size))
  obtain ⟨w6, rfl⟩ : ∃ w6, w6 = w5 := ⟨_, rfl⟩
  go_wp2_with (at_builtin; refine wpList_copy rfl (.tmp 67) (.tmp 68) 26 rfl 5 j0 (.int .u8 0) 1 Try.underlying26 hj hy0 hy1' hy2 rfl w6 rfl co bs.length cap2 (bytesV bs) rfl hn2.out lb.out (Reads.below hz1.out hb6.out) ob.out (by omega) (by omega) ?_; intro a2 c2 w7 ho2 hc2' hc3 hnn hb7; have ho2 := Lib.hid ho2; have hb7 := Lib.hid hb7; have hnn := Lib.hid hnn)
  have hr2 := Lib.hid (show Bytes w7 a2 bs from ho2.out.reads)
  have hb8 := Lib.hid (hb6.out.trans (hb7.out.mono hb6.out.size))
  clear ho2
  refine (Split_any a2 c2 bs w7 hr2.out hc2' hc3 hnn.out).mono ?_
  intro e w8 hR
  obtain ⟨uo, uc, rfl, hu, hb9⟩ := hR.yes hS.out
  clear hR
  have hb9 := Lib.hid (hb8.out.trans (hb9.mono hb8.out.size))
  go_wp2_with fail
  refine (Join_any uo uc ts w8 hu.out (by omega)).mono ?_
  intro e w9 hR
  obtain ⟨vo, vc, rfl, hv, _, _, _, hb10⟩ := hR.yes (joinL_splitL hS.out)
  clear hR hu
  have hb10 := Lib.hid (hb9.out.trans (hb10.mono hb9.out.size))
  have q3 := str_at _ vc hv.out rfl
  have q4 := str_at _ cap2 (Reads.below hz1.out hb10.out) rfl
  go_wp2
  go_ret
  exact ⟨rfl, hb10.out⟩

set_option maxHeartbeats 4000000 in
theorem way000 (ao : Option Addr) (ws : List Int) (cap : Nat) (bo : Option Addr) (zs : List Nat) (cap1 : Nat) (co : Option Addr) (bs : List UInt8) (cap2 : Nat) (w : World) (hx1 : Hid (Ints w ao ws)) (hf1 : Hid (I64s ws))
    (hy1 : Hid (U64s w bo zs)) (hg1 : Hid (Fit64 zs)) (hz1 : Hid (Bytes w co bs)) (hc1 : bs.length ≤ cap2) (hc2 : cap2 ≤ 140737488351232) (hn2 : Hid (co = none → cap2 = 0))
    (hP : Hid (putL ws zs = none)) (hG : Hid (getL ws bs = none)) (hS : Hid (splitL bs = none)) :
    Calls Try.prog 7 #[.slice ao ws.length cap, .slice bo zs.length cap1, .slice co bs.length cap2] w fun e w' => e = .returned (.bool true) ∧ Below w.heap.size w w' := by
  obtain ⟨j0, hj, hy0, hy1', hy2⟩ := info_parts infoU8
  have lb := Lib.hid (bytesV_length bs)
  have ob := Lib.hid (bytesV_one bs)
  go_enter Try.func7, Try.ntmps7
  go_wp2_with fail
  refine (alive_any w).mono ?_
  rintro e w1 ⟨rfl, hb1⟩
  have hb1 := Lib.hid hb1
  go_wp2_with fail
  refine (Put_any ao bo cap cap1 ws zs w1 (Reads.below hx1.out hb1.out) (Reads.below hy1.out hb1.out) hf1.out hg1.out).mono ?_
  intro e w2 hR
  obtain ⟨po, pc, rfl, hb2⟩ := hR.nope hP.out
  clear hR
  have hb4 := Lib.hid (hb1.out.trans (hb2.mono hb1.out.size))
  obtain ⟨w4, rfl⟩ : ∃ w4, w4 = w2 := ⟨_, rfl⟩
  go_wp2_with fail
  refine (Get_any ao co cap cap2 ws bs w4 (Reads.below hx1.out hb4.out) (Reads.below hz1.out hb4.out) hf1.out hc1 (by omega)).mono ?_
  intro e w5 hR
  obtain ⟨ro, rc, rfl, hb5⟩ := hR.nope hG.out
  clear hR
  have hb6 := Lib.hid (hb4.out.trans (hb5.mono hb4.out.size))
  obtain ⟨w6, rfl⟩ : ∃ w6, w6 = w5 := ⟨_, rfl⟩
  go_wp2_with (at_builtin; refine wpList_copy rfl (.tmp 67) (.tmp 68) 26 rfl 5 j0 (.int .u8 0) 1 Try.underlying26 hj hy0 hy1' hy2 rfl w6 rfl co bs.length cap2 (bytesV bs) rfl hn2.out lb.out (Reads.below hz1.out hb6.out) ob.out (by omega) (by omega) ?_; intro a2 c2 w7 ho2 hc2' hc3 hnn hb7; have ho2 := Lib.hid ho2; have hb7 := Lib.hid hb7; have hnn := Lib.hid hnn)
  have hr2 := Lib.hid (show Bytes w7 a2 bs from ho2.out.reads)
  have hb8 := Lib.hid (hb6.out.trans (hb7.out.mono hb6.out.size))
  clear ho2
  refine (Split_any a2 c2 bs w7 hr2.out hc2' hc3 hnn.out).mono ?_
  intro e w8 hR
  obtain ⟨uo, uc, rfl, hb9⟩ := hR.nope hS.out
  clear hR
  have hb9 := Lib.hid (hb8.out.trans (hb9.mono hb8.out.size))
  go_wp2
  go_ret
  exact ⟨rfl, hb9.out⟩

theorem walk (ao : Option Addr) (ws : List Int) (cap : Nat) (bo : Option Addr) (zs : List Nat) (cap1 : Nat) (co : Option Addr) (bs : List UInt8) (cap2 : Nat) (w : World) (hx : Ints w ao ws) (hf : I64s ws) (hn : ao = none → cap = 0)
    (hy : U64s w bo zs) (hg : Fit64 zs) (hn' : bo = none → cap1 = 0) (hz : Bytes w co bs) (hh : bs.length ≤ cap2 ∧ cap2 ≤ 140737488351232) (hm : co = none → cap2 = 0) :
    Calls Try.prog 7 #[.slice ao ws.length cap, .slice bo zs.length cap1, .slice co bs.length cap2] w fun e w' => e = .returned (.bool true) ∧ Below w.heap.size w w' := by
  cases hP : putL ws zs <;> cases hG : getL ws bs <;> cases hS : splitL bs
  · exact way000 ao ws cap bo zs cap1 co bs cap2 w hx hf hy hg hz hh.1 hh.2 hm hP hG hS
  · exact way001 ao ws cap bo zs cap1 co bs cap2 w hx hf hy hg hz hh.1 hh.2 hm hP hG _ hS
  · exact way010 ao ws cap bo zs cap1 co bs cap2 w hx hf hy hg hz hh.1 hh.2 hm hP _ hG hS
  · exact way011 ao ws cap bo zs cap1 co bs cap2 w hx hf hy hg hz hh.1 hh.2 hm hP _ hG _ hS
  · exact way100 ao ws cap bo zs cap1 co bs cap2 w hx hf hy hg hz hh.1 hh.2 hm _ hP hG hS
  · exact way101 ao ws cap bo zs cap1 co bs cap2 w hx hf hy hg hz hh.1 hh.2 hm _ hP hG _ hS
  · exact way110 ao ws cap bo zs cap1 co bs cap2 w hx hf hy hg hz hh.1 hh.2 hm _ hP _ hG hS
  · exact way111 ao ws cap bo zs cap1 co bs cap2 w hx hf hy hg hz hh.1 hh.2 hm _ hP _ hG _ hS

theorem own : ownKnob Try.prog.godebug = none := by kernel_rfl
theorem laidOut : laidOutB Try.prog = true := by kernel_rfl

set_option maxRecDepth 100000 in
theorem lifted (os : Os) (started : os.Started) (H : Type) (enc : TypeId × Value → H) :
    ReturnsInHanded {} Try.checked os 7 .any (Rows.fieldBackSpec.pre6 enc Try.prog Try.f7 Rows.fieldBackRow.domain false) (Rows.fieldBackSpec.post enc Try.prog Try.f7 false true false false) := by
  refine returnsInHanded_of_change_sized (C := Try.checked) own started (by kernel_rfl) Try.func7
    (ChangeSpec.witness6 (enc := enc) (C := Try.checked) false ⟨#[], #[.slice none 0 0, .slice none 0 0, .slice none 0 0], []⟩ 8 (by kernel_rfl) (by kernel_rfl) (by kernel_rfl) (by kernel_rfl)) ?_
  intro W base args ds gs before hval0 hW hcnd hsz0 _
  have hval : ∀ (j : Nat) t v, Try.f7.params[j]? = some t → args[j]? = some v → Value.okWide Try.prog W .any base t v := hval0
  have hsz : (DataW.weightsEach Try.prog (Try.f7.params.toList ++ Rows.fieldBackSpec.plain.varTypes Try.prog) (ds ++ gs)).all (· ≤ reachBytes) = true := hsz0
  have hW' := hW
  obtain ⟨p, q, hA0, hV, rfl, hfz, hnd⟩ := hW
  have hA : DataW.TrodAll enc Try.prog W 0 (fun _ => true) true Try.f7.params.toList args.toList ds p := hA0
  rw [Try.params7] at hA hval hsz
  obtain ⟨v0, vs0, d0, ds0, p0, q0, hargs, rfl, rfl, h0, r0⟩ := trodAll_cons hA
  obtain ⟨v1, vs1, d1, ds1, p1, q1, rfl, rfl, rfl, h1, r1⟩ := trodAll_cons r0
  obtain ⟨v2, vs2, d2, ds2, p2, q2, rfl, rfl, rfl, h2, r2⟩ := trodAll_cons r1
  obtain ⟨rfl, rfl, rfl⟩ := trodAll_nil r2
  obtain rfl : args = #[v0, v1, v2] := by cases args; simp_all
  obtain ⟨rfl, rfl⟩ := trodVars_none hV
  have k0 := h0
  have lt0 : ∀ x ∈ p0, x.block < W.heap.size := by obtain ⟨m, hm⟩ := k0; exact DataW.trod_lt m _ _ _ hm
  obtain ⟨ao0, a0, cap0, rfl, sp0, fi0, nl0⟩ := arg_ints h0 (hval 0 28 v0 rfl rfl) (fun es sp e => sized_slice hsz (j := 0) (t := 28) (e := 3) rfl (by rw [e]; rfl) Try.underlying28)
  have k1 := h1
  have lt1 : ∀ x ∈ p1, x.block < W.heap.size := by obtain ⟨m, hm⟩ := k1; exact DataW.trod_lt m _ _ _ hm
  obtain ⟨ao1, a1, cap1, rfl, sp1, fi1, nl1⟩ := arg_u64s h1 (hval 1 22 v1 rfl rfl) (fun es sp e => sized_slice hsz (j := 1) (t := 22) (e := 52) rfl (by rw [e]; rfl) Try.underlying22)
  have k2 := h2
  have lt2 : ∀ x ∈ p2, x.block < W.heap.size := by obtain ⟨m, hm⟩ := k2; exact DataW.trod_lt m _ _ _ hm
  obtain ⟨ao2, a2, cap2, rfl, sp2, fi2, nl2⟩ := arg_bytes h2 (hval 2 26 v2 rfl rfl) (fun es sp e => sized_slice hsz (j := 2) (t := 26) (e := 5) rfl (by rw [e]; rfl) Try.underlying26)
  clear hA0 hval0 hsz0
  refine (walk ao0 a0 cap0 ao1 a1 cap1 ao2 a2 cap2 W sp0 fi0 nl0 sp1 fi1 nl1 sp2 fi2 nl2).mono fun e W' ⟨he, bel⟩ => ?_
  subst he
  exact ⟨_, rfl, _, _, _, [], _, [], hW', trodAll_mk1 (shut_bool Try.underlying4 _), (trodAll_cons_mk (Below.trod laidOut (by kernel_rfl) (of_decide_eq_true (by kernel_rfl)) k0 bel lt0) (trodAll_cons_mk (Below.trod laidOut (by kernel_rfl) (of_decide_eq_true (by kernel_rfl)) k1 bel lt1) (trodAll_cons_mk (Below.trod laidOut (by kernel_rfl) (of_decide_eq_true (by kernel_rfl)) k2 bel lt2) trodAll_mk0))), rfl, bel.frame _, fun h => by cases h⟩

theorem proved : Rows.FieldBackSaid :=
  OpenClaim.holds_of_wide 7 Try.f7 rfl rfl rfl rfl rfl rfl rfl ⟨rfl, rfl, rfl, rfl, rfl⟩ rfl rfl rfl rfl rfl (by kernel_rfl) Try.func7 (by kernel_rfl)
    (of_decide_eq_true (by kernel_rfl)) (by unfold Func.isWrapper; first | (rw [if_pos (by decide +kernel)]; kernel_rfl) | (rw [if_neg (by decide +kernel)]; exact ⟨rfl, rfl⟩))
    (fun os started H enc _ => lifted os started H enc)
end Go.Proofs.Ytiaihhgafnageaa.lawFieldBack
