/- PtrBack, for every input: the law returns true and each argument reads behind the call as before. No condition. -/
import Derived.Test.YtlkfmifjfcjcoaaPtrE
namespace Go.Proofs.Ytlkfmifjfcjcoaa.lawPtrBack
open Go.ChangeShapes Go.WideShapes Go.ChangeAt Go.RowKit Go.Deep
set_option linter.unusedVariables false

set_option maxHeartbeats 4000000 in
theorem way_rs (p : P3) (bo : Option Addr) (bs : List UInt8) (cap n : Nat) (w : World) (hp : p.Fit) (hb0 : Bytes w bo bs) (hlen : Hid (bs.length = n)) (hc1 : n ≤ cap) (hc2 : cap ≤ 140737488351232) (hn : Hid (bo = none → cap = 0)) (h1 : p.rightB = true) (r : P3) (ho : Hid (p3O bs = some r)) :
    Calls Try.prog 6 #[p3V p, .slice bo n cap] w fun e w' => e = .returned (.bool true) ∧ Below w.heap.size w w' := by
  obtain ⟨i0, hi, hz0, hz1, hz2⟩ := info_parts infoU8
  have hB1 := fun W => Bytes_any p.a p.b p.s W hp
  have hR1 := fun W => Right_any p.a p.b p.s W hp
  have hB1 := Lib.hid hB1
  have hR1 := Lib.hid hR1
  have hbb := Lib.hid hb0
  have la := Lib.hid (bytesV_length bs)
  have lb := Lib.hid ((bytesV_length bs).trans hlen.out)
  have oa := Lib.hid (bytesV_one bs)
  have hQ := Lib.hid ((Below.refl w.heap.size w).alloc (Nat.le_refl _) (.cells #[.int .i64 p.a, .int .u64 (p.b : Int), .int .u32 (p.s : Int)] 26))
  have P1 := PtrAt.first w p
  obtain ⟨c0, c1, c2⟩ := P1.cells
  have P1 := Lib.hid P1
  have o1 : Hid (p.bytesO = some p.bytes) := Lib.hid (by unfold P3.bytesO; rw [h1]; rfl)
  have o2 := Lib.hid (p3O_bytes hp h1)
  have h1' := Lib.hid h1
  clear hb0 hp h1
  obtain ⟨hr1, hr2, _⟩ := p3O_some ho.out
  have hB2 := fun W => Bytes_any r.a r.b r.s W hr2
  have hB2 := Lib.hid hB2
  have hr1 := Lib.hid hr1
  clear hr2
  unfold p3V
  go_enter Try.func6, Try.ntmps6
  go_wp2_with fail
  refine (alive_any _).mono ?_
  rintro e w0 ⟨rfl, hb⟩
  have P1 := Lib.hid (P1.out.next hb)
  clear c0 c1 c2
  obtain ⟨c0, c1, c2⟩ := P1.out.cells
  have hQ := Lib.hid (hQ.out.trans (hb.mono (by have := hQ.out.size; (first | omega | (simp at this ⊢; omega)))))
  clear hb
  go_wp2_with fail
  refine (hB1.out _).mono ?_
  intro e w1 hP
  obtain ⟨xo, xc, rfl, hx, hxc, hxm, _, hb⟩ := hP.yes o1.out (P3.bytes_length _)
  clear hP
  have P1 := Lib.hid (P1.out.next hb)
  clear c0 c1 c2
  obtain ⟨c0, c1, c2⟩ := P1.out.cells
  have hQ := Lib.hid (hQ.out.trans (hb.mono (by have := hQ.out.size; (first | omega | (simp at this ⊢; omega)))))
  clear hb
  go_wp2_with fail
  refine (hR1.out _).mono ?_
  rintro e w2 ⟨rfl, hb⟩
  rw [show P3.rightB ⟨p.a, p.b, p.s⟩ = true from h1'.out]
  have P1 := Lib.hid (P1.out.next hb)
  clear c0 c1 c2
  obtain ⟨c0, c1, c2⟩ := P1.out.cells
  have hQ := Lib.hid (hQ.out.trans (hb.mono (by have := hQ.out.size; (first | omega | (simp at this ⊢; omega)))))
  have hx := Lib.hid (Reads.below hx.out hb)
  clear hb
  have hR := Read_any xo xc p.bytes w2 hx.out (by rw [P3.bytes_length]; omega) hxm
  rw [P3.bytes_length] at hR
  have hR' := Lib.hid hR
  clear hR
  go_wp2_with fail
  refine hR'.out.mono ?_
  intro e w3 hP
  obtain ⟨rfl, hb⟩ := hP.yes o2.out
  clear hP hR' 
  have P1 := Lib.hid (P1.out.next hb)
  clear c0 c1 c2
  obtain ⟨c0, c1, c2⟩ := P1.out.cells
  have hQ := Lib.hid (hQ.out.trans (hb.mono (by have := hQ.out.size; (first | omega | (simp at this ⊢; omega)))))
  clear hb
  have hs3 := hQ.out.size
  have hQ := Lib.hid (hQ.out.alloc hs3 (.cells #[.int .i64 p.a, .int .u64 (p.b : Int), .int .u32 (p.s : Int)] 26))
  have Q1 := PtrAt.first w3 p
  have hlp := Blk.lt P1.out
  have P1 := Lib.hid (P1.out.alloc (.cells #[.int .i64 p.a, .int .u64 (p.b : Int), .int .u32 (p.s : Int)] 26))
  have Q1 := Lib.hid Q1
  have hbb := Lib.hid (Reads.below hbb.out hQ.out)
  have hsz : w.heap.size ≤ (w3.alloc (.cells #[.int .i64 p.a, .int .u64 (p.b : Int), .int .u32 (p.s : Int)] 26)).heap.size := hQ.out.size
  go_wp2_with (first
    | (at_builtin
       go_loud (refine wpList_copy rfl (.tmp 45) (.tmp 46) 31 rfl 5 i0 (.int .u8 0) 1 Try.underlying31 hi hz0 hz1 hz2 rfl (w3.alloc (.cells #[.int .i64 p.a, .int .u64 (p.b : Int), .int .u32 (p.s : Int)] 26)) (by rw [show (w3.alloc (.cells #[.int .i64 p.a, .int .u64 (p.b : Int), .int .u32 (p.s : Int)] 26)).heap.size = w3.heap.size + 1 from by simp]; rfl) bo n cap (bytesV bs) (by rfl) hn.out (lb.out) hbb.out oa.out (by omega) (by omega) ?_)
       intro a1 k1 w4 ho1 l1 m1 _ hb
       have ho1 := Lib.hid ho1
       have hQ := Lib.hid (hQ.out.trans (hb.mono hsz))
       have hbb := Lib.hid (Reads.below hbb.out hb)
       clear hb))
  have hr := Lib.hid (show Bytes w4 a1 bs from ho1.out.reads)
  have hR := Read_any a1 k1 bs w4 hr.out (by rw [hlen.out]; omega) (by omega)
  rw [hlen.out] at hR
  have hR' := Lib.hid hR
  clear hR
  refine hR'.out.mono ?_
  intro e w5 hP
  obtain ⟨rfl, hb⟩ := hP.yes ho.out
  clear hR' ho1 hr hP
  have hQ := Lib.hid (hQ.out.trans (hb.mono hQ.out.size))
  have hbb := Lib.hid (Reads.below hbb.out hb)
  clear hb
  have hs5 := hQ.out.size
  have hQ := Lib.hid (hQ.out.alloc hs5 (.cells #[.int .i64 r.a, .int .u64 (r.b : Int), .int .u32 (r.s : Int)] 26))
  have hbb := Lib.hid (Reads.alloc hbb.out (.cells #[.int .i64 r.a, .int .u64 (r.b : Int), .int .u32 (r.s : Int)] 26))
  go_wp2_with fail
  refine (hB2.out _).mono ?_
  intro e w6 hP
  obtain ⟨yo, yc, rfl, hy, _, _, _, hb⟩ := hP.yes hr1.out hlen.out
  clear hP
  have hbb := Lib.hid (Reads.below hbb.out hb)
  have hQ := Lib.hid (hQ.out.trans (hb.mono (by have := hQ.out.size; simp at this ⊢; omega)))
  clear hb
  have q1 : (convert 31 9 (.slice yo n yc)).run Try.prog w6 = .ok (.string (strOf bs)) w6 := str_at n yc hy.out hlen.out
  have q2 : (convert 31 9 (.slice bo n cap)).run Try.prog w6 = .ok (.string (strOf bs)) w6 := str_at n cap hbb.out hlen.out
  go_wp2
  go_ret
  exact ⟨rfl, hQ.out⟩

set_option maxHeartbeats 4000000 in
theorem way_rn (p : P3) (bo : Option Addr) (bs : List UInt8) (cap n : Nat) (w : World) (hp : p.Fit) (hb0 : Bytes w bo bs) (hlen : Hid (bs.length = n)) (hc1 : n ≤ cap) (hc2 : cap ≤ 140737488351232) (hn : Hid (bo = none → cap = 0)) (h1 : p.rightB = true) (ho : Hid (p3O bs = none)) :
    Calls Try.prog 6 #[p3V p, .slice bo n cap] w fun e w' => e = .returned (.bool true) ∧ Below w.heap.size w w' := by
  obtain ⟨i0, hi, hz0, hz1, hz2⟩ := info_parts infoU8
  have hB1 := fun W => Bytes_any p.a p.b p.s W hp
  have hR1 := fun W => Right_any p.a p.b p.s W hp
  have hB1 := Lib.hid hB1
  have hR1 := Lib.hid hR1
  have hbb := Lib.hid hb0
  have la := Lib.hid (bytesV_length bs)
  have lb := Lib.hid ((bytesV_length bs).trans hlen.out)
  have oa := Lib.hid (bytesV_one bs)
  have hQ := Lib.hid ((Below.refl w.heap.size w).alloc (Nat.le_refl _) (.cells #[.int .i64 p.a, .int .u64 (p.b : Int), .int .u32 (p.s : Int)] 26))
  have P1 := PtrAt.first w p
  obtain ⟨c0, c1, c2⟩ := P1.cells
  have P1 := Lib.hid P1
  have o1 : Hid (p.bytesO = some p.bytes) := Lib.hid (by unfold P3.bytesO; rw [h1]; rfl)
  have o2 := Lib.hid (p3O_bytes hp h1)
  have h1' := Lib.hid h1
  clear hb0 hp h1
  unfold p3V
  go_enter Try.func6, Try.ntmps6
  go_wp2_with fail
  refine (alive_any _).mono ?_
  rintro e w0 ⟨rfl, hb⟩
  have P1 := Lib.hid (P1.out.next hb)
  clear c0 c1 c2
  obtain ⟨c0, c1, c2⟩ := P1.out.cells
  have hQ := Lib.hid (hQ.out.trans (hb.mono (by have := hQ.out.size; (first | omega | (simp at this ⊢; omega)))))
  clear hb
  go_wp2_with fail
  refine (hB1.out _).mono ?_
  intro e w1 hP
  obtain ⟨xo, xc, rfl, hx, hxc, hxm, _, hb⟩ := hP.yes o1.out (P3.bytes_length _)
  clear hP
  have P1 := Lib.hid (P1.out.next hb)
  clear c0 c1 c2
  obtain ⟨c0, c1, c2⟩ := P1.out.cells
  have hQ := Lib.hid (hQ.out.trans (hb.mono (by have := hQ.out.size; (first | omega | (simp at this ⊢; omega)))))
  clear hb
  go_wp2_with fail
  refine (hR1.out _).mono ?_
  rintro e w2 ⟨rfl, hb⟩
  rw [show P3.rightB ⟨p.a, p.b, p.s⟩ = true from h1'.out]
  have P1 := Lib.hid (P1.out.next hb)
  clear c0 c1 c2
  obtain ⟨c0, c1, c2⟩ := P1.out.cells
  have hQ := Lib.hid (hQ.out.trans (hb.mono (by have := hQ.out.size; (first | omega | (simp at this ⊢; omega)))))
  have hx := Lib.hid (Reads.below hx.out hb)
  clear hb
  have hR := Read_any xo xc p.bytes w2 hx.out (by rw [P3.bytes_length]; omega) hxm
  rw [P3.bytes_length] at hR
  have hR' := Lib.hid hR
  clear hR
  go_wp2_with fail
  refine hR'.out.mono ?_
  intro e w3 hP
  obtain ⟨rfl, hb⟩ := hP.yes o2.out
  clear hP hR' 
  have P1 := Lib.hid (P1.out.next hb)
  clear c0 c1 c2
  obtain ⟨c0, c1, c2⟩ := P1.out.cells
  have hQ := Lib.hid (hQ.out.trans (hb.mono (by have := hQ.out.size; (first | omega | (simp at this ⊢; omega)))))
  clear hb
  have hs3 := hQ.out.size
  have hQ := Lib.hid (hQ.out.alloc hs3 (.cells #[.int .i64 p.a, .int .u64 (p.b : Int), .int .u32 (p.s : Int)] 26))
  have Q1 := PtrAt.first w3 p
  have hlp := Blk.lt P1.out
  have P1 := Lib.hid (P1.out.alloc (.cells #[.int .i64 p.a, .int .u64 (p.b : Int), .int .u32 (p.s : Int)] 26))
  have Q1 := Lib.hid Q1
  have hbb := Lib.hid (Reads.below hbb.out hQ.out)
  have hsz : w.heap.size ≤ (w3.alloc (.cells #[.int .i64 p.a, .int .u64 (p.b : Int), .int .u32 (p.s : Int)] 26)).heap.size := hQ.out.size
  go_wp2_with (first
    | (at_builtin
       go_loud (refine wpList_copy rfl (.tmp 45) (.tmp 46) 31 rfl 5 i0 (.int .u8 0) 1 Try.underlying31 hi hz0 hz1 hz2 rfl (w3.alloc (.cells #[.int .i64 p.a, .int .u64 (p.b : Int), .int .u32 (p.s : Int)] 26)) (by rw [show (w3.alloc (.cells #[.int .i64 p.a, .int .u64 (p.b : Int), .int .u32 (p.s : Int)] 26)).heap.size = w3.heap.size + 1 from by simp]; rfl) bo n cap (bytesV bs) (by rfl) hn.out (lb.out) hbb.out oa.out (by omega) (by omega) ?_)
       intro a1 k1 w4 ho1 l1 m1 _ hb
       have ho1 := Lib.hid ho1
       have hQ := Lib.hid (hQ.out.trans (hb.mono hsz))
       have hbb := Lib.hid (Reads.below hbb.out hb)
       clear hb))
  have hr := Lib.hid (show Bytes w4 a1 bs from ho1.out.reads)
  have hR := Read_any a1 k1 bs w4 hr.out (by rw [hlen.out]; omega) (by omega)
  rw [hlen.out] at hR
  have hR' := Lib.hid hR
  clear hR
  refine hR'.out.mono ?_
  intro e w5 hP
  obtain ⟨rfl, hb⟩ := hP.nope ho.out
  clear hR' ho1 hr hP
  have hQ := Lib.hid (hQ.out.trans (hb.mono hQ.out.size))
  have hbb := Lib.hid (Reads.below hbb.out hb)
  clear hb
  have hs5 := hQ.out.size
  have hQ := Lib.hid (hQ.out.alloc hs5 (.cells #[.int .i64 0, .int .u64 0, .int .u32 0] 26))
  go_wp2
  go_ret
  exact ⟨rfl, hQ.out⟩

set_option maxHeartbeats 4000000 in
theorem way_ws (p : P3) (bo : Option Addr) (bs : List UInt8) (cap n : Nat) (w : World) (hp : p.Fit) (hb0 : Bytes w bo bs) (hlen : Hid (bs.length = n)) (hc1 : n ≤ cap) (hc2 : cap ≤ 140737488351232) (hn : Hid (bo = none → cap = 0)) (h1 : p.rightB = false) (r : P3) (ho : Hid (p3O bs = some r)) :
    Calls Try.prog 6 #[p3V p, .slice bo n cap] w fun e w' => e = .returned (.bool true) ∧ Below w.heap.size w w' := by
  obtain ⟨i0, hi, hz0, hz1, hz2⟩ := info_parts infoU8
  have hB1 := fun W => Bytes_any p.a p.b p.s W hp
  have hR1 := fun W => Right_any p.a p.b p.s W hp
  have hB1 := Lib.hid hB1
  have hR1 := Lib.hid hR1
  have hbb := Lib.hid hb0
  have la := Lib.hid (bytesV_length bs)
  have lb := Lib.hid ((bytesV_length bs).trans hlen.out)
  have oa := Lib.hid (bytesV_one bs)
  have hQ := Lib.hid ((Below.refl w.heap.size w).alloc (Nat.le_refl _) (.cells #[.int .i64 p.a, .int .u64 (p.b : Int), .int .u32 (p.s : Int)] 26))
  have P1 := PtrAt.first w p
  obtain ⟨c0, c1, c2⟩ := P1.cells
  have P1 := Lib.hid P1
  have o1 : Hid (p.bytesO = none) := Lib.hid (by unfold P3.bytesO; rw [h1]; rfl)
  have h1' := Lib.hid h1
  clear hb0 hp h1
  obtain ⟨hr1, hr2, _⟩ := p3O_some ho.out
  have hB2 := fun W => Bytes_any r.a r.b r.s W hr2
  have hB2 := Lib.hid hB2
  have hr1 := Lib.hid hr1
  clear hr2
  unfold p3V
  go_enter Try.func6, Try.ntmps6
  go_wp2_with fail
  refine (alive_any _).mono ?_
  rintro e w0 ⟨rfl, hb⟩
  have P1 := Lib.hid (P1.out.next hb)
  clear c0 c1 c2
  obtain ⟨c0, c1, c2⟩ := P1.out.cells
  have hQ := Lib.hid (hQ.out.trans (hb.mono (by have := hQ.out.size; (first | omega | (simp at this ⊢; omega)))))
  clear hb
  go_wp2_with fail
  refine (hB1.out _).mono ?_
  intro e w1 hP
  obtain ⟨xo, xc, rfl, hx, _, hb⟩ := hP.nope o1.out
  clear hP
  have P1 := Lib.hid (P1.out.next hb)
  clear c0 c1 c2
  obtain ⟨c0, c1, c2⟩ := P1.out.cells
  have hQ := Lib.hid (hQ.out.trans (hb.mono (by have := hQ.out.size; (first | omega | (simp at this ⊢; omega)))))
  clear hb
  go_wp2_with fail
  refine (hR1.out _).mono ?_
  rintro e w2 ⟨rfl, hb⟩
  rw [show P3.rightB ⟨p.a, p.b, p.s⟩ = false from h1'.out]
  have P1 := Lib.hid (P1.out.next hb)
  clear c0 c1 c2
  obtain ⟨c0, c1, c2⟩ := P1.out.cells
  have hQ := Lib.hid (hQ.out.trans (hb.mono (by have := hQ.out.size; (first | omega | (simp at this ⊢; omega)))))
  clear hb
  have hbb := Lib.hid (Reads.below hbb.out hQ.out)
  have hsz : w.heap.size ≤ w2.heap.size := hQ.out.size
  go_wp2_with (first
    | (at_builtin
       go_loud (refine wpList_copy rfl (.tmp 45) (.tmp 46) 31 rfl 5 i0 (.int .u8 0) 1 Try.underlying31 hi hz0 hz1 hz2 rfl w2 (by rfl) bo n cap (bytesV bs) (by rfl) hn.out (lb.out) hbb.out oa.out (by omega) (by omega) ?_)
       intro a1 k1 w4 ho1 l1 m1 _ hb
       have ho1 := Lib.hid ho1
       have hQ := Lib.hid (hQ.out.trans (hb.mono hsz))
       have hbb := Lib.hid (Reads.below hbb.out hb)
       clear hb))
  have hr := Lib.hid (show Bytes w4 a1 bs from ho1.out.reads)
  have hR := Read_any a1 k1 bs w4 hr.out (by rw [hlen.out]; omega) (by omega)
  rw [hlen.out] at hR
  have hR' := Lib.hid hR
  clear hR
  refine hR'.out.mono ?_
  intro e w5 hP
  obtain ⟨rfl, hb⟩ := hP.yes ho.out
  clear hR' ho1 hr hP
  have hQ := Lib.hid (hQ.out.trans (hb.mono hQ.out.size))
  have hbb := Lib.hid (Reads.below hbb.out hb)
  clear hb
  have hs5 := hQ.out.size
  have hQ := Lib.hid (hQ.out.alloc hs5 (.cells #[.int .i64 r.a, .int .u64 (r.b : Int), .int .u32 (r.s : Int)] 26))
  have hbb := Lib.hid (Reads.alloc hbb.out (.cells #[.int .i64 r.a, .int .u64 (r.b : Int), .int .u32 (r.s : Int)] 26))
  go_wp2_with fail
  refine (hB2.out _).mono ?_
  intro e w6 hP
  obtain ⟨yo, yc, rfl, hy, _, _, _, hb⟩ := hP.yes hr1.out hlen.out
  clear hP
  have hbb := Lib.hid (Reads.below hbb.out hb)
  have hQ := Lib.hid (hQ.out.trans (hb.mono (by have := hQ.out.size; simp at this ⊢; omega)))
  clear hb
  have q1 : (convert 31 9 (.slice yo n yc)).run Try.prog w6 = .ok (.string (strOf bs)) w6 := str_at n yc hy.out hlen.out
  have q2 : (convert 31 9 (.slice bo n cap)).run Try.prog w6 = .ok (.string (strOf bs)) w6 := str_at n cap hbb.out hlen.out
  go_wp2
  go_ret
  exact ⟨rfl, hQ.out⟩

set_option maxHeartbeats 4000000 in
theorem way_wn (p : P3) (bo : Option Addr) (bs : List UInt8) (cap n : Nat) (w : World) (hp : p.Fit) (hb0 : Bytes w bo bs) (hlen : Hid (bs.length = n)) (hc1 : n ≤ cap) (hc2 : cap ≤ 140737488351232) (hn : Hid (bo = none → cap = 0)) (h1 : p.rightB = false) (ho : Hid (p3O bs = none)) :
    Calls Try.prog 6 #[p3V p, .slice bo n cap] w fun e w' => e = .returned (.bool true) ∧ Below w.heap.size w w' := by
  obtain ⟨i0, hi, hz0, hz1, hz2⟩ := info_parts infoU8
  have hB1 := fun W => Bytes_any p.a p.b p.s W hp
  have hR1 := fun W => Right_any p.a p.b p.s W hp
  have hB1 := Lib.hid hB1
  have hR1 := Lib.hid hR1
  have hbb := Lib.hid hb0
  have la := Lib.hid (bytesV_length bs)
  have lb := Lib.hid ((bytesV_length bs).trans hlen.out)
  have oa := Lib.hid (bytesV_one bs)
  have hQ := Lib.hid ((Below.refl w.heap.size w).alloc (Nat.le_refl _) (.cells #[.int .i64 p.a, .int .u64 (p.b : Int), .int .u32 (p.s : Int)] 26))
  have P1 := PtrAt.first w p
  obtain ⟨c0, c1, c2⟩ := P1.cells
  have P1 := Lib.hid P1
  have o1 : Hid (p.bytesO = none) := Lib.hid (by unfold P3.bytesO; rw [h1]; rfl)
  have h1' := Lib.hid h1
  clear hb0 hp h1
  unfold p3V
  go_enter Try.func6, Try.ntmps6
  go_wp2_with fail
  refine (alive_any _).mono ?_
  rintro e w0 ⟨rfl, hb⟩
  have P1 := Lib.hid (P1.out.next hb)
  clear c0 c1 c2
  obtain ⟨c0, c1, c2⟩ := P1.out.cells
  have hQ := Lib.hid (hQ.out.trans (hb.mono (by have := hQ.out.size; (first | omega | (simp at this ⊢; omega)))))
  clear hb
  go_wp2_with fail
  refine (hB1.out _).mono ?_
  intro e w1 hP
  obtain ⟨xo, xc, rfl, hx, _, hb⟩ := hP.nope o1.out
  clear hP
  have P1 := Lib.hid (P1.out.next hb)
  clear c0 c1 c2
  obtain ⟨c0, c1, c2⟩ := P1.out.cells
  have hQ := Lib.hid (hQ.out.trans (hb.mono (by have := hQ.out.size; (first | omega | (simp at this ⊢; omega)))))
  clear hb
  go_wp2_with fail
  refine (hR1.out _).mono ?_
  rintro e w2 ⟨rfl, hb⟩
  rw [show P3.rightB ⟨p.a, p.b, p.s⟩ = false from h1'.out]
  have P1 := Lib.hid (P1.out.next hb)
  clear c0 c1 c2
  obtain ⟨c0, c1, c2⟩ := P1.out.cells
  have hQ := Lib.hid (hQ.out.trans (hb.mono (by have := hQ.out.size; (first | omega | (simp at this ⊢; omega)))))
  clear hb
  have hbb := Lib.hid (Reads.below hbb.out hQ.out)
  have hsz : w.heap.size ≤ w2.heap.size := hQ.out.size
  go_wp2_with (first
    | (at_builtin
       go_loud (refine wpList_copy rfl (.tmp 45) (.tmp 46) 31 rfl 5 i0 (.int .u8 0) 1 Try.underlying31 hi hz0 hz1 hz2 rfl w2 (by rfl) bo n cap (bytesV bs) (by rfl) hn.out (lb.out) hbb.out oa.out (by omega) (by omega) ?_)
       intro a1 k1 w4 ho1 l1 m1 _ hb
       have ho1 := Lib.hid ho1
       have hQ := Lib.hid (hQ.out.trans (hb.mono hsz))
       have hbb := Lib.hid (Reads.below hbb.out hb)
       clear hb))
  have hr := Lib.hid (show Bytes w4 a1 bs from ho1.out.reads)
  have hR := Read_any a1 k1 bs w4 hr.out (by rw [hlen.out]; omega) (by omega)
  rw [hlen.out] at hR
  have hR' := Lib.hid hR
  clear hR
  refine hR'.out.mono ?_
  intro e w5 hP
  obtain ⟨rfl, hb⟩ := hP.nope ho.out
  clear hR' ho1 hr hP
  have hQ := Lib.hid (hQ.out.trans (hb.mono hQ.out.size))
  have hbb := Lib.hid (Reads.below hbb.out hb)
  clear hb
  have hs5 := hQ.out.size
  have hQ := Lib.hid (hQ.out.alloc hs5 (.cells #[.int .i64 0, .int .u64 0, .int .u32 0] 26))
  go_wp2
  go_ret
  exact ⟨rfl, hQ.out⟩

theorem walk (p : P3) (bo : Option Addr) (bs : List UInt8) (cap : Nat) (w : World) (hp : p.Fit) (hb0 : Bytes w bo bs) (hc : bs.length ≤ cap ∧ cap ≤ 140737488351232) (hn : bo = none → cap = 0) :
    Calls Try.prog 6 #[p3V p, .slice bo bs.length cap] w fun e w' => e = .returned (.bool true) ∧ Below w.heap.size w w' := by
  cases h1 : p.rightB with
  | true =>
    cases ho : p3O bs with
    | some r => exact way_rs p bo bs cap bs.length w hp hb0 (Lib.hid rfl) hc.1 hc.2 (Lib.hid hn) h1 r (Lib.hid ho)
    | none => exact way_rn p bo bs cap bs.length w hp hb0 (Lib.hid rfl) hc.1 hc.2 (Lib.hid hn) h1 (Lib.hid ho)
  | false =>
    cases ho : p3O bs with
    | some r => exact way_ws p bo bs cap bs.length w hp hb0 (Lib.hid rfl) hc.1 hc.2 (Lib.hid hn) h1 r (Lib.hid ho)
    | none => exact way_wn p bo bs cap bs.length w hp hb0 (Lib.hid rfl) hc.1 hc.2 (Lib.hid hn) h1 (Lib.hid ho)


theorem own : ownKnob Try.prog.godebug = none := by kernel_rfl
theorem laidOut : laidOutB Try.prog = true := by kernel_rfl

set_option maxRecDepth 100000 in
theorem lifted (os : Os) (started : os.Started) (H : Type) (enc : TypeId × Value → H) :
    ReturnsInHanded {} Try.checked os 6 .any (Rows.ptrBackSpec.pre6 enc Try.prog Try.f6 Rows.ptrBackRow.domain false) (Rows.ptrBackSpec.post enc Try.prog Try.f6 false true false false) := by
  refine returnsInHanded_of_change_sized (C := Try.checked) own started (by kernel_rfl) Try.func6
    (ChangeSpec.witness6 (enc := enc) (C := Try.checked) false ⟨#[], #[.agg #[.int .i64 0, .int .u64 0, .int .u32 0], .slice none 0 0], []⟩ 8 (by kernel_rfl) (by kernel_rfl) (by kernel_rfl) (by kernel_rfl)) ?_
  intro W base args ds gs before hval0 hW hcnd hsz0 _
  have hval : ∀ (j : Nat) t v, Try.f6.params[j]? = some t → args[j]? = some v → Value.okWide Try.prog W .any base t v := hval0
  have hsz : (DataW.weightsEach Try.prog (Try.f6.params.toList ++ Rows.ptrBackSpec.plain.varTypes Try.prog) (ds ++ gs)).all (· ≤ reachBytes) = true := hsz0
  have hW' := hW
  obtain ⟨p, q, hA0, hV, rfl, hfz, hnd⟩ := hW
  have hA : DataW.TrodAll enc Try.prog W 0 (fun _ => true) true Try.f6.params.toList args.toList ds p := hA0
  rw [Try.params6] at hA hval hsz
  obtain ⟨v0, vs0, d0, ds0, p0, q0, hargs, rfl, rfl, h0, r0⟩ := trodAll_cons hA
  obtain ⟨v1, vs1, d1, ds1, p1, q1, rfl, rfl, rfl, h1, r1⟩ := trodAll_cons r0
  obtain ⟨rfl, rfl, rfl⟩ := trodAll_nil r1
  obtain rfl : args = #[v0, v1] := by cases args; simp_all
  obtain ⟨rfl, rfl⟩ := trodVars_none hV
  obtain ⟨a0, rfl, rfl, rfl, wf0⟩ := open_ptr (hval 0 26 v0 rfl rfl) h0
  have k1 := h1
  have lt1 : ∀ x ∈ p1, x.block < W.heap.size := by obtain ⟨m, hm⟩ := k1; exact DataW.trod_lt m _ _ _ hm
  obtain ⟨ao1, a1, cap1, rfl, sp1, fi1, nl1⟩ := arg_bytes h1 (hval 1 31 v1 rfl rfl) (fun es sp e => sized_slice hsz (j := 1) (t := 31) (e := 5) rfl (by rw [e]; rfl) Try.underlying31)
  clear hA0 hval0 hsz0
  refine (walk a0 ao1 a1 cap1 W wf0 sp1 fi1 nl1).mono fun e W' ⟨he, bel⟩ => ?_
  subst he
  exact ⟨_, rfl, _, _, _, [], _, [], hW', trodAll_mk1 (shut_bool Try.underlying4 _), (trodAll_cons_mk (shut_ptr wf0) (trodAll_cons_mk (Below.trod laidOut (by kernel_rfl) (of_decide_eq_true (by kernel_rfl)) k1 bel lt1) trodAll_mk0)), rfl, bel.frame _, fun h => by cases h⟩

theorem proved : Rows.PtrBackSaid :=
  OpenClaim.holds_of_wide 6 Try.f6 rfl rfl rfl rfl rfl rfl rfl ⟨rfl, rfl, rfl, rfl, rfl⟩ rfl rfl rfl rfl rfl (by kernel_rfl) Try.func6 (by kernel_rfl)
    (of_decide_eq_true (by kernel_rfl)) (by unfold Func.isWrapper; first | (rw [if_pos (by decide +kernel)]; kernel_rfl) | (rw [if_neg (by decide +kernel)]; exact ⟨rfl, rfl⟩))
    (fun os started H enc _ => lifted os started H enc)
end Go.Proofs.Ytlkfmifjfcjcoaa.lawPtrBack
