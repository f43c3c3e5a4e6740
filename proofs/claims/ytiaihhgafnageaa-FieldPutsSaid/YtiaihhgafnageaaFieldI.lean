/- field.Join and the document's Join answer the same bytes, for every input. -/
import Derived.Test.YtiaihhgafnageaaFieldH
namespace Go.Proofs.Ytiaihhgafnageaa
open Go.ChangeShapes Go.WideShapes Go.ChangeAt Go.RowKit
set_option linter.unusedVariables false

/-- texts side by side -/
def joinT : List (List UInt8) → Option (List UInt8)
  | [] => some []
  | t :: r => if t.length ≤ 65535 then (joinT r).map (leB 2 t.length ++ t ++ ·) else none
def joinL (ts : List (List UInt8)) : Option (List UInt8) := if ts.length ≤ 65535 then (joinT ts).map (leB 2 ts.length ++ ·) else none

theorem joinT_step {ts : List (List UInt8)} {k : Nat} {t bs : List UInt8} {o : Option (List UInt8)} (h : o = (joinT (ts.drop k)).map (bs ++ ·)) (hd : ts.drop k = t :: ts.drop (k + 1)) (hl : t.length ≤ 65535) :
    o = (joinT (ts.drop (k + 1))).map ((bs ++ leB 2 t.length ++ t) ++ ·) := by
  rw [h, hd]
  simp only [joinT, if_pos hl, Option.map_map', List.append_assoc]
theorem joinT_stop {ts : List (List UInt8)} {k : Nat} {t bs : List UInt8} {o : Option (List UInt8)} (h : o = (joinT (ts.drop k)).map (bs ++ ·)) (hd : ts.drop k = t :: ts.drop (k + 1)) (hl : ¬ t.length ≤ 65535) : o = none := by
  rw [h, hd]
  simp only [joinT, if_neg hl, Option.map_none]
theorem joinT_end {ts : List (List UInt8)} {k : Nat} {bs : List UInt8} {o : Option (List UInt8)} (h : o = (joinT (ts.drop k)).map (bs ++ ·)) (hk : ts.length ≤ k) : o = some bs := by
  rw [h, List.drop_of_length_le hk]; simp [joinT]

theorem put2_any (base : Nat) (v : Value) (bs : List UInt8) (z : Nat) (w : World) (hown : Own w base 5 v (bytesV bs)) (hbase : base ≤ w.heap.size) (hz : z < 18446744073709551616) (hl : bs.length + 8 ≤ 140737488355328) :
    Calls Try.prog 23 #[v, .int .i64 2, .int .u64 (z : Int)] w fun e w' => ∃ v', e = .returned v' ∧ Own w' base 5 v' (bytesV (bs ++ leB 2 z)) ∧ Grew w w' v v' :=
  put_any base v bs 2 z w hown hbase (by omega) hz hl

theorem refNumber2_any (z : Nat) (w : World) (hz : z < 18446744073709551616) :
    Calls Try.prog 24 #[.int .u64 (z : Int), .int .i64 2] w fun e w' => ∃ v', e = .returned (.tuple #[v', .bool (fitsB 2 z)]) ∧ Own w' w.heap.size 5 v' (bytesV (leB 2 z)) ∧ Below w.heap.size w w' :=
  refNumber_any 2 z w (by omega) hz

set_option maxHeartbeats 2000000 in
theorem Join_any (ao : Option Addr) (cap : Nat) (ts : List (List UInt8)) (w : World) (hx : Texts w ao ts) (hl : ts.length ≤ 9223372036854775806) :
    Calls Try.prog 16 #[.slice ao ts.length cap] w (PutRes (joinL ts) w) := by
  obtain ⟨i0, hi, hz0, hz1, hz2⟩ := info_parts infoU8
  have hx := Lib.hid hx
  by_cases hmany : ts.length ≤ 65535
  · have hJ : Hid (joinL ts = (joinT (ts.drop 0)).map (leB 2 ts.length ++ ·)) := Lib.hid (by simp only [joinL, if_pos hmany, List.drop_zero])
    have h2 : Hid ((leB 2 ts.length).length = 2) := Lib.hid (leB_length _ _)
    go_enter Try.func16, Try.ntmps16
    go_wp2_with fail
    refine (put2_any w.heap.size (.slice none 0 0) [] ts.length w (Own.nil _ _ _) (Nat.le_refl _) (by omega) (by simp)).mono ?_
    rintro e w0 ⟨v0, rfl, ho0, hg0⟩
    rw [List.nil_append] at ho0
    have ho0 := Lib.hid ho0
    have hb0 := Lib.hid (hg0.out (Nat.le_refl _) (fun g h => by cases h))
    clear hg0
    go_wp2
    go_loopw [4, 6, 16] (fun b _ j wr => ∃ (k : Nat) (bs : List UInt8), k ≤ ts.length ∧ j = .int .i64 k ∧ bs.length ≤ 2 + 65537 * k ∧ Own wr w.heap.size 5 b (bytesV bs) ∧ Hid (joinL ts = (joinT (ts.drop k)).map (bs ++ ·)) ∧ Below w.heap.size w wr)
      (fun _ _ j _ => ts.length - (intOf j).toNat)
    case atStart => exact ⟨0, _, by omega, rfl, by rw [h2.out]; omega, ho0.out, hJ, hb0.out⟩
    case round =>
      obtain ⟨k, bs, hk, rfl, hbl, ho, hh, hb⟩ := hrel
      by_cases hlt : k < ts.length
      · obtain ⟨b, off, t, so, sc, rfl, c0, hbb, hd, _, ht1, ht2, hsn, hst, _⟩ := hx.out.at hlt
        have c1 : wr.cell? ⟨b, off + k, none⟩ = some (.slice so t.length sc) := (hb.cell (p := ⟨b, off + k, none⟩) hbb).trans c0
        clear c0
        have hsz := hb.size
        have ho' := Lib.hid ho
        have hb' := Lib.hid hb
        by_cases hlong : t.length ≤ 65535
        · have hst' := Lib.hid (joinT_step hh.out hd.out hlong)
          have hbl2 : (bs ++ leB 2 t.length ++ t).length ≤ 2 + 65537 * (k + 1) := by simp [leB_length]; omega
          have hbl3 : (bs ++ leB 2 t.length).length ≤ 2 + 65537 * k + 2 := by simp [leB_length]; omega
          clear ho hb
          go_wp2_with fail
          refine (put2_any w.heap.size _ bs t.length wr ho'.out hsz (by omega) (by omega)).mono ?_
          rintro e w1 ⟨v1, rfl, ho1, hg1⟩
          have hbw : Hid (Below w.heap.size wr w1) := Lib.hid (hg1.out hsz (fun g hg => (ho'.out.lt g hg).1))
          have hsz1 := hg1.size
          have ho1' := Lib.hid ho1
          have hs1 : Hid (Reads w1 so (bytesV t)) := Lib.hid (Reads.below hst.out (hb'.out.trans hbw.out))
          have hone := Lib.hid (bytesV_one t)
          have hln := Lib.hid (bytesV_length t)
          clear ho1 hg1
          go_wp2_with (at_builtin; go_loud (refine wpList_own_app rfl _ _ 26 rfl w.heap.size 5 i0 (.int .u8 0) 1 Try.underlying26 hi hz0 hz1 hz2 rfl v1 _ _ rfl ho1'.out so t.length sc (bytesV t) rfl hsn.out hln.out hs1.out hone.out (by rw [bytesV_length]; omega) (by rw [bytesV_length]; omega) (by omega) ?_); intro v' w' ho2 hg2; have ho2 := Lib.hid ho2; have hg2 := Lib.hid hg2)
          go_roundw
          case rel => exact ⟨k + 1, _, by omega, by go_num, hbl2, (by have := ho2.out; rwa [← bytesV_append] at this), hst', (hb'.out.trans hbw.out).trans (hg2.out.out (by omega) (fun g hg => (ho1'.out.lt g hg).1))⟩
          case measure => simp [intOf] <;> omega
        · have hno := Lib.hid (joinT_stop hh.out hd.out hlong)
          go_wp2
          go_ret2
          exact PutRes.no hno.out rfl hb'.out
      · have hend := Lib.hid (joinT_end hh.out (by omega))
        have ho' := Lib.hid ho
        have hb' := Lib.hid hb
        clear ho hb
        go_wp2
        go_ret2
        rw [hend.out]
        exact ⟨_, rfl, ho'.out, hb'.out⟩
  · have hno : Hid (joinL ts = none) := Lib.hid (by simp only [joinL, if_neg hmany])
    go_enter Try.func16, Try.ntmps16
    go_wp2
    go_ret2
    exact PutRes.no hno.out rfl (Below.refl _ _)

set_option maxHeartbeats 2000000 in
theorem refJoin_any (ao : Option Addr) (cap : Nat) (ts : List (List UInt8)) (w : World) (hx : Texts w ao ts) (hl : ts.length ≤ 9223372036854775806) :
    Calls Try.prog 17 #[.slice ao ts.length cap] w (PutRes (joinL ts) w) := by
  obtain ⟨i0, hi, hz0, hz1, hz2⟩ := info_parts infoU8
  have hx := Lib.hid hx
  by_cases hmany : ts.length ≤ 65535
  · have hJ : Hid (joinL ts = (joinT (ts.drop 0)).map (leB 2 ts.length ++ ·)) := Lib.hid (by simp only [joinL, if_pos hmany, List.drop_zero])
    have h2 : Hid ((leB 2 ts.length).length = 2) := Lib.hid (leB_length _ _)
    go_enter Try.func17, Try.ntmps17
    go_wp2_with fail
    refine (refNumber2_any ts.length w (by omega)).mono ?_
    rintro e w0 ⟨v0, rfl, ho0, hb0⟩
    have ho0 := Lib.hid ho0
    have hb0 := Lib.hid hb0
    go_wp2
    go_loopw [4, 7, 8, 9, 22] (fun b _ _ _ j wr => ∃ (k : Nat) (bs : List UInt8), k ≤ ts.length ∧ j = .int .i64 k ∧ bs.length ≤ 2 + 65537 * k ∧ Own wr w.heap.size 5 b (bytesV bs) ∧ Hid (joinL ts = (joinT (ts.drop k)).map (bs ++ ·)) ∧ Below w.heap.size w wr)
      (fun _ _ _ _ j _ => ts.length - (intOf j).toNat)
    case atStart => exact ⟨0, _, by omega, rfl, by rw [h2.out]; omega, ho0.out, hJ, hb0.out⟩
    case round =>
      obtain ⟨k, bs, hk, rfl, hbl, ho, hh, hb⟩ := hrel
      by_cases hlt : k < ts.length
      · obtain ⟨b, off, t, so, sc, rfl, c0, hbb, hd, _, ht1, ht2, hsn, hst, _⟩ := hx.out.at hlt
        have c1 : wr.cell? ⟨b, off + k, none⟩ = some (.slice so t.length sc) := (hb.cell (p := ⟨b, off + k, none⟩) hbb).trans c0
        clear c0
        have hsz := hb.size
        have ho' := Lib.hid ho
        have hb' := Lib.hid hb
        by_cases hlong : t.length ≤ 65535
        · have hst' := Lib.hid (joinT_step hh.out hd.out hlong)
          have hbl2 : (bs ++ leB 2 t.length ++ t).length ≤ 2 + 65537 * (k + 1) := by simp [leB_length]; omega
          have hbl3 : (bs ++ leB 2 t.length).length ≤ 2 + 65537 * k + 2 := by simp [leB_length]; omega
          clear ho hb
          go_wp2_with fail
          refine (refNumber2_any t.length wr (by omega)).mono ?_
          rintro e w1 ⟨v1, rfl, ho1, hb1⟩
          have hsz1 := hb1.size
          obtain ⟨co, cc, rfl, hc1, hc2, hc3, hr1, hlt1, _⟩ := ho1.shape
          have hl2 : (bytesV (leB 2 t.length)).length = 2 := by rw [bytesV_length, leB_length]
          rw [hl2]
          have hl2' := Lib.hid hl2
          have hc3' := Lib.hid hc3
          have hr1' := Lib.hid hr1
          have ho2 := Lib.hid (ho'.out.below hb1)
          have hb2 := Lib.hid (hb'.out.trans (hb1.mono hsz))
          have hone1 := Lib.hid (bytesV_one (leB 2 t.length))
          have hs1 : Hid (Reads w1 so (bytesV t)) := Lib.hid (Reads.below hst.out hb2.out)
          have hone := Lib.hid (bytesV_one t)
          have hln := Lib.hid (bytesV_length t)
          clear ho1 hl2 hc3 hr1 hb1 hc1 hlt1
          go_wp2_with (first
            | (at_builtin; refine wpList_own_app rfl (.tmp 36) (.tmp 37) 26 rfl w.heap.size 5 i0 (.int .u8 0) 1 Try.underlying26 hi hz0 hz1 hz2 rfl u4 _ _ rfl ho2.out co 2 cc (bytesV (leB 2 t.length)) rfl hc3'.out hl2'.out hr1'.out hone1.out (by rw [bytesV_length]; omega) (by rw [bytesV_length]; omega) (by omega) ?_; intro v2 w2 ho3 hg3; have hbw : Hid (Below w.heap.size w1 w2) := Lib.hid (hg3.out (by omega) (fun g hg => (ho2.out.lt g hg).1)); have hsz2 := hg3.size; have hs2 : Hid (Reads w2 so (bytesV t)) := Lib.hid (Reads.below hst.out (hb2.out.trans hbw.out)); rw [← bytesV_append] at ho3; have ho4 := Lib.hid ho3; clear ho3 hg3)
            | (at_builtin; refine wpList_own_app rfl (.tmp 39) (.tmp 40) 26 rfl w.heap.size 5 i0 (.int .u8 0) 1 Try.underlying26 hi hz0 hz1 hz2 rfl v2 _ _ rfl ho4.out so t.length sc (bytesV t) rfl hsn.out hln.out hs2.out hone.out (by rw [bytesV_length]; omega) (by rw [bytesV_length]; omega) (by omega) ?_; intro v' w' ho5 hg5; have ho5 := Lib.hid ho5; have hg5 := Lib.hid hg5))
          go_roundw
          case rel => exact ⟨k + 1, _, by omega, by go_num, hbl2, (by have := ho5.out; rwa [← bytesV_append] at this), hst', (hb2.out.trans hbw.out).trans (hg5.out.out (by omega) (fun g hg => (ho4.out.lt g hg).1))⟩
          case measure => simp [intOf] <;> omega
        · have hno := Lib.hid (joinT_stop hh.out hd.out hlong)
          go_wp2
          go_ret2
          exact PutRes.no hno.out rfl hb'.out
      · have hend := Lib.hid (joinT_end hh.out (by omega))
        have ho' := Lib.hid ho
        have hb' := Lib.hid hb
        clear ho hb
        go_wp2
        go_ret2
        rw [hend.out]
        exact ⟨_, rfl, ho'.out, hb'.out⟩
  · have hno : Hid (joinL ts = none) := Lib.hid (by simp only [joinL, if_neg hmany])
    go_enter Try.func17, Try.ntmps17
    go_wp2
    go_ret2
    exact PutRes.no hno.out rfl (Below.refl _ _)
end Go.Proofs.Ytiaihhgafnageaa
