/- The document's own Put answers the same. -/
import Derived.Test.YtiaihhgafnageaaFieldE
namespace Go.Proofs.Ytiaihhgafnageaa
open Go.ChangeShapes Go.WideShapes Go.ChangeAt Go.RowKit
set_option linter.unusedVariables false

theorem putL_wide {ws : List Int} {zs : List Nat} {k : Nat} {x : Int} {bs : List UInt8} (h : putL ws zs = (putL (ws.drop k) (zs.drop k)).map (bs ++ ·)) (hw : ws.drop k = x :: ws.drop (k + 1)) (hf : ¬ (1 ≤ x ∧ x ≤ 8)) :
    putL ws zs = none := by
  rw [h, hw]
  cases zs.drop k with
  | nil => simp [putL]
  | cons z r =>
    have hc : ¬ (1 ≤ x ∧ x ≤ 8 ∧ z < 256 ^ x.toNat) := fun hh => hf ⟨hh.1, hh.2.1⟩
    simp only [putL, if_neg hc, Option.map_none]

set_option maxHeartbeats 2000000 in
theorem refPut_any (ao bo : Option Addr) (cap cap' : Nat) (ws : List Int) (zs : List Nat) (w : World) (hx : Ints w ao ws) (hy : U64s w bo zs) (hf : I64s ws) (hg : Fit64 zs) :
    Calls Try.prog 13 #[.slice ao ws.length cap, .slice bo zs.length cap'] w (PutRes (putL ws zs) w) := by
  obtain ⟨i0, hi, hz0, hz1, hz2⟩ := info_parts infoU8
  have hl := hf.2
  have hl' := hg.2
  have hx := Lib.hid hx
  have hy := Lib.hid hy
  have hf := Lib.hid hf
  have hg := Lib.hid hg
  by_cases hlen : ws.length = zs.length
  · have hne : ((ws.length : Int) != (zs.length : Int)) = false := by simp [hlen]
    have hle := Lib.hid hlen
    clear hlen
    have hO := Lib.hid (Own.made w #[] 0 (base := w.heap.size) (e := 5) (Nat.le_refl _) (by decide) rfl)
    have hB := Lib.hid ((Below.refl w.heap.size w).alloc (Nat.le_refl _) (.cells #[] 5))
    go_enter Try.func13, Try.ntmps13
    go_wp2
    go_loopw [6, 7, 8, 9, 10, 19] (fun b _ _ _ _ j wr => ∃ (k : Nat) (bs : List UInt8), k ≤ ws.length ∧ j = .int .i64 k ∧ bs.length ≤ 8 * k ∧ Own wr w.heap.size 5 b (bytesV bs) ∧ Hid (putL ws zs = (putL (ws.drop k) (zs.drop k)).map (bs ++ ·)) ∧ Below w.heap.size w wr)
      (fun _ _ _ _ _ j _ => ws.length - (intOf j).toNat)
    case atStart => exact ⟨0, [], by omega, rfl, by simp, hO.out, Lib.hid (by simp), hB.out⟩
    case round =>
      obtain ⟨k, bs, hk, rfl, hbl, ho, hh, hb⟩ := hrel
      by_cases hlt : k < ws.length
      · have hlt' : k < zs.length := by have := hle.out; omega
        obtain ⟨b, off, x, rfl, c1, hbb, hxk, hd, _, hx1, hx2⟩ := (show Ints _ _ _ from Reads.below hx.out hb).at hf.out hlt
        obtain ⟨b', off', z, rfl, c1', hbb', _, hd', _, hz⟩ := (show U64s _ _ _ from Reads.below hy.out hb).at hg.out hlt'
        have hsz := hb.size
        have ho := Lib.hid ho
        have hb := Lib.hid hb
        by_cases h1 : 1 ≤ x
        · by_cases h8 : x ≤ 8
          · obtain ⟨n, rfl⟩ := Int.eq_ofNat_of_zero_le (a := x) (by omega)
            have h1 : 1 ≤ n := by omega
            have h8 : n ≤ 8 := by omega
            cases hfit : fitsB n z with
            | true =>
              have hfit' := Lib.hid (of_decide_eq_true (show decide (z < 256 ^ n) = true from hfit))
              have hN0 := refNumber_any n z wr h8 hz
              rw [hfit] at hN0
              have hN := Lib.hid hN0
              clear hN0 hfit
              go_wp2_with fail
              refine hN.out.mono ?_
              rintro e w1 ⟨v1, rfl, ho1, hb1⟩
              clear hN
              have hsz1 := hb1.size
              obtain ⟨co, cc, rfl, hc1, hc2, hc3, hr1, hlt1, _⟩ := ho1.shape
              rw [bytesV_length, leB_length] at *
              have hc3 := Lib.hid hc3
              have hr1 := Lib.hid hr1
              have ho2 := Lib.hid (ho.out.below hb1)
              have hb2 := Lib.hid (hb.out.trans (hb1.mono hsz))
              have hone := Lib.hid (bytesV_one (leB n z))
              have hln := Lib.hid (show (bytesV (leB n z)).length = n by rw [bytesV_length, leB_length])
              clear ho1 hlt1 hb1
              go_wp2_with (at_builtin; go_loud (refine wpList_own_app rfl _ _ 26 rfl w.heap.size 5 i0 (.int .u8 0) 1 Try.underlying26 hi hz0 hz1 hz2 rfl u6 _ _ rfl ho2.out co n cc (bytesV (leB n z)) rfl hc3.out hln.out hr1.out hone.out (by rw [bytesV_length]; omega) (by rw [bytesV_length]; omega) (by omega) ?_); intro v' w' ho' hg'; have ho' := Lib.hid ho'; have hg' := Lib.hid hg')
              go_roundw
              case rel => exact ⟨k + 1, bs ++ leB n z, by omega, by go_num, by simp [leB_length]; omega, (by have := ho'.out; rwa [← bytesV_append] at this), Lib.hid (putL_step hh.out hd.out hd'.out h1 h8 hfit'.out), hb2.out.trans (hg'.out.out (by omega) (fun g hg => (ho2.out.lt g hg).1))⟩
              case measure => simp [intOf] <;> omega
            | false =>
              have hno := Lib.hid (putL_stop hh.out hd.out hd'.out (of_decide_eq_false (show decide (z < 256 ^ n) = false from hfit)))
              have hN0 := refNumber_any n z wr h8 hz
              rw [hfit] at hN0
              have hN := Lib.hid hN0
              clear hN0 hfit
              go_wp2_with fail
              refine hN.out.mono ?_
              rintro e w1 ⟨v1, rfl, ho1, hb1⟩
              clear hN
              have hb2 := Lib.hid (hb.out.trans (hb1.mono hsz))
              obtain ⟨co, cc, rfl, hc1, hc2, hc3, hr1, hlt1, _⟩ := ho1.shape
              rw [bytesV_length, leB_length] at *
              clear ho1 hb1 hr1 hc3 hlt1
              go_wp2
              go_ret2
              exact PutRes.no hno.out rfl hb2.out
          · have hno := Lib.hid (putL_wide hh.out hd.out (fun h => h8 h.2))
            go_wp2
            go_ret2
            exact PutRes.no hno.out rfl hb.out
        · have hno := Lib.hid (putL_wide hh.out hd.out (fun h => h1 h.1))
          go_wp2
          go_ret2
          exact PutRes.no hno.out rfl hb.out
      · have hend := Lib.hid (putL_end hh.out (by omega) (by have := hle.out; omega))
        have ho := Lib.hid ho
        go_wp2
        go_ret2
        rw [hend.out]
        exact ⟨_, rfl, ho.out, hb⟩
  · have hne : ((ws.length : Int) != (zs.length : Int)) = true := by simp; omega
    have hno := Lib.hid (putL_bad_len (ws := ws) (zs := zs) hlen)
    clear hlen
    go_enter Try.func13, Try.ntmps13
    go_wp2
    go_ret2
    exact PutRes.no hno.out rfl (Below.refl _ _)
end Go.Proofs.Ytiaihhgafnageaa
