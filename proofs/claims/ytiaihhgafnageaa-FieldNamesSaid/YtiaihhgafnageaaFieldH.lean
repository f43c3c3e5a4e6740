/- The document's own Get answers the same. -/
import Derived.Test.YtiaihhgafnageaaFieldG
namespace Go.Proofs.Ytiaihhgafnageaa
open Go.ChangeShapes Go.WideShapes Go.ChangeAt Go.RowKit
set_option linter.unusedVariables false

theorem refValue_n (ro : Option Addr) (rc : Nat) (rs : List UInt8) (n : Nat) (w : World) (h : Bytes w ro rs) (hn : n ≤ rs.length) (h8 : n ≤ 8) :
    Calls Try.prog 25 #[.slice ro n rc] w fun e w' => e = .returned (.int .u64 (valB (rs.take n) : Int)) ∧ w = w' := by
  have hl : (rs.take n).length = n := by simp; omega
  have := refValue_any ro rc (rs.take n) w (h.take n) (by omega)
  rwa [hl] at this

set_option maxHeartbeats 2000000 in
theorem refGet_any (ao bo : Option Addr) (cap cap' : Nat) (ws : List Int) (bs : List UInt8) (w : World) (hx : Ints w ao ws) (hy : Bytes w bo bs) (hf : I64s ws) (hc : bs.length ≤ cap') (hm : cap' ≤ 9223372036854775807) :
    Calls Try.prog 14 #[.slice ao ws.length cap, .slice bo bs.length cap'] w (GetRes (getL ws bs) w) := by
  obtain ⟨i0, hi, hz0, hz1, hz2⟩ := info_parts infoU64
  have hl := hf.2
  have hx := Lib.hid hx
  have hy := Lib.hid hy
  have hf := Lib.hid hf
  have hO := Lib.hid (Own.made w #[] 0 (base := w.heap.size) (e := 52) (Nat.le_refl _) (by decide) rfl)
  have hB := Lib.hid ((Below.refl w.heap.size w).alloc (Nat.le_refl _) (.cells #[] 52))
  go_enter Try.func14, Try.ntmps14
  go_wp2
  go_loopw [6, 7, 9, 13] (fun b t _ j wr => ∃ (k a : Nat) (zs : List Nat), k ≤ ws.length ∧ j = .int .i64 k ∧ t = .int .i64 a ∧ a ≤ bs.length ∧ zs.length ≤ k ∧ Own wr w.heap.size 52 b (u64V zs) ∧ Hid (getL ws bs = (getL (ws.drop k) (bs.drop a)).map (zs ++ ·)) ∧ Below w.heap.size w wr)
    (fun _ _ _ j _ => ws.length - (intOf j).toNat)
  case atStart => exact ⟨0, 0, [], by omega, rfl, rfl, by omega, by simp, hO.out, Lib.hid (by simp), hB.out⟩
  case round =>
    obtain ⟨k, a, zs, hk, rfl, rfl, ha, hzl, ho, hh, hb⟩ := hrel
    by_cases hlt : k < ws.length
    · obtain ⟨b, off, x, rfl, c1, hbb, hxk, hd, _, hx1, hx2⟩ := (show Ints _ _ _ from Reads.below hx.out hb).at hf.out hlt
      have hsz := hb.size
      have ho' := Lib.hid ho
      have hb' := Lib.hid hb
      by_cases h1 : 1 ≤ x
      · by_cases h8 : x ≤ 8
        · obtain ⟨n, rfl⟩ := Int.eq_ofNat_of_zero_le (a := x) (by omega)
          have h1 : 1 ≤ n := by omega
          have h8 : n ≤ 8 := by omega
          by_cases hnr : n ≤ bs.length - a
          · have hdl : n ≤ (bs.drop a).length := by simp; omega
            have hG := Lib.hid (refValue_n (shiftA bo cap' a) (cap' - a) (bs.drop a) n wr (Bytes.shift (Reads.below hy.out hb) hc) hdl h8)
            have hvl := valB_lt_64 ((bs.drop a).take n) (by simp; omega)
            have k1 : ∀ w, (Instr.slice 26 (.slice bo bs.length cap') (some (.int .i64 (a : Int))) (some (.int .i64 ((a : Int) + (n : Int)))) none).run Try.prog w = .ok (.slice (shiftA bo cap' a) n (cap' - a)) w := fun w => by
              have := run_cut_lh 26 5 Try.underlying26 cells5 bo bs.length cap' a (a + n) (by omega) (by omega) w
              rw [Int.natCast_add] at this
              rwa [show a + n - a = n from by omega] at this
            have hbl := Lib.hid (show ∀ g, u6.ownBlock = some g → w.heap.size ≤ g from fun g hg => (ho.lt g hg).1)
            have hst := Lib.hid (getL_step hh.out hd.out h1 h8 hdl)
            rw [List.drop_drop] at hst
            have hlt3 : ¬ ((bs.length : Int) - (a : Int) < (n : Int)) := by omega
            have hZ : (zs ++ [valB ((bs.drop a).take n)]).length ≤ k + 1 := by simp; omega
            generalize hV : valB ((bs.drop a).take n) = V at *
            clear hV ho hb
            go_wp2_with fail
            refine hG.out.mono ?_
            rintro e w1 ⟨rfl, rfl⟩
            go_wp2_with (at_builtin; go_loud (refine wpList_own_push rfl _ _ 22 rfl w.heap.size 52 i0 (.int .u64 0) 8 Try.underlying22 hi hz0 hz1 hz2 rfl u6 _ wr rfl ho'.out 1 (.int .u64 (V : Int)) rfl rfl (by simp [u64V_length]; omega) (by simp [u64V_length]; omega) (by omega) ?_); intro v' w' ho2 hg2; have ho2 := Lib.hid ho2; have hg2 := Lib.hid hg2)
            go_roundw
            case rel => exact ⟨k + 1, a + n, zs ++ [V], by omega, by go_num, by go_num, by omega, hZ, (by have := ho2.out; rw [u64V_append]; exact this), hst, hb'.out.trans (hg2.out.out hsz hbl.out)⟩
            case measure => simp [intOf] <;> omega
          · have hlt3 : (bs.length : Int) - (a : Int) < (n : Int) := by omega
            have hno := Lib.hid (getL_stop hh.out hd.out (fun h => by have := h.2.2; simp at this; omega))
            go_wp2
            go_ret2
            exact GetRes.no hno.out rfl hb'.out
        · have hno := Lib.hid (getL_stop hh.out hd.out (fun h => h8 h.2.1))
          go_wp2
          go_ret2
          exact GetRes.no hno.out rfl hb'.out
      · have hno := Lib.hid (getL_stop hh.out hd.out (fun h => h1 h.1))
        go_wp2
        go_ret2
        exact GetRes.no hno.out rfl hb'.out
    · have hend := getL_end hh.out (by omega)
      have ho' := Lib.hid ho
      have hb' := Lib.hid hb
      by_cases h0 : a = bs.length
      · rw [if_pos (by simp; omega)] at hend
        have hend' := Lib.hid hend
        subst h0
        clear hend ho hb
        go_wp2
        go_ret2
        rw [hend'.out]
        exact ⟨_, rfl, ho'.out, hb'.out⟩
      · rw [if_neg (by simp; omega)] at hend
        have hend' := Lib.hid hend
        have hne : ((a : Int) != (bs.length : Int)) = true := by simp; omega
        clear hend ho hb h0
        go_wp2
        go_ret2
        exact GetRes.no hend'.out rfl hb'.out
end Go.Proofs.Ytiaihhgafnageaa
