/- The document's own Split answers the same. -/
import Derived.Test.YtiaihhgafnageaaFieldJ
namespace Go.Proofs.Ytiaihhgafnageaa
open Go.ChangeShapes Go.WideShapes Go.ChangeAt Go.RowKit
set_option linter.unusedVariables false

/-- the document's Value of two bytes of a slice -/
theorem refValue_2 (ro : Option Addr) (rc : Nat) (rs : List UInt8) (w : World) (h : Bytes w ro rs) (hn : 2 ≤ rs.length) :
    Calls Try.prog 25 #[.slice ro 2 rc] w fun e w' => e = .returned (.int .u64 (valB (rs.take 2) : Int)) ∧ w = w' :=
  refValue_n ro rc rs 2 w h hn (by omega)

theorem drop_drop2 (bs : List UInt8) (a V : Nat) : ((bs.drop a).drop 2).drop V = bs.drop (a + 2 + V) := by
  rw [List.drop_drop, List.drop_drop, Nat.add_assoc]

set_option maxHeartbeats 4000000 in
theorem refSplit_any (ao : Option Addr) (cap : Nat) (bs : List UInt8) (w : World) (hx : Bytes w ao bs) (hc : bs.length ≤ cap) (hm : cap ≤ 9223372036854775807) (hbig : bs.length ≤ 140737488351232) (hn : ao = none → cap = 0) :
    Calls Try.prog 19 #[.slice ao bs.length cap] w (SplitRes (splitL bs) w) := by
  obtain ⟨i0, hi, hz0, hz1, hz2⟩ := info_parts infoBytes
  obtain ⟨j0, hj, hy0, hy1, hy2⟩ := info_parts infoU8
  have hx := Lib.hid hx
  have hn' := Lib.hid hn
  clear hn
  by_cases h2 : 2 ≤ bs.length
  · have hG : Hid (∀ w', Below w.heap.size w w' → Calls Try.prog 25 #[.slice ao 2 cap] w' fun e w'' => e = .returned (.int .u64 (valB (bs.take 2) : Int)) ∧ w' = w'') := Lib.hid fun w' hb => refValue_2 ao cap bs w' (Reads.below hx.out hb) h2
    have hS : Hid (splitL bs = splitT (valB (bs.take 2)) (bs.drop 2)) := Lib.hid (by simp only [splitL, if_pos h2])
    have hV := valB_lt_16 (bs.take 2) (by simp; omega)
    have k0 : ∀ w, (Instr.slice 26 (.slice ao bs.length cap) none (some (.int .i64 2)) none).run Try.prog w = .ok (.slice ao 2 cap) w := fun w => run_cut_h 26 5 Try.underlying26 cells5 ao bs.length cap 2 (by omega) w
    have hB := Lib.hid ((Below.refl w.heap.size w).alloc (Nat.le_refl _) (.cells #[] 26))
    have hO : Hid (OwnT (w.alloc (.cells #[] 26)) w.heap.size (.slice (some ⟨w.heap.size, 0, none⟩) 0 0) []) := Lib.hid ⟨[], rfl, Own.made w #[] 0 (Nat.le_refl _) (by decide) rfl, fun i hi => by simp at hi⟩
    generalize hM : valB (bs.take 2) = M at *
    clear hM
    go_enter Try.func19, Try.ntmps19
    go_wp2_with fail
    refine (hG.out _ hB.out).mono ?_
    rintro e w1 ⟨rfl, rfl⟩
    clear k0
    go_wp2
    go_loopw [4, 5, 6, 7] (fun b t j _ wr => ∃ (r a : Nat) (ts : List (List UInt8)), r ≤ 65535 ∧ j = .int .i64 r ∧ t = .int .i64 a ∧ a ≤ bs.length ∧ ts.length + r ≤ 65535 ∧ OwnT wr w.heap.size b ts ∧ Hid (splitL bs = (splitT r (bs.drop a)).map (ts ++ ·)) ∧ Below w.heap.size w wr)
      (fun _ _ j _ _ => (intOf j).toNat)
    case atStart => exact ⟨M, 2, [], by omega, rfl, rfl, h2, by simp; omega, hO.out, Lib.hid (by rw [hS.out]; simp), hB.out⟩
    case round =>
      obtain ⟨r, a, ts, hr, rfl, rfl, ha, htl, ho, hh, hb⟩ := hrel
      have hsz := hb.size
      have ho' := Lib.hid ho
      have hb' := Lib.hid hb
      clear ho hb
      cases r with
      | succ r =>
        by_cases hr2 : 2 ≤ bs.length - a
        · have hdl : (bs.drop a).length = bs.length - a := by simp
          have hr2' : 2 ≤ (bs.drop a).length := by omega
          have hC := Lib.hid (refValue_2 (shiftA ao cap a) (cap - a) (bs.drop a) wr (Bytes.shift (Reads.below hx.out hb'.out) hc) hr2')
          have hV6 := valB_lt_16 ((bs.drop a).take 2) (by simp; omega)
          have k1 : ∀ w, (Instr.slice 26 (.slice ao bs.length cap) (some (.int .i64 (a : Int))) (some (.int .i64 ((a : Int) + 2))) none).run Try.prog w = .ok (.slice (shiftA ao cap a) 2 (cap - a)) w := fun w => by
            have := run_cut_lh 26 5 Try.underlying26 cells5 ao bs.length cap a (a + 2) (by omega) (by omega) w
            rw [Int.natCast_add] at this
            rwa [show a + 2 - a = 2 from by omega] at this
          have hlt2 : ¬ ((bs.length : Int) - (a : Int) < 2) := by omega
          generalize hVe : valB ((bs.drop a).take 2) = V at *
          have hVe' := Lib.hid hVe
          clear hVe hdl
          go_wp2_with fail
          refine hC.out.mono ?_
          rintro e w1 ⟨rfl, rfl⟩
          clear hC k1
          by_cases hfit : V ≤ bs.length - a - 2
          · have hdl2 : V ≤ ((bs.drop a).drop 2).length := by simp; omega
            have hst := splitT_step hh.out hVe'.out.symm rfl hr2' hdl2
            rw [drop_drop2, show (bs.drop a).drop 2 = bs.drop (a + 2) from List.drop_drop] at hst
            have hst := Lib.hid hst
            have hsrc : Hid (Reads wr (shiftA ao cap (a + 2)) (bytesV ((bs.drop (a + 2)).take V))) := Lib.hid (Bytes.take (Bytes.shift (Reads.below hx.out hb'.out) hc) V)
            have hln : Hid ((bytesV ((bs.drop (a + 2)).take V)).length = V) := Lib.hid (by rw [bytesV_length]; simp; omega)
            have hone := Lib.hid (bytesV_one ((bs.drop (a + 2)).take V))
            have hnn : Hid (shiftA ao cap (a + 2) = none → cap - (a + 2) = 0) := Lib.hid (fun e => by
              have h0 := hn'.out
              cases hao : ao with
              | none => rw [hao] at h0; have := h0 rfl; omega
              | some x => rw [hao] at e; unfold shiftA at e; split at e <;> simp at e)
            have k2 : ∀ w, (Instr.slice 26 (.slice ao bs.length cap) (some (.int .i64 ((a : Int) + 2))) (some (.int .i64 ((a : Int) + 2 + (V : Int)))) none).run Try.prog w = .ok (.slice (shiftA ao cap (a + 2)) V (cap - (a + 2))) w := fun w => by
              have := run_cut_lh 26 5 Try.underlying26 cells5 ao bs.length cap (a + 2) (a + 2 + V) (by omega) (by omega) w
              rw [Int.natCast_add, Int.natCast_add] at this
              rwa [show a + 2 + V - (a + 2) = V from by omega] at this
            have hlt3 : ¬ ((bs.length : Int) - (a : Int) - 2 < (V : Int)) := by omega
            have hts : ts.length + 1 + r ≤ 65535 := by omega
            have hO0 : Hid (Own (wr.alloc (.cells #[] 5)) wr.heap.size 5 (.slice (some ⟨wr.heap.size, 0, none⟩) 0 0) []) := Lib.hid (Own.made wr #[] 0 (Nat.le_refl _) (by decide) rfl)
            have hB0 : Hid (Below wr.heap.size wr (wr.alloc (.cells #[] 5))) := Lib.hid ((Below.refl _ _).alloc (Nat.le_refl _) _)
            have hsrc' := Lib.hid (hsrc.out.below hB0.out)
            go_wp2_with (first
              | (at_builtin; refine wpList_own_app rfl (.tmp 40) (.tmp 48) 26 rfl wr.heap.size 5 j0 (.int .u8 0) 1 Try.underlying26 hj hy0 hy1 hy2 rfl (.slice (some ⟨wr.heap.size, 0, none⟩) 0 0) [] _ rfl hO0.out (shiftA ao cap (a + 2)) V (cap - (a + 2)) (bytesV ((bs.drop (a + 2)).take V)) rfl hnn.out hln.out hsrc'.out hone.out (by simp; omega) (by simp; omega) (by simp) ?_; intro v2 w2 ho3 hg3; have hb3 : Hid (Below wr.heap.size wr w2) := Lib.hid (hB0.out.trans (hg3.out (by simp) (fun g hg => (hO0.out.lt g hg).1))); obtain ⟨go, gc, rfl, _⟩ := ho3.shape; rw [List.nil_append] at ho3 ⊢; rw [hln.out] at ho3 ⊢; have hO' : Hid (Own w2 w.heap.size 5 (.slice go V gc) (bytesV ((bs.drop (a + 2)).take V))) := Lib.hid (ho3.le hsz); obtain ⟨vs, q1, q2, q3⟩ := ho'.out.below hb3.out; have q1' : vs.length ≤ 65535 := (by omega); have hsz2 : w.heap.size ≤ w2.heap.size := Nat.le_trans hsz hb3.out.size; have q1 := Lib.hid q1; have q2 := Lib.hid q2; have q3 := Lib.hid q3; clear ho3 hg3)
              | (at_builtin; refine wpList_own_push rfl (.tmp 39) (.tmp 50) 38 rfl w.heap.size 26 i0 (.slice none 0 0) 24 Try.underlying38 hi hz0 hz1 hz2 rfl u4 _ w2 rfl q2.out 1 (.slice go V gc) rfl rfl (by omega) (by omega) (by omega) ?_; intro v' w' ho4 hg4; have ho4 := Lib.hid ho4; have hg4 := Lib.hid hg4))
            go_roundw
            case rel => exact ⟨r, a + 2 + V, ts ++ [(bs.drop (a + 2)).take V], by omega, by go_num, by go_num, by omega, by simp; omega, OwnT.push q1.out q2.out q3.out hO'.out ho4.out hg4.out, hst, (hb'.out.trans (hb3.out.mono hsz)).trans (hg4.out.out hsz2 (fun g hg => (q2.out.lt g hg).1))⟩
            case measure => simp [intOf] <;> omega
          · have hno := Lib.hid (splitT_long hh.out hVe'.out.symm rfl (by simp; omega))
            have hlt3 : (bs.length : Int) - (a : Int) - 2 < (V : Int) := by omega
            go_wp2
            go_ret2
            exact SplitRes.no hno.out rfl hb'.out
        · have hno := Lib.hid (splitT_short hh.out (by simp; omega))
          have hlt2 : (bs.length : Int) - (a : Int) < 2 := by omega
          go_wp2
          go_ret2
          exact SplitRes.no hno.out rfl hb'.out
      | zero =>
        have hend := splitT_end hh.out
        by_cases h0 : a = bs.length
        · rw [if_pos (by simp; omega)] at hend
          have hend' := Lib.hid hend
          subst h0
          clear hend
          go_wp2
          go_ret2
          rw [hend'.out]
          exact ⟨_, rfl, ho'.out, hb'.out⟩
        · rw [if_neg (by simp; omega)] at hend
          have hend' := Lib.hid hend
          have hne : ((a : Int) != (bs.length : Int)) = true := by simp; omega
          clear hend h0
          go_wp2
          go_ret2
          exact SplitRes.no hend'.out rfl hb'.out
  · have hno : Hid (splitL bs = none) := Lib.hid (by simp only [splitL, if_neg h2])
    go_enter Try.func19, Try.ntmps19
    go_wp2
    go_ret2
    exact SplitRes.no hno.out rfl (Below.refl _ _)
end Go.Proofs.Ytiaihhgafnageaa
