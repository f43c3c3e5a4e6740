/- field.Split answers the texts of bytes, for every input. -/
import Derived.Test.YtiaihhgafnageaaFieldI
namespace Go.Proofs.Ytiaihhgafnageaa
open Go.ChangeShapes Go.WideShapes Go.ChangeAt Go.RowKit
set_option linter.unusedVariables false

/-- so many texts -/
def splitT : Nat → List UInt8 → Option (List (List UInt8))
  | 0, b => if b.length = 0 then some [] else none
  | k + 1, b => if 2 ≤ b.length ∧ valB (b.take 2) ≤ b.length - 2 then (splitT k ((b.drop 2).drop (valB (b.take 2)))).map ((b.drop 2).take (valB (b.take 2)) :: ·) else none
/-- the texts of bytes -/
def splitL (b : List UInt8) : Option (List (List UInt8)) := if 2 ≤ b.length then splitT (valB (b.take 2)) (b.drop 2) else none

/-- what a Split answers -/
def SplitRes (o : Option (List (List UInt8))) (w : World) (e : Ending) (w' : World) : Prop :=
  ∃ v, e = .returned (.tuple #[v, .int .i64 (errN o)]) ∧ OwnT w' w.heap.size v (o.getD []) ∧ Below w.heap.size w w'

theorem SplitRes.no {o : Option (List (List UInt8))} {w w' : World} {e : Ending} (ho : o = none) (he : e = .returned (.tuple #[.slice none 0 0, .int .i64 21])) (hb : Below w.heap.size w w') : SplitRes o w e w' := by
  subst ho
  exact ⟨_, he, OwnT.nil _ _, hb⟩

theorem splitT_step {o : Option (List (List UInt8))} {k V : Nat} {b ss : List UInt8} {ts : List (List UInt8)} (h : o = (splitT (k + 1) b).map (ts ++ ·)) (hV : V = valB (b.take 2)) (hs : ss = b.drop 2) (h2 : 2 ≤ b.length) (hl : V ≤ ss.length) :
    o = (splitT k (ss.drop V)).map ((ts ++ [ss.take V]) ++ ·) := by
  subst hV hs
  rw [List.length_drop] at hl
  rw [h]
  simp only [splitT, if_pos (show 2 ≤ b.length ∧ valB (b.take 2) ≤ b.length - 2 from ⟨h2, hl⟩), Option.map_map', List.append_assoc, List.singleton_append]
theorem splitT_short {o : Option (List (List UInt8))} {k : Nat} {b : List UInt8} {ts : List (List UInt8)} (h : o = (splitT (k + 1) b).map (ts ++ ·)) (h2 : ¬ 2 ≤ b.length) : o = none := by
  rw [h]
  simp only [splitT, if_neg (show ¬ (2 ≤ b.length ∧ valB (b.take 2) ≤ b.length - 2) from fun hh => h2 hh.1), Option.map_none]
theorem splitT_long {o : Option (List (List UInt8))} {k V : Nat} {b ss : List UInt8} {ts : List (List UInt8)} (h : o = (splitT (k + 1) b).map (ts ++ ·)) (hV : V = valB (b.take 2)) (hs : ss = b.drop 2) (hl : ¬ V ≤ ss.length) : o = none := by
  subst hV hs
  rw [List.length_drop] at hl
  rw [h]
  simp only [splitT, if_neg (show ¬ (2 ≤ b.length ∧ valB (b.take 2) ≤ b.length - 2) from fun hh => hl hh.2), Option.map_none]
theorem splitT_end {o : Option (List (List UInt8))} {b : List UInt8} {ts : List (List UInt8)} (h : o = (splitT 0 b).map (ts ++ ·)) : o = if b.length = 0 then some ts else none := by
  rw [h]
  simp only [splitT]
  split <;> simp

theorem cut_split (ao : Option Addr) (cap : Nat) (bs : List UInt8) (w w0 : World) (hx : Bytes w ao bs) (hx0 : Bytes w0 ao bs) (hc : bs.length ≤ cap) (hm : cap ≤ 9223372036854775807) (hn : ao = none → cap = 0) (h2 : 2 ≤ bs.length) :
    Calls Try.prog 26 #[.slice ao bs.length cap] w fun e w' => ∃ (so : Option Addr) (sc : Nat) (ss : List UInt8) (V : Nat), e = .returned (.tuple #[.int .i64 (V : Int), .slice so ss.length sc, .bool true]) ∧
      Hid (V = valB (bs.take 2)) ∧ V < 65536 ∧ Hid (ss = bs.drop 2) ∧ ss.length ≤ sc ∧ sc ≤ 9223372036854775807 ∧ Hid (so = none → sc = 0) ∧ Hid (Bytes w0 so ss) ∧ ∃ n, w' = w.drewN n := by
  refine (cut_yes ao cap bs w hx hc hm h2).mono ?_
  rintro e w' ⟨rfl, n, rfl⟩
  refine ⟨shiftA ao cap 2, cap - 2, bs.drop 2, _, by rw [List.length_drop], Lib.hid rfl, valB_lt_16 _ (by simp; omega), Lib.hid rfl, by simp; omega, by omega, Lib.hid (fun e => ?_), Lib.hid (Bytes.shift hx0 hc), n, rfl⟩
  cases ao with
  | none => have := hn rfl; omega
  | some a => unfold shiftA at e; split at e <;> simp at e

theorem Clone_n (ao : Option Addr) (cap : Nat) (bs : List UInt8) (n : Nat) (w : World) (hx : Bytes w ao bs) (hn : n ≤ bs.length) (hnil : ao = none → cap = 0) (hl : n ≤ 65535) :
    Calls Try.prog 27 #[.slice ao n cap] w fun e w' => ∃ go gc, e = .returned (.slice go n gc) ∧ Hid (Own w' w.heap.size 5 (.slice go n gc) (bytesV (bs.take n))) ∧ Below w.heap.size w w' := by
  have hlen : (bs.take n).length = n := by simp; omega
  have := Clone_any ao cap (bs.take n) w (hx.take n) hnil (by omega)
  rw [hlen] at this
  refine this.mono ?_
  rintro e w' ⟨v', rfl, ho, hb⟩
  obtain ⟨go, gc, rfl, _⟩ := ho.shape
  rw [bytesV_length, hlen] at ho ⊢
  exact ⟨go, gc, rfl, ho, hb⟩

set_option maxHeartbeats 4000000 in
theorem Split_any (ao : Option Addr) (cap : Nat) (bs : List UInt8) (w : World) (hx : Bytes w ao bs) (hc : bs.length ≤ cap) (hm : cap ≤ 9223372036854775807) (hn : ao = none → cap = 0) :
    Calls Try.prog 18 #[.slice ao bs.length cap] w (SplitRes (splitL bs) w) := by
  obtain ⟨i0, hi, hz0, hz1, hz2⟩ := info_parts infoBytes
  have hx := Lib.hid hx
  have hn' := Lib.hid hn
  clear hn
  by_cases h2 : 2 ≤ bs.length
  · have hC := Lib.hid (cut_split ao cap bs w w hx.out hx.out hc hm hn'.out h2)
    have hS : Hid (splitL bs = splitT (valB (bs.take 2)) (bs.drop 2)) := Lib.hid (by simp only [splitL, if_pos h2])
    go_enter Try.func18, Try.ntmps18
    go_wp2_with fail
    refine hC.out.mono ?_
    rintro e w1 ⟨so, sc, ss, M, rfl, hM, hM6, hss, hsc, hscm, hsn, hsb, n, rfl⟩
    clear hC
    have hb0 := Lib.hid (below_drewN' (Below.refl w.heap.size w) n)
    go_wp2
    go_loopw [0, 5, 6, 7, 17] (fun c _ b _ j wr => ∃ (k r : Nat) (ts : List (List UInt8)) (ro : Option Addr) (rs : List UInt8) (rc : Nat), r + k = M ∧ j = .int .i64 k ∧ c = .slice ro rs.length rc ∧ rs.length ≤ rc ∧ rc ≤ 9223372036854775807 ∧ Hid (ro = none → rc = 0) ∧ Hid (Bytes w ro rs) ∧ ts.length ≤ k ∧ OwnT wr w.heap.size b ts ∧ Hid (splitL bs = (splitT r rs).map (ts ++ ·)) ∧ Below w.heap.size w wr)
      (fun _ _ _ _ j _ => M - (intOf j).toNat)
    case atStart => exact ⟨0, M, [], so, ss, sc, by omega, rfl, rfl, hsc, hscm, hsn, hsb, by simp, OwnT.nil _ _, Lib.hid (by rw [hS.out, hss.out, hM.out]; simp), hb0.out⟩
    case round =>
      obtain ⟨k, r, ts, ro, rs, rc, hk, rfl, rfl, hrc, hrm, hrn, hr, htl, ho, hh, hb⟩ := hrel
      have hsz := hb.size
      have ho' := Lib.hid ho
      have hb' := Lib.hid hb
      clear ho hb
      by_cases hlt : k < M
      · obtain ⟨r, rfl⟩ : ∃ r', r = r' + 1 := ⟨r - 1, by omega⟩
        by_cases hr2 : 2 ≤ rs.length
        · have hC := Lib.hid (cut_split ro rc rs wr w (Reads.below hr.out hb'.out) hr.out hrc hrm hrn.out hr2)
          go_wp2_with fail
          refine hC.out.mono ?_
          rintro e w1 ⟨so2, sc2, ss2, V, rfl, hV, hV6, hss2, hsc2, hscm2, hsn2, hsb2, n2, rfl⟩
          clear hC
          by_cases hfit : V ≤ ss2.length
          · have hst := Lib.hid (splitT_step hh.out hV.out hss2.out hr2 hfit)
            have hb1 := Lib.hid (below_drewN' hb'.out n2)
            have k1 : ∀ w, (Instr.slice 26 (.slice so2 ss2.length sc2) none (some (.int .i64 (V : Int))) none).run Try.prog w = .ok (.slice so2 V sc2) w := fun w => run_cut_h 26 5 Try.underlying26 cells5 so2 ss2.length sc2 V (by omega) w
            have k2 : ∀ w, (Instr.slice 26 (.slice so2 ss2.length sc2) (some (.int .i64 (V : Int))) none none).run Try.prog w = .ok (.slice (shiftA so2 sc2 V) (ss2.length - V) (sc2 - V)) w := fun w => run_cut_l 26 5 Try.underlying26 cells5 so2 ss2.length sc2 V (by omega) w
            have hCl := Lib.hid (Clone_n so2 sc2 ss2 V (wr.drewN n2) (Reads.below hsb2.out hb1.out) hfit hsn2.out (by omega))
            go_wp2_with fail
            refine hCl.out.mono ?_
            rintro e w2 ⟨go, gc, rfl, hO, hb2⟩
            clear hCl
            have hsz2 : w.heap.size ≤ w2.heap.size := Nat.le_trans hsz hb2.size
            have hb3 := Lib.hid (hb1.out.trans (hb2.mono hsz))
            have hO' : Hid (Own w2 w.heap.size 5 (.slice go V gc) (bytesV (ss2.take V))) := Lib.hid (hO.out.le hsz)
            have hw1 : Hid (Below wr.heap.size wr w2) := Lib.hid ((below_drewN' (Below.refl wr.heap.size wr) n2).trans hb2)
            obtain ⟨vs, q1, q2, q3⟩ := ho'.out.below hw1.out
            have q1' : vs.length ≤ k := by omega
            have q1 := Lib.hid q1
            have q2 := Lib.hid q2
            have q3 := Lib.hid q3
            clear hO hb2
            go_wp2_with (at_builtin; go_loud (refine wpList_own_push rfl _ _ 38 rfl w.heap.size 26 i0 (.slice none 0 0) 24 Try.underlying38 hi hz0 hz1 hz2 rfl u6 _ w2 rfl q2.out 1 (.slice go V gc) rfl rfl (by omega) (by omega) (by omega) ?_); intro v' w' ho2 hg2; have ho2 := Lib.hid ho2; have hg2 := Lib.hid hg2)
            go_roundw
            case rel => exact ⟨k + 1, r, ts ++ [ss2.take V], shiftA so2 sc2 V, ss2.drop V, sc2 - V, by omega, by go_num, by rw [List.length_drop], by simp; omega, by omega, Lib.hid (fun e => by
              have h0 := hsn2.out
              cases hso : so2 with
              | none => rw [hso] at h0; have := h0 rfl; omega
              | some a => rw [hso] at e; unfold shiftA at e; split at e <;> simp at e), Lib.hid (Bytes.shift hsb2.out hsc2), by simp; omega, OwnT.push q1.out q2.out q3.out hO'.out ho2.out hg2.out, hst, hb3.out.trans (hg2.out.out hsz2 (fun g hg => (q2.out.lt g hg).1))⟩
            case measure => simp [intOf] <;> omega
          · have hno := Lib.hid (splitT_long hh.out hV.out hss2.out hfit)
            have hb1 := Lib.hid (below_drewN' hb'.out n2)
            go_wp2
            go_ret2
            exact SplitRes.no hno.out rfl hb1.out
        · have hno := Lib.hid (splitT_short hh.out hr2)
          go_wp2_with fail
          refine (cut_no ro rc rs wr (by omega)).mono ?_
          rintro e w1 ⟨rfl, rfl⟩
          go_wp2
          go_ret2
          exact SplitRes.no hno.out rfl hb'.out
      · obtain rfl : r = 0 := by omega
        have hend := splitT_end hh.out
        by_cases h0 : rs.length = 0
        · rw [if_pos h0] at hend
          have hend' := Lib.hid hend
          have h0' : rs.length ≤ 0 := by omega
          clear hend h0
          go_wp2
          go_ret2
          rw [hend'.out]
          exact ⟨_, rfl, ho'.out, hb'.out⟩
        · rw [if_neg h0] at hend
          have hend' := Lib.hid hend
          have h0' : 0 < rs.length := by omega
          clear hend h0
          go_wp2
          go_ret2
          exact SplitRes.no hend'.out rfl hb'.out
  · have hno : Hid (splitL bs = none) := Lib.hid (by simp only [splitL, if_neg h2])
    go_enter Try.func18, Try.ntmps18
    go_wp2_with fail
    refine (cut_no ao cap bs w (by omega)).mono ?_
    rintro e w1 ⟨rfl, rfl⟩
    go_wp2
    go_ret2
    exact SplitRes.no hno.out rfl (Below.refl _ _)
end Go.Proofs.Ytiaihhgafnageaa
