/- slog.Read answers the moves of any bytes. -/
import Derived.Test.YtlbglcmajbhflaaSlogJ
import Derived.Test.YtlbglcmajbhflaaSlogE
namespace Go.Proofs.Ytlbglcmajbhflaa
open Go.ChangeShapes Go.WideShapes Go.ChangeAt Go.RowKit
set_option linter.unusedVariables false
set_option maxRecDepth 20000

/-- what a Read answers -/
def ReadRes (o : Option (List (Bool × Int × Int))) (w : World) (e : Ending) (w' : World) : Prop :=
  ∃ v, e = .returned (.tuple #[v, .int .i64 (errM o)]) ∧ OwnM w' w.heap.size v (o.getD []) ∧ Below w.heap.size w w'
theorem ReadRes.no {o : Option (List (Bool × Int × Int))} {w w' : World} {e : Ending} (ho : o = none) (he : e = .returned (.tuple #[.slice none 0 0, .int .i64 81])) (hb : Below w.heap.size w w') : ReadRes o w e w' := by
  subst ho
  exact ⟨_, he, OwnM.nil _ _, hb⟩
theorem ReadRes.yes {o : Option (List (Bool × Int × Int))} {ms : List (Bool × Int × Int)} {w w' : World} {e : Ending} {v : Value} (ho : o = some ms) (he : e = .returned (.tuple #[v, .int .i64 0])) (hv : OwnM w' w.heap.size v ms) (hb : Below w.heap.size w w') : ReadRes o w e w' := by
  subst ho
  exact ⟨_, he, hv, hb⟩

/-- a slice's length -/
def lenV : Value → Nat | .slice _ n _ => n | _ => 0

theorem readM_go {b : List UInt8} (h1 : b.length % 5 = 0) (h2 : b.length ≤ 20480) : readM b = readN (b.length / 5) b := by unfold readM; rw [if_pos ⟨h1, h2⟩]
theorem readM_no {b : List UInt8} (h : ¬ (b.length % 5 = 0 ∧ b.length ≤ 20480)) : readM b = none := by unfold readM; rw [if_neg h]

set_option maxHeartbeats 4000000 in
theorem mRead_any (bo : Option Addr) (cap : Nat) (bs : List UInt8) (w : World) (hx : Bytes w bo bs) (hc : bs.length ≤ cap) (hm : cap ≤ 9223372036854775807) :
    Calls Try.prog 20 #[.slice bo bs.length cap] w (ReadRes (readM bs) w) := by
  obtain ⟨i0, hi, hz0, hz1, hz2⟩ := info_parts infoMove
  have hx := Lib.hid hx
  by_cases hmod : bs.length % 5 = 0
  · by_cases hbig : bs.length ≤ 20480
    · obtain ⟨N, hN⟩ : ∃ N, bs.length = 5 * N := ⟨bs.length / 5, by omega⟩
      have hrd := Lib.hid (show readM bs = readN N bs by rw [readM_go hmod hbig, hN, show 5 * N / 5 = N from by omega])
      have hNb : N ≤ 4096 := by omega
      obtain ⟨cur, hcs, hmk⟩ := make_moves N (by omega) w
      have hO := Lib.hid (OwnM.made w cur N (Nat.le_refl _) (by unfold maxLen; omega) hcs)
      have hB := Lib.hid ((Below.refl w.heap.size w).alloc (Nat.le_refl _) (.cells cur 55))
      clear hcs
      have hq : ((bs.length : Int) / 5) = (N : Int) := by omega
      have hq2 : ((bs.length : Int) % 5) = 0 := by omega
      have hN' := Lib.hid hN
      clear hN
      go_enter Try.func20, Try.ntmps20
      go_wp2
      go_loopw [0, 4, 5, 6] (fun c v _ _ wr => ∃ (k : Nat) (ro : Option Addr) (rs : List UInt8) (rc : Nat) (ms : List (Bool × Int × Int)), c = .slice ro rs.length rc ∧ rs.length = 5 * k ∧ rs.length ≤ rc ∧ rc ≤ 9223372036854775807 ∧ Hid (Bytes w ro rs) ∧ OwnM wr w.heap.size v ms ∧ ms.length + k = N ∧ Hid (readN N bs = (readN k rs).map (ms ++ ·)) ∧ Below w.heap.size w wr)
        (fun c _ _ _ _ => lenV c)
      case atStart => exact ⟨N, bo, bs, cap, [], rfl, hN'.out, hc, hm, hx, hO.out, by simp, Lib.hid (by simp), hB.out⟩
      case round =>
        obtain ⟨k, ro, rs, rc, ms, rfl, hrk, hrc, hrm, hr, hown, hmk2, hrep, hb⟩ := hrel
        have hsz := hb.size
        by_cases hlt : 0 < k
        · obtain ⟨j, rfl⟩ : ∃ j, k = j + 1 := ⟨k - 1, by omega⟩
          have k1 : ∀ w, (Instr.slice 35 (.slice ro rs.length rc) none (some (.int .i64 5)) none).run Try.prog w = .ok (.slice ro 5 rc) w := fun w => run_cut_h 35 5 Try.underlying35 cells5 ro rs.length rc 5 (by omega) w
          have k2 : ∀ w, (Instr.slice 35 (.slice ro rs.length rc) (some (.int .i64 5)) none none).run Try.prog w = .ok (.slice (shiftA ro rc 5) (rs.drop 5).length (rc - 5)) w := fun w => by rw [List.length_drop]; exact run_cut_l 35 5 Try.underlying35 cells5 ro rs.length rc 5 (by omega) w
          have hR := mread_any ro rc (rs.take 5) wr (Reads.below (hr.out.take 5) hb) (by simp; omega) (by omega) hrm
          have hdl : (rs.drop 5).length = 5 * j := by simp; omega
          have hown := Lib.hid hown
          have hb := Lib.hid hb
          have hpos : (0 : Int) < (rs.length : Int) := by omega
          have h5 : 5 ≤ rs.length := by omega
          have hdl' := Lib.hid hdl
          clear hdl hrk
          cases ho1 : oneM (rs.take 5) with
          | none =>
            have hno := Lib.hid (show readM bs = none by rw [hrd.out]; exact readN_stop hrep.out ho1)
            rw [ho1] at hR
            have hR := Lib.hid hR
            clear ho1
            go_wp2_with fail
            refine hR.out.mono ?_
            rintro e w1 ⟨rfl, hb1⟩
            have hb1 := Lib.hid (hb.out.trans (hb1.mono hsz))
            go_wp2
            go_ret2
            exact ReadRes.no hno.out rfl (hb1.out.alloc hb1.out.size _)
          | some m =>
            obtain ⟨t, s, n⟩ := m
            have hst := Lib.hid (readN_step hrep.out ho1)
            rw [ho1] at hR
            have hR := Lib.hid hR
            clear ho1
            go_wp2_with fail
            refine hR.out.mono ?_
            rintro e w1 ⟨rfl, hb1⟩
            have hO1 := Lib.hid (hown.out.below hb1)
            have hb1 := Lib.hid (hb.out.trans (hb1.mono hsz))
            have hs1 := hb1.out.size
            go_wp2_with (at_builtin; go_loud (refine wpList_pushN rfl _ _ 27 rfl w.heap.size 55 i0 _ 3 24 Try.underlying27 hi hz0 hz1 hz2 rfl (by decide) u4 _ _ (w1.alloc (.cells #[.bool t, .int .i64 s, .int .i64 n] 55)) rfl (World.ownsRow.alloc hO1.out _) 1 #[.bool t, .int .i64 s, .int .i64 n] (by rw [World.size_alloc]; rfl) rfl (by intro u hu; simp at hu; rcases hu with rfl | rfl | rfl <;> rfl) (by omega) (by omega) (by simp; omega) ?_); intro v' w' ho hg hv; obtain ⟨g, cap, rfl⟩ := hv; have hg := Lib.hid hg; have ho := Lib.hid ho)
            go_roundw
            case rel =>
              refine ⟨_, _, _, _, ⟨j, shiftA ro rc 5, rs.drop 5, rc - 5, by rw [List.length_drop], hdl'.out, by rw [List.length_drop]; omega, by omega, Lib.hid (Bytes.shift hr.out hrc), ms ++ [(t, s, n)], OwnM.pushed ho.out, by simp; omega, hst, (hb1.out.alloc hs1 _).trans (hg.out.out (by simp; omega) (fun g hg => (World.ownsRow.lt hO1.out g hg).1))⟩, rfl, rfl, rfl, rfl⟩
            case measure => simp only [lenV]; omega
        · obtain rfl : k = 0 := by omega
          have hl0 : (rs.length : Int) = 0 := by omega
          have hyes := Lib.hid (show readM bs = some ms by rw [hrd.out]; exact readN_end hrep.out)
          have hown := Lib.hid hown
          have hb := Lib.hid hb
          go_wp2
          go_ret2
          exact ReadRes.yes hyes.out rfl hown.out hb.out
    · have hno := Lib.hid (readM_no (fun h => hbig h.2))
      have hq2 : ((bs.length : Int) % 5) = 0 := by omega
      have hbig' : 20480 < bs.length := by omega
      go_enter Try.func20, Try.ntmps20
      go_wp2
      go_ret2
      exact ReadRes.no hno.out rfl (Below.refl _ _)
  · have hno := Lib.hid (readM_no (fun h => hmod h.1))
    have hq2 : (((bs.length : Int) % 5) != 0) = true := by simp; omega
    go_enter Try.func20, Try.ntmps20
    go_wp2
    go_ret2
    exact ReadRes.no hno.out rfl (Below.refl _ _)
end Go.Proofs.Ytlbglcmajbhflaa
