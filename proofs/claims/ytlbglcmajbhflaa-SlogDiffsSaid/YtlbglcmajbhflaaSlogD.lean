/- The document's own Replay answers the set behind the moves, for every input. -/
import Derived.Test.YtlbglcmajbhflaaSlogC
namespace Go.Proofs.Ytlbglcmajbhflaa
open Go.ChangeShapes Go.WideShapes Go.ChangeAt Go.RowKit
set_option linter.unusedVariables false
set_option maxRecDepth 20000

set_option maxHeartbeats 4000000 in
theorem refReplay_any (ao bo : Option Addr) (cap cap' : Nat) (xs : List (Int × Int)) (ms : List (Bool × Int × Int)) (w : World) (hx : Spans w ao xs) (hf : Fits xs) (hy : Moves w bo ms) (hg : FitM ms) :
    Calls Try.prog 13 #[.slice ao xs.length cap, .slice bo ms.length cap'] w (ReplRes (replayL xs ms) w) := by
  have hl := hf.2
  have hl' := hg.2
  have hR := Lib.hid (sRefRight_any ao cap xs w hx hf)
  have hx := Lib.hid hx
  have hf := Lib.hid hf
  have hy := Lib.hid hy
  have hg := Lib.hid hg
  have hz := zero47
  have hbs := bools_size
  cases hr : rightFrom 0 xs
  · have hno := Lib.hid (replayL_wrong hr ms)
    have hR0 := hR.out
    rw [hr] at hR0
    clear hR
    have hR := Lib.hid hR0
    clear hR0 hr
    go_enter Try.func13, Try.ntmps13
    go_wp2_with fail
    refine hR.out.mono ?_
    rintro e w1 ⟨rfl, hb1⟩
    have hb1 := Lib.hid hb1
    go_wp2
    go_ret2
    exact ReplRes.no hno.out rfl hb1.out
  · have hR0 := hR.out
    rw [hr] at hR0
    clear hR
    have hR := Lib.hid hR0
    clear hR0
    have hr := Lib.hid hr
    go_enter Try.func13, Try.ntmps13
    go_wp2_with fail
    refine hR.out.mono ?_
    rintro e w0 ⟨rfl, hb1⟩
    have hs0 := hb1.size
    have hb1 := Lib.hid hb1
    go_wp2_with fail
    refine (Bits_any ao cap xs w0 (hx.out.below hb1.out) hf.out (right_good hr.out)).mono ?_
    rintro e w1 ⟨rfl, hb2⟩
    have hst := store_bools_new (P := Try.prog) w1 48
    have hs1 := hb2.size
    have hm1 := Lib.hid (Marked.new w1 48 (maskS xs))
    have hb2 := Lib.hid ((hb1.out.trans (hb2.mono hs0)).alloc (by omega) (.cells (bools (maskS xs)) 48))
    go_wp2
    clear hst
    go_loopw [8, 9, 17] (fun u v i wr => ∃ (k : Nat) (g : Nat → Bool), k ≤ ms.length ∧ i = .int .i64 k ∧ Marked wr w1.heap.size 48 g ∧ Hid (replayF (maskS xs) ms = replayF g (ms.drop k)) ∧ Below w.heap.size w wr)
      (fun _ _ i _ => ms.length - (intOf i).toNat)
    case atStart => exact ⟨0, maskS xs, by omega, rfl, hm1.out, Lib.hid (by simp), hb2.out⟩
    case round =>
      obtain ⟨k, f, hk, rfl, hmf, hrep, hb⟩ := hrel
      have hblt := hmf.lt
      by_cases hlt : k < ms.length
      · obtain ⟨b, off, t, s, n, rfl, hd, c0, c1, c2, hbb, g1, g2, g3, g4⟩ := (hy.out.below hb).get hg.out hlt
        have hb5 := Lib.hid (hb.alloc hb.size (.cells #[.bool t, .int .i64 s, .int .i64 n] 55))
        have hmf2 := Lib.hid (hmf.alloc (.cells #[.bool t, .int .i64 s, .int .i64 n] 55))
        have hbx := Lib.hid (BoxM.new wr t s n)
        have hsz := hb.size
        have hmf := Lib.hid hmf
        have hb := Lib.hid hb
        have hM := fun W => mRefRight_any t s n W g1 g2 g3 g4
        cases hw : withinB s n
        · have hno := Lib.hid (show replayL xs ms = none by rw [replayL_right hr.out, hrep.out, hd.out, replayF_wrong hw]; rfl)
          rw [hw] at hM
          have hM := Lib.hid hM
          clear hw
          go_wp2_with fail
          refine (hM.out _).mono ?_
          rintro e w3 ⟨rfl, hb6⟩
          have hb6 := Lib.hid (hb5.out.trans (hb6.mono hb5.out.size))
          go_wp2
          go_ret2
          exact ReplRes.no hno.out rfl hb6.out
        · obtain ⟨q0, q1, q2⟩ := withinB_true hw
          rw [hw] at hM
          have hM := Lib.hid hM
          have hw := Lib.hid hw
          obtain ⟨s, rfl⟩ := Int.eq_ofNat_of_zero_le q0
          obtain ⟨n, rfl⟩ := Int.eq_ofNat_of_zero_le (show 0 ≤ n from by omega)
          have hsn : s + n ≤ 4096 := by omega
          obtain ⟨b, hbe⟩ : ∃ b : Nat, b = wr.heap.size := ⟨_, rfl⟩
          go_wp2_with fail
          refine (hM.out _).mono ?_
          rintro e w3 ⟨rfl, hb6⟩
          have hbx3 := hbx.out.below hb6
          have hmf3 := hmf2.out.below hb6 (by simp; omega)
          have hs6 := hb6.size
          rw [World.size_alloc] at hs6
          have hb6 := Lib.hid (hb5.out.trans (hb6.mono hb5.out.size))
          rw [← hbe] at hbx3 hs6 hblt ⊢
          obtain ⟨d0, d1, d2⟩ := hbx3
          have hmf3 := Lib.hid hmf3
          have hbx3 : Hid (BoxM w3 b t s n) := Lib.hid ⟨d0, d1, d2⟩
          clear hbx hmf hmf2 hb5 c0 c1 c2 hbe
          go_wp2
          go_loopw [9] (fun i wi => ∃ m : Nat, m ≤ n ∧ i = .int .i64 ((s + m : Nat) : Int) ∧ Marked wi w1.heap.size 48 (doN f t s m) ∧ Hid (∀ j : Nat, s ≤ j → j < s + m → f j = !t) ∧ Below w.heap.size w wi ∧ BoxM wi b t s n ∧ b < wi.heap.size)
            (fun i _ => s + n - (intOf i).toNat)
          case atStart => exact ⟨0, by omega, by simp, hmf3.out.congr (fun j _ => by rw [doN_zero]), Lib.hid (fun j h1 h2 => by omega), hb6.out, hbx3.out, by omega⟩
          case round =>
            obtain ⟨m, hm, rfl, hmk, hcan, hbi, hbox, hszi⟩ := hrel
            clear d0 d1 d2
            obtain ⟨d0, d1, d2⟩ := hbox
            by_cases hmm : m < n
            · have c1 := hmk.cell (i := s + m) (by omega)
              have f1 := hmk.frozen (s + m)
              rw [doN_at] at c1
              have hbi := Lib.hid hbi
              have hmk := Lib.hid hmk
              by_cases hne : f (s + m) = !t
              · have hcan' : Hid (∀ j : Nat, s ≤ j → j < s + (m + 1) → f j = !t) := Lib.hid fun j h1 h2 => by
                  by_cases e : j = s + m
                  · rw [e]; exact hne
                  · exact hcan.out j h1 (by omega)
                rw [hne] at c1
                have hne := Lib.hid hne
                cases t
                all_goals
                  simp only [Bool.not_false, Bool.not_true] at c1
                  go_wp2
                  go_quiet (fail)
                  go_wp2
                  go_roundw
                  case rel => exact ⟨m + 1, by omega, by go_num, (hmk.out.set (s + m) _).congr (fun j _ => (doN_step f _ s m j).symm), hcan', (below_drewN' hbi.out nq).setCell (by show w.heap.size ≤ w1.heap.size; omega) _, BoxM.set (w := wr.drewN nq) ⟨d0, d1, d2⟩ (by simp; omega) _, by simpa using hszi⟩
                  case measure => simp [intOf] <;> omega
              · have hnc : ¬ Can f t (s : Int) (n : Int) := fun h => hne (h (s + m) (by omega) (by omega))
                have hno := Lib.hid (show replayL xs ms = none by rw [replayL_right hr.out, hrep.out, hd.out, replayF_stop hnc]; rfl)
                have he : f (s + m) = t := by cases h : f (s + m) <;> cases t <;> simp_all
                rw [he] at c1
                have he := Lib.hid he
                clear hne hnc
                cases t
                all_goals
                  go_wp2
                  go_quiet (fail)
                  go_wp2
                  go_ret2
                  exact ReplRes.no hno.out rfl (below_drewN' hbi.out _)
            · obtain rfl : m = n := by omega
              have hyes : Can f t (s : Int) (m : Int) := fun j h1 h2 => hcan.out j (by omega) (by omega)
              have hyes := Lib.hid hyes
              have hmk := Lib.hid hmk
              have hbi := Lib.hid hbi
              go_wp2
              go_roundw
              case rel => exact ⟨k + 1, _, by omega, by go_num, (by rw [← doN_all]; exact hmk.out), Lib.hid (replay_step hrep.out hd.out hw.out hyes.out), hbi.out⟩
              case measure => simp [intOf] <;> omega
      · obtain rfl : k = ms.length := by omega
        have hyes := Lib.hid (replayL_runs (g := f) hr.out (by rw [hrep.out, List.drop_length, replayF_nil]))
        have hsz := hb.size
        have hb := Lib.hid hb
        go_wp2_with (first | (refine wpList_load_row rfl 48 _ rfl w1.heap.size rfl _ _ _ _ hmf Try.underlying48 rfl (by kernel_rfl) ?_) | (go_at_call 30; refine (refSet_any _ _).mono ?_; rintro e w3 ⟨v, rfl, ho3, hb3⟩))
        have ho3 := Lib.hid ho3
        have hb8 := Lib.hid (hb.out.trans (hb3.mono hsz))
        clear hb3
        go_ret2
        exact ReplRes.yes hyes.out rfl (ho3.out.le hsz) hb8.out
end Go.Proofs.Ytlbglcmajbhflaa
