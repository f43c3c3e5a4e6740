/- The document's own Diff answers the moves from one set to another, for every input; slog.Condense. -/
import Derived.Test.YtlbglcmajbhflaaSlogE
namespace Go.Proofs.Ytlbglcmajbhflaa
open Go.ChangeShapes Go.WideShapes Go.ChangeAt Go.RowKit
set_option linter.unusedVariables false
set_option maxRecDepth 20000

theorem Condense_any (ao : Option Addr) (cap : Nat) (xs : List (Int × Int)) (w : World) (hx : Spans w ao xs) (hf : Fits xs) :
    Calls Try.prog 12 #[.slice ao xs.length cap] w (MovesRes (diffL [] xs) w) := by
  have hD := Lib.hid (Diff_any none ao 0 cap [] xs w (fun i hi => by simp at hi) ⟨fun p hp => (by cases hp), by simp⟩ hx hf)
  go_enter Try.func12, Try.ntmps12
  go_wp2_with fail
  refine hD.out.mono ?_
  rintro e w1 ⟨v, rfl, ho, hb⟩
  have ho := Lib.hid ho
  have hb := Lib.hid hb
  go_wp2
  go_ret
  exact ⟨_, rfl, ho.out, hb.out⟩

theorem Mix_s (ao bo : Option Addr) (cap cap' : Nat) (xs ys : List (Int × Int)) (w : World) (hx : Spans w ao xs) (hr : rightFrom 0 xs = true) (hy : Spans w bo ys) (hr' : rightFrom 0 ys = true) :
    Calls Try.prog 32 #[.slice ao xs.length cap, .slice bo ys.length cap', .int .i64 1] w fun e w' => ∃ v, e = .returned v ∧ OwnS w' w.heap.size v (cutS xs ys) ∧ Below w.heap.size w w' :=
  (Mix_any ao bo cap cap' xs ys 1 w hx (right_fits hr) (right_good hr) hy (right_fits hr') (right_good hr') (by omega) (by omega)).mono fun e w' ⟨v, he, ho, hb⟩ => by
    refine ⟨v, he, ?_, hb⟩
    have : runs (fun j => mixB 1 (maskS xs j) (maskS ys j)) 4096 = cutS xs ys := rfl
    rw [← this]; exact ho

set_option maxHeartbeats 4000000 in
theorem refDiff_any (ao bo : Option Addr) (cap cap' : Nat) (xs ys : List (Int × Int)) (w : World) (hx : Spans w ao xs) (hf : Fits xs) (hy : Spans w bo ys) (hg : Fits ys) :
    Calls Try.prog 17 #[.slice ao xs.length cap, .slice bo ys.length cap'] w (MovesRes (diffL xs ys) w) := by
  obtain ⟨i0, hi, hz0, hz1, hz2⟩ := info_parts infoMove
  have hR := fun W (h : Below w.heap.size w W) => sRefRight_any ao cap xs W (hx.below h) hf
  have hR' := fun W (h : Below w.heap.size w W) => sRefRight_any bo cap' ys W (hy.below h) hg
  have hx := Lib.hid hx
  have hf := Lib.hid hf
  have hy := Lib.hid hy
  have hg := Lib.hid hg
  have hO := Lib.hid (OwnM.made w #[] 0 (base := w.heap.size) (Nat.le_refl _) (by decide) rfl)
  have hB := Lib.hid ((Below.refl w.heap.size w).alloc (Nat.le_refl _) (.cells #[] 55))
  cases hr : rightFrom 0 xs
  · have hno := Lib.hid (diffL_no (ys := ys) (.inl hr))
    rw [hr] at hR
    have hR := Lib.hid hR
    clear hR' hr
    go_enter Try.func17, Try.ntmps17
    go_wp2_with fail
    refine (hR.out _ hB.out).mono ?_
    rintro e w1 ⟨rfl, hb1⟩
    have hO1 := Lib.hid (hO.out.below hb1)
    have hb1 := Lib.hid (hB.out.trans (hb1.mono hB.out.size))
    go_wp2
    go_ret
    rw [hno.out]
    exact ⟨_, rfl, hO1.out, hb1.out⟩
  · rw [hr] at hR
    have hR := Lib.hid hR
    have hr := Lib.hid hr
    cases hr' : rightFrom 0 ys
    · have hno := Lib.hid (diffL_no (xs := xs) (.inr hr'))
      rw [hr'] at hR'
      have hR' := Lib.hid hR'
      clear hr'
      go_enter Try.func17, Try.ntmps17
      go_wp2_with fail
      refine (hR.out _ hB.out).mono ?_
      rintro e w1 ⟨rfl, hb1⟩
      have hO1 := Lib.hid (hO.out.below hb1)
      have hb1 := Lib.hid (hB.out.trans (hb1.mono hB.out.size))
      go_wp2_with fail
      refine (hR'.out _ hb1.out).mono ?_
      rintro e w2 ⟨rfl, hb2⟩
      have hO2 := Lib.hid (hO1.out.below hb2)
      have hb2 := Lib.hid (hb1.out.trans (hb2.mono hb1.out.size))
      go_wp2
      go_ret
      rw [hno.out]
      exact ⟨_, rfl, hO2.out, hb2.out⟩
    · rw [hr'] at hR'
      have hR' := Lib.hid hR'
      have hr' := Lib.hid hr'
      have hD := Lib.hid (diffL_yes hr.out hr'.out)
      go_enter Try.func17, Try.ntmps17
      go_wp2_with fail
      refine (hR.out _ hB.out).mono ?_
      rintro e w1 ⟨rfl, hb1⟩
      have hO1 := Lib.hid (hO.out.below hb1)
      have hb1 := Lib.hid (hB.out.trans (hb1.mono hB.out.size))
      go_wp2_with fail
      refine (hR'.out _ hb1.out).mono ?_
      rintro e w2 ⟨rfl, hb2⟩
      have hO2 := Lib.hid (hO1.out.below hb2)
      have hb2 := Lib.hid (hb1.out.trans (hb2.mono hb1.out.size))
      go_wp2_with fail
      refine (Mix_s ao bo cap cap' xs ys w2 (hx.out.below hb2.out) hr.out (hy.out.below hb2.out) hr'.out).mono ?_
      rintro e w3 ⟨v1, rfl, hs1, hb3⟩
      obtain ⟨so, sc, rfl, _⟩ := hs1.spans
      have hO3 := Lib.hid (hO2.out.below hb3)
      have hb3 := Lib.hid (hb2.out.trans (hb3.mono hb2.out.size))
      have hs1 := Lib.hid (hs1.le hb2.out.size)
      have hc1 := cutS_length xs ys
      have hc2 := cutS_length ys xs
      have hcf1 := Lib.hid (right_fits (cutS_right xs ys))
      have hcf2 := Lib.hid (right_fits (cutS_right ys xs))
      have hM2 := Lib.hid (fun W (h : Below w.heap.size w W) => Mix_s bo ao cap' cap ys xs W (hy.out.below h) hr'.out (hx.out.below h) hr.out)
      generalize cutS xs ys = ps at *
      generalize cutS ys xs = qs at *
      go_wp2
      go_loopw [5, 7, 24] (fun v u i wr => ∃ k : Nat, k ≤ ps.length ∧ i = .int .i64 k ∧ OwnM wr w.heap.size v (movesOf false (ps.take k)) ∧ OwnS wr w.heap.size (.slice so ps.length sc) ps ∧ Below w.heap.size w wr)
        (fun _ _ i _ => ps.length - (intOf i).toNat)
      case atStart => exact ⟨0, by omega, rfl, hO3.out, hs1.out, hb3.out⟩
      case round =>
        obtain ⟨k, hk, rfl, hown, hsp, hb⟩ := hrel
        have hsz := hb.size
        obtain ⟨so', sc', e1, hspp⟩ := hsp.spans
        cases e1
        by_cases hlt : k < ps.length
        · obtain ⟨b, off, s, n, rfl, hd, c1, c2, hbb, _, _, _, _⟩ := hspp.get hcf1.out hlt
          have hol : (movesOf false (ps.take k)).length = k := by rw [movesOf_length, List.length_take]; omega
          have hne := Lib.hid (row_ne hsp hown (by decide))
          have hown := Lib.hid hown
          have hsp := Lib.hid hsp
          have hb := Lib.hid hb
          clear hspp
          go_wp2_with (at_builtin; go_loud (refine wpList_pushN rfl _ _ 27 rfl w.heap.size 55 i0 _ 3 24 Try.underlying27 hi hz0 hz1 hz2 rfl (by decide) u5 _ _ (wr.alloc (.cells #[.int .i64 s, .int .i64 n] 53)) rfl (World.ownsRow.alloc hown.out _) 1 #[.bool false, .int .i64 s, .int .i64 n] (by rw [World.size_alloc]; rfl) rfl (by intro u hu; simp at hu; rcases hu with rfl | rfl | rfl <;> rfl) (by rw [hol]; omega) (by rw [hol]; omega) (by simp; omega) ?_); intro v' w' ho hg hv; obtain ⟨g, cap, rfl⟩ := hv; have hg := Lib.hid hg; have ho := Lib.hid ho)
          go_roundw
          case rel => exact ⟨k + 1, by omega, by go_num, (by have h1 := OwnM.pushed ho.out; rw [hol] at h1; rw [movesOf_snoc false ps k hd.out]; exact h1), (World.ownsRow.alloc hsp.out _).kept hg.out.1 hne.out, ((hb.out.alloc hsz _)).trans (hg.out.out (by simp; omega) (fun g hg => (World.ownsRow.lt hown.out g hg).1))⟩
          case measure => simp [intOf] <;> omega
        · obtain rfl : k = ps.length := by omega
          rw [List.take_length] at hown
          have hol : (movesOf false ps).length = ps.length := movesOf_length _ _
          generalize movesOf false ps = ls at *
          have hown := Lib.hid hown
          have hb := Lib.hid hb
          clear hspp
          go_wp2_with fail
          refine (hM2.out _ hb.out).mono ?_
          rintro e w5 ⟨v2, rfl, hs2, hb5⟩
          obtain ⟨to, tc, rfl, _⟩ := hs2.spans
          have hO5 := Lib.hid (hown.out.below hb5)
          have hb5 := Lib.hid (hb.out.trans (hb5.mono hsz))
          have hs2 := Lib.hid (hs2.le hsz)
          go_wp2
          go_loopw [5, 9, 38] (fun v u i wr => ∃ k : Nat, k ≤ qs.length ∧ i = .int .i64 k ∧ OwnM wr w.heap.size v (ls ++ movesOf true (qs.take k)) ∧ OwnS wr w.heap.size (.slice to qs.length tc) qs ∧ Below w.heap.size w wr)
            (fun _ _ i _ => qs.length - (intOf i).toNat)
          case atStart => exact ⟨0, by omega, rfl, (by simpa [movesOf] using hO5.out), hs2.out, hb5.out⟩
          case round =>
            obtain ⟨k, hk, rfl, hown2, hsp2, hb2⟩ := hrel
            have hsz2 := hb2.size
            obtain ⟨to', tc', e2, hspp2⟩ := hsp2.spans
            cases e2
            by_cases hlt2 : k < qs.length
            · obtain ⟨b, off, s, n, rfl, hd, c1, c2, hbb, _, _, _, _⟩ := hspp2.get hcf2.out hlt2
              have hol2 : (ls ++ movesOf true (qs.take k)).length = ls.length + k := by rw [List.length_append, movesOf_length, List.length_take]; omega
              have hne2 := Lib.hid (row_ne hsp2 hown2 (by decide))
              have hown2 := Lib.hid hown2
              have hsp2 := Lib.hid hsp2
              have hb2 := Lib.hid hb2
              clear hspp2
              go_wp2_with (at_builtin; go_loud (refine wpList_pushN rfl _ _ 27 rfl w.heap.size 55 i0 _ 3 24 Try.underlying27 hi hz0 hz1 hz2 rfl (by decide) u5 _ _ (wr.alloc (.cells #[.int .i64 s, .int .i64 n] 53)) rfl (World.ownsRow.alloc hown2.out _) 1 #[.bool true, .int .i64 s, .int .i64 n] (by rw [World.size_alloc]; rfl) rfl (by intro u hu; simp at hu; rcases hu with rfl | rfl | rfl <;> rfl) (by rw [hol2]; omega) (by rw [hol2]; omega) (by simp; omega) ?_); intro v' w' ho hg hv; obtain ⟨g, cap, rfl⟩ := hv; have hg := Lib.hid hg; have ho := Lib.hid ho)
              go_roundw
              case rel => exact ⟨k + 1, by omega, by go_num, (by have h1 := OwnM.pushed ho.out; rw [hol2, hol] at h1; rw [movesOf_snoc true qs k hd.out, ← List.append_assoc]; exact h1), (World.ownsRow.alloc hsp2.out _).kept hg.out.1 hne2.out, ((hb2.out.alloc hsz2 _)).trans (hg.out.out (by simp; omega) (fun g hg => (World.ownsRow.lt hown2.out g hg).1))⟩
              case measure => simp [intOf] <;> omega
            · obtain rfl : k = qs.length := by omega
              rw [List.take_length, ← hD.out] at hown2
              have hown2 := Lib.hid hown2
              have hb2 := Lib.hid hb2
              clear hspp2
              go_wp2
              go_ret
              exact ⟨_, rfl, hown2.out, hb2.out⟩
end Go.Proofs.Ytlbglcmajbhflaa
