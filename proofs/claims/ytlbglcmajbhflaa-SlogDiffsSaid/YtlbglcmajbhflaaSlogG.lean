/- The document's own Same of moves; how a list of moves reads that came in; the chapter's example. -/
import Derived.Test.YtlbglcmajbhflaaSlogF
import Derived.Test.YtlbglcmajbhflaaArgs
namespace Go.Proofs.Ytlbglcmajbhflaa
open Go.ChangeShapes Go.WideShapes Go.ChangeAt Go.RowKit Go.Deep
set_option linter.unusedVariables false
set_option maxRecDepth 20000

set_option maxHeartbeats 2000000 in
theorem SameM_any (ao bo : Option Addr) (cap cap' : Nat) (xs ys : List (Bool × Int × Int)) (w : World) (hx : Moves w ao xs) (hy : Moves w bo ys) (hf : FitM xs) (hg : FitM ys) :
    Calls Try.prog 15 #[.slice ao xs.length cap, .slice bo ys.length cap'] w fun e w' => e = .returned (.bool (decide (xs = ys))) ∧ Below w.heap.size w w' := by
  have hl := hf.2
  have hl' := hg.2
  have hf := Lib.hid hf
  have hg := Lib.hid hg
  have hx := Lib.hid hx
  have hy := Lib.hid hy
  by_cases hlen : xs.length = ys.length
  · have hne : ((xs.length : Int) != (ys.length : Int)) = false := by simp [hlen]
    have hlen' := Lib.hid hlen
    clear hlen
    have hlen := hlen'
    clear hlen'
    go_enter Try.func15, Try.ntmps15
    go_wp2
    go_loopw [13] (fun i wr => ∃ k : Nat, k ≤ xs.length ∧ i = .int .i64 k ∧ Hid (xs.take k = ys.take k) ∧ Below w.heap.size w wr)
      (fun i _ => xs.length - (intOf i).toNat)
    case atStart => exact ⟨0, by omega, rfl, Lib.hid (by simp), Below.refl _ _⟩
    case round =>
      obtain ⟨k, hk, rfl, he, hb⟩ := hrel
      by_cases hlt : k < xs.length
      · have hlt' : k < ys.length := by have := hlen.out; omega
        obtain ⟨b, off, t, s, n, rfl, hd, c0, c1, c2, hbb, hs1, hs2, hn1, hn2⟩ := (hx.out.below hb).get hf.out hlt
        obtain ⟨b', off', t', s', n', rfl, hd', c0', c1', c2', hbb', hs1', hs2', hn1', hn2'⟩ := (hy.out.below hb).get hg.out hlt'
        have hb := Lib.hid hb
        have key : ∀ nq, (¬ (t, s, n) = (t', s', n')) → Below w.heap.size w (wr.drewN nq) ∧ xs ≠ ys := fun nq hn => ⟨below_drewN' hb.out nq, ne_of_drop hd.out hd'.out hn⟩
        have key := Lib.hid key
        by_cases e0 : t = t'
        · subst e0
          by_cases e1 : s = s'
          · subst e1
            by_cases e2 : n = n'
            · subst e2
              cases t
              all_goals
                go_wp2
                go_quiet (fail)
                go_wp2
                go_roundw
                case rel => exact ⟨k + 1, by omega, by go_num, Lib.hid (by rw [take_of_drop hd.out, take_of_drop hd'.out, he.out]), below_drewN' hb.out _⟩
                case measure => simp [intOf] <;> omega
            · have e3 : (n == n') = false := by simp [e2]
              have e2 := Lib.hid e2
              cases t
              all_goals
                go_wp2
                go_quiet (fail)
                go_wp2
                go_ret
                exact ⟨ret_bool (by simp; exact (key.out nq (by simp [e2.out])).2), (key.out nq (by simp [e2.out])).1⟩
          · have e3 : (s == s') = false := by simp [e1]
            have e1 := Lib.hid e1
            cases t
            all_goals
              go_wp2
              go_quiet (fail)
              go_wp2
              go_ret
              exact ⟨ret_bool (by simp; exact (key.out nq (by simp [e1.out])).2), (key.out nq (by simp [e1.out])).1⟩
        · have e0' := Lib.hid e0
          cases t <;> cases t'
          · exact absurd rfl e0
          · clear e0
            go_wp2
            go_quiet (fail)
            go_wp2
            go_ret
            exact ⟨ret_bool (by simp; exact (key.out nq (by simp)).2), (key.out nq (by simp)).1⟩
          · clear e0
            go_wp2
            go_quiet (fail)
            go_wp2
            go_ret
            exact ⟨ret_bool (by simp; exact (key.out nq (by simp)).2), (key.out nq (by simp)).1⟩
          · exact absurd rfl e0
      · go_wp2
        go_ret
        refine ⟨ret_bool ?_, hb⟩
        have h1 := he.out
        have h2 := hlen.out
        rw [List.take_of_length_le (by omega), List.take_of_length_le (by omega)] at h1
        simp [h1]
  · have hne : ((xs.length : Int) != (ys.length : Int)) = true := by simp; omega
    have hlen := Lib.hid hlen
    go_enter Try.func15, Try.ntmps15
    go_wp2
    go_ret
    exact ⟨ret_bool (by simp; intro e; exact hlen.out (by rw [e])), Below.refl _ _⟩
end Go.Proofs.Ytlbglcmajbhflaa
