/- A device: Flush, Crash. -/
import Derived.Test.YtfpacnokecfhmaaVdevH
namespace Go.Proofs.Ytfpacnokecfhmaa
open Go.ChangeShapes Go.WideShapes Go.ChangeAt Go.RowKit
set_option linter.unusedVariables false

theorem all_true (j : Nat) (w : World) : Calls Try.prog 37 #[.int .i64 (j : Int)] w fun e w' => e = .returned (.bool true) ∧ w = w' := by
  go_enter Try.func37, Try.ntmps37
  go_wp2
  go_ret
  exact ⟨rfl, rfl⟩

/-- a slice of bools reads so -/
def boolsV (bs : List Bool) : List Value := bs.map Value.bool
theorem boolsV_length (bs : List Bool) : (boolsV bs).length = bs.length := by simp [boolsV]
theorem boolsV_one (bs : List Bool) : ∀ u ∈ boolsV bs, u.oneCell' = true := by
  intro u hu
  simp only [boolsV, List.mem_map] at hu
  obtain ⟨b, _, rfl⟩ := hu
  rfl
theorem Reads.bool {w : World} {ao : Option Addr} {bs : List Bool} (h : Reads w ao (boolsV bs)) {k : Nat} (hk : k < bs.length) : ∃ b off, ao = some ⟨b, off, none⟩ ∧ w.cell? ⟨b, off + k, none⟩ = some (.bool bs[k]) ∧ b < w.heap.size := by
  obtain ⟨b, off, e, c, hb⟩ := Reads.at h (k := k) (by rw [boolsV_length]; exact hk)
  exact ⟨b, off, e, by rw [c]; simp [boolsV], hb⟩
theorem Reads.keptF {F : Nat → Prop} {w w' : World} {ao : Option Addr} {cs : List Value} (h : Reads w ao cs) (k : Kept F w w') (hn : ∀ a, ao = some a → ¬ F a.block) : Reads w' ao cs :=
  h.keep fun p hp ⟨a, e, he⟩ => k.cell hp (by rw [he]; exact hn a e)

theorem keeps_any (j : Nat) (bx : Nat) (ao : Option Addr) (cap : Nat) (bs : List Bool) (hj : j ≤ 1000000000) (hbl : bs.length ≤ 9223372036854775807) (w : World) (hb : w.cell? ⟨bx, 0, none⟩ = some (.slice ao bs.length cap)) (hr : Reads w ao (boolsV bs)) :
    Calls Try.prog 39 #[.int .i64 (j : Int), .pointer (some ⟨bx, 0, none⟩)] w fun e w' => e = .returned (.bool (bs.getD j false)) ∧ w = w' := by
  by_cases hlt : j < bs.length
  · obtain ⟨b, off, rfl, hc, hbb⟩ := hr.bool hlt
    have h0 : (0 : Int) ≤ (j : Int) := by omega
    have h1 : (j : Int) < (bs.length : Int) := by omega
    have hg : bs.getD j false = bs[j] := by simp [hlt]
    have hg := Lib.hid hg
    have hr := Lib.hid hr
    go_enter Try.func39, Try.ntmps39
    go_wp2
    go_ret
    exact ⟨by rw [hg.out]; rfl, rfl⟩
  · have hg : bs.getD j false = false := by simp [hlt]
    have hg := Lib.hid hg
    have hr := Lib.hid hr
    go_enter Try.func39, Try.ntmps39
    go_wp2
    go_ret
    exact ⟨by rw [hg.out]; rfl, rfl⟩

theorem Flush_any (L : DevL) (m : DevM) (w : World) (h : DevAt w L m) (hp : m.pending.length ≤ 1000000000) :
    Calls Try.prog 17 #[.pointer (some ⟨L.d, 0, none⟩)] w fun e w' => e = .returned (.int .i64 m.flush.2) ∧ DevStep w L m.flush.1 w' := by
  have h := Lib.hid h
  have hp2 : Hid (m.tick.spend.pending.length ≤ 1000000000) := Lib.hid (by rw [DevM.spend_pending]; exact hp)
  have hl : m.tick.lasts = m.lasts := rfl
  cases hla : m.lasts
  · rw [hla] at hl
    go_enter Try.func17, Try.ntmps17
    go_wp2_with (first
      | ((with_reducible refine (count_any L m _ h.out).mono ?_)
         rintro e w1 ⟨rfl, h1, k1, z1⟩
         have h1 := Lib.hid h1
         have k1 := Lib.hid k1)
      | ((with_reducible refine (lasts_any L m.tick _ h1.out).mono ?_)
         rintro e w2 ⟨rfl, h2, k2, z2⟩
         rw [hl]
         have h2 := Lib.hid h2
         have k2 := Lib.hid k2))
    go_ret
    have e1 : m.flush = (m.tick.spend, 42) := by simp [DevM.flush, hla]
    rw [e1]
    exact ⟨rfl, DevStep.of h2.out (k1.out.trans k2.out) (fun i e => .inl e)⟩
  · rw [hla] at hl
    go_enter Try.func17, Try.ntmps17
    go_wp2_with (first
      | ((with_reducible refine (count_any L m _ h.out).mono ?_)
         rintro e w1 ⟨rfl, h1, k1, z1⟩
         have h1 := Lib.hid h1
         have k1 := Lib.hid k1)
      | ((with_reducible refine (lasts_any L m.tick _ h1.out).mono ?_)
         rintro e w2 ⟨rfl, h2, k2, z2⟩
         rw [hl]
         have h2 := Lib.hid h2
         have k2 := Lib.hid k2)
      | ((with_reducible refine (settle_all L m.tick.spend (fun _ => true) _ h2.out hp2.out (Lib.hid (fun j w' _ _ => all_true j w'))).mono ?_)
         rintro e w3 ⟨rfl, h3⟩
         have h3 := Lib.hid h3))
    go_ret
    have e1 : m.flush = ((m.tick.spend).settle (fun _ => true), 0) := by simp [DevM.flush, hla]
    rw [e1]
    obtain ⟨pv', q1, q2, q3⟩ := h3.out
    refine ⟨rfl, pv', q1, ((k1.out.trans k2.out).mono fun i _ e => .inl e).trans q2, ?_⟩
    rcases q3 with q3 | q3 | ⟨g, q3, q4⟩
    · exact .inl q3
    · exact .inr (.inl q3)
    · exact .inr (.inr ⟨g, q3, by omega⟩)

theorem Crash_any (L : DevL) (m : DevM) (ao : Option Addr) (cap : Nat) (bs : List Bool) (w : World) (h : DevAt w L m) (hp : m.pending.length ≤ 1000000000) (hbl : bs.length ≤ 9223372036854775807) (hr : Reads w ao (boolsV bs)) (hn : bs ≠ [] → ∀ a, ao = some a → ¬ L.foot a.block) :
    Calls Try.prog 21 #[.pointer (some ⟨L.d, 0, none⟩), .slice ao bs.length cap] w fun e w' => e = .returned (.tuple #[]) ∧ DevStep w L (m.crash bs) w' := by
  have hbx : ¬ L.foot w.heap.size := fun e => by have := h.lt _ e; omega
  have hk := Lib.hid (fun (j : Nat) (w' : World) (hj : j < m.pending.length) (k : Kept L.foot (w.alloc (.cells #[.slice ao bs.length cap] 34)) w') =>
    keeps_any j w.heap.size ao cap bs (by omega) hbl w' (by
      rw [k.cell (p := ⟨w.heap.size, 0, none⟩) (by simp) hbx]
      exact (Blk.newA w 34 #[.slice ao bs.length cap]).cell 0) (by
      by_cases hb : bs = []
      · subst hb; exact Reads.nil _ _
      · exact Reads.keptF (hr.alloc _) k (hn hb)))
  have h := Lib.hid h
  have hr := Lib.hid hr
  have hn := Lib.hid hn
  have hlt := h.out.base.lt
  go_enter Try.func21, Try.ntmps21
  go_wp2_with (first
    | ((with_reducible refine (settle_keep L m (fun j => bs.getD j false) _ w.heap.size (h.out.alloc _) hp hk).mono ?_)
       rintro e w3 ⟨rfl, pv', h3, k3, o3⟩
       have c4 := h3.c4
       have c5 := h3.c5
       have f4 := h3.fz 4
       have f5 := h3.fz 5
       have h3 := Lib.hid h3
       have k3 := Lib.hid k3
       have o3 := Lib.hid o3))
  go_end0
  refine ⟨rfl, pv', ?_, ((Kept.of_alloc L.foot w _).trans k3.out).then (((Kept.cellAt w3 L.d 4 (.int .i64 (-1)))).trans (Kept.cellAt _ L.d 5 (.bool false))) fun i _ e => .inl e, ?_⟩
  · exact (h3.out.setLeft _ _ w3 (-1) (by omega)).setDead _ _ _ false
  · rcases o3.out with q3 | q3 | ⟨g, q3, q4⟩
    · exact .inl q3
    · exact .inr (.inl q3)
    · exact .inr (.inr ⟨g, q3, by simp at q4; omega⟩)
end Go.Proofs.Ytfpacnokecfhmaa
