/- (*slog.marks).do, (*slog.marks).set. -/
import Derived.Test.YtlbglcmajbhflaaSlogA
namespace Go.Proofs.Ytlbglcmajbhflaa
open Go.ChangeShapes Go.WideShapes Go.ChangeAt Go.RowKit
set_option linter.unusedVariables false
set_option maxRecDepth 20000

theorem zeroMarks8 (w : World) : Sem.run Try.prog (zeroValue 49) w = .ok (.agg (bools fun _ => false)) w := by
  rw [← bools_none]
  kernel_rfl

/-- behind so many of a move's numbers -/
def doN (f : Nat → Bool) (t : Bool) (s k : Nat) : Nat → Bool := fun j => if s ≤ j ∧ j < s + k then t else f j
theorem doN_zero (f : Nat → Bool) (t : Bool) (s : Nat) : doN f t s 0 = f := by
  funext j; unfold doN; rw [if_neg (by omega)]
theorem doN_at (f : Nat → Bool) (t : Bool) (s k : Nat) : doN f t s k (s + k) = f (s + k) := by unfold doN; rw [if_neg (by omega)]
theorem doN_step (f : Nat → Bool) (t : Bool) (s k j : Nat) : doN f t s (k + 1) j = if j = s + k then t else doN f t s k j := by
  unfold doN
  by_cases e : j = s + k
  · rw [if_pos (by omega), if_pos e]
  · by_cases h : s ≤ j ∧ j < s + k
    · rw [if_pos (by omega), if_neg e, if_pos h]
    · rw [if_neg (by omega), if_neg e, if_neg h]
theorem doN_all (f : Nat → Bool) (t : Bool) (s n : Nat) : doN f t s n = doF f t (s : Int) (n : Int) := by
  funext j
  unfold doN doF
  by_cases h : s ≤ j ∧ j < s + n
  · rw [if_pos h, if_pos (by omega)]
  · rw [if_neg h, if_neg (by omega)]

/-- a boxed move -/
structure BoxM (w : World) (b : Nat) (t : Bool) (s n : Int) : Prop where
  c0 : w.cell? ⟨b, 0, none⟩ = some (.bool t)
  c1 : w.cell? ⟨b, 1, none⟩ = some (.int .i64 s)
  c2 : w.cell? ⟨b, 2, none⟩ = some (.int .i64 n)
theorem BoxM.new (w : World) (t : Bool) (s n : Int) : BoxM (w.alloc (.cells #[.bool t, .int .i64 s, .int .i64 n] 55)) w.heap.size t s n := ⟨by simp, by simp, by simp⟩
theorem BoxM.set {w : World} {b : Nat} {t : Bool} {s n : Int} (h : BoxM w b t s n) {p : Addr} (hp : b ≠ p.block) (u : Value) : BoxM (w.setCell p u) b t s n :=
  ⟨(World.cell?_of_block (heap_setCell_other _ _ _ _ hp)).trans h.c0, (World.cell?_of_block (heap_setCell_other _ _ _ _ hp)).trans h.c1, (World.cell?_of_block (heap_setCell_other _ _ _ _ hp)).trans h.c2⟩
theorem BoxM.below {w w' : World} {b : Nat} {t : Bool} {s n : Int} (h : BoxM w b t s n) (hb : Below w.heap.size w w') : BoxM w' b t s n :=
  ⟨(hb.cell (cell_lt h.c0)).trans h.c0, (hb.cell (cell_lt h.c1)).trans h.c1, (hb.cell (cell_lt h.c2)).trans h.c2⟩

set_option maxHeartbeats 2000000 in
theorem do_any (B T : Nat) (f : Nat → Bool) (t : Bool) (s n : Nat) (w : World) (hm : Marked w B T f) (hn : s + n ≤ 4096) :
    Calls Try.prog 26 #[.pointer (some ⟨B, 0, none⟩), .agg #[.bool t, .int .i64 (s : Int), .int .i64 (n : Int)]] w fun e w' =>
      Below B w w' ∧ ((Can f t (s : Int) (n : Int) ∧ e = .returned (.bool true) ∧ Marked w' B T (doF f t (s : Int) (n : Int))) ∨ (¬ Can f t (s : Int) (n : Int) ∧ e = .returned (.bool false))) := by
  have hBw := hm.lt
  have hm := Lib.hid hm
  go_enter Try.func26, Try.ntmps26
  go_wp2
  go_loopw [5] (fun i wr => ∃ k : Nat, k ≤ n ∧ i = .int .i64 ((s + k : Nat) : Int) ∧ Marked wr B T (doN f t s k) ∧ Hid (∀ j : Nat, s ≤ j → j < s + k → f j = !t) ∧ Below B w wr ∧ BoxM wr w.heap.size t s n ∧ w.heap.size < wr.heap.size)
    (fun i _ => s + n - (intOf i).toNat)
  case atStart => exact ⟨0, by omega, by simp, (hm.out.alloc _).congr (fun j _ => by rw [doN_zero]), Lib.hid (fun j h1 h2 => by omega), (Below.refl _ _).alloc (by omega) _, BoxM.new _ _ _ _, by simp⟩
  case round =>
    obtain ⟨k, hk, rfl, hmk, hcan, hb, hbox, hsz⟩ := hrel
    obtain ⟨d0, d1, d2⟩ := hbox
    by_cases hlt : k < n
    · have c1 := hmk.cell (i := s + k) (by omega)
      have f1 := hmk.frozen (s + k)
      rw [doN_at] at c1
      have hb := Lib.hid hb
      have hmk := Lib.hid hmk
      by_cases hne : f (s + k) = !t
      · have hcan' : Hid (∀ j : Nat, s ≤ j → j < s + (k + 1) → f j = !t) := Lib.hid fun j h1 h2 => by
          by_cases e : j = s + k
          · rw [e]; exact hne
          · exact hcan.out j h1 (by omega)
        rw [hne] at c1
        have hne := Lib.hid hne
        cases t
        all_goals
          simp only [Bool.not_false, Bool.not_true] at c1
          go_wp2
          go_quiet (fail)
          go_wp2
          go_region
        all_goals go_wp2
        all_goals
          go_roundw
          case rel => exact ⟨k + 1, by omega, by go_num, (hmk.out.set (s + k) _).congr (fun j _ => (doN_step f _ s k j).symm), hcan', (below_drewN' hb.out (nq + 1)).setCell (Nat.le_refl _) _, BoxM.set (w := wr.drewN (nq + 1)) ⟨d0, d1, d2⟩ (by simp; omega) _, by simpa using hsz⟩
          case measure => simp [intOf] <;> omega
      · have hno : ¬ Can f t (s : Int) (n : Int) := fun h => hne (h (s + k) (by omega) (by omega))
        have hno := Lib.hid hno
        have he : f (s + k) = t := by cases h : f (s + k) <;> cases t <;> simp_all
        rw [he] at c1
        have he := Lib.hid he
        clear hne
        cases t
        all_goals
          go_wp2
          go_quiet (fail)
          go_wp2
          go_ret
          exact ⟨below_drewN' hb.out _, .inr ⟨hno.out, rfl⟩⟩
    · obtain rfl : k = n := by omega
      have hyes : Can f t (s : Int) (k : Int) := fun j h1 h2 => hcan.out j (by omega) (by omega)
      have hyes := Lib.hid hyes
      go_wp2
      go_ret
      exact ⟨hb, .inl ⟨hyes.out, rfl, by rw [← doN_all]; exact hmk⟩⟩

theorem maskOf_nums (f : Nat → Bool) (j : Nat) (hj : j < 4096) : maskOf (numsL f 4096) j = f j := by
  unfold maskOf numsL
  rw [Bool.eq_iff_iff]
  simp only [decide_eq_true_eq, List.mem_map, List.mem_filter, List.mem_range]
  constructor
  · rintro ⟨i, ⟨_, h⟩, e⟩
    obtain rfl : i = j := by simp only [Int.ofNat_eq_natCast] at e; omega
    exact h
  · intro h; exact ⟨j, ⟨hj, h⟩, rfl⟩

set_option maxHeartbeats 2000000 in
theorem mSet_any (B T : Nat) (f : Nat → Bool) (w : World) (hm : Marked w B T f) :
    Calls Try.prog 27 #[.pointer (some ⟨B, 0, none⟩)] w fun e w' => ∃ v, e = .returned v ∧ OwnS w' w.heap.size v (runs f 4096) ∧ Below w.heap.size w w' := by
  have hBw := hm.lt
  obtain ⟨i0, hi, hz0, hz1, hz2⟩ := info_parts sInfoInt
  have hm := Lib.hid hm
  go_enter Try.func27, Try.ntmps27
  go_wp2
  go_loopw [3, 7] (fun v i wr => ∃ k : Nat, k ≤ 4096 ∧ i = .int .i64 k ∧ OwnI wr w.heap.size v (numsL f k) ∧ Below w.heap.size w wr)
    (fun _ i _ => 4096 - (intOf i).toNat)
  case atStart => exact ⟨0, by omega, rfl, World.ownsRow_nil _ _ _ _, Below.refl _ _⟩
  case round =>
    obtain ⟨k, hk, rfl, hown, hb⟩ := hrel
    have hnl := numsL_length f k
    by_cases hlt : k < 4096
    · have c1 := (hm.out.below hb hBw).cell hlt
      have hsz := hb.size
      have hb := Lib.hid hb
      have hown := Lib.hid hown
      cases hf : f k
      · rw [hf] at c1
        go_wp2
        go_quiet (fail)
        go_wp2
        go_roundw
        case rel => exact ⟨k + 1, by omega, by go_num, by rw [numsL_succ, hf]; exact hown.out, below_drewN' hb.out _⟩
        case measure => simp [intOf] <;> omega
      · rw [hf] at c1
        go_wp2
        go_quiet (fail)
        go_wp2_with (at_builtin; go_loud (refine wpList_push rfl _ _ 50 rfl w.heap.size 3 i0 _ 1 8 Try.underlying50 hi hz0 hz1 hz2 rfl (by decide) u3 _ _ (wr.drewN nq) rfl hown.out.row 1 #[.int .i64 k] rfl rfl rfl (by omega) (by omega) hsz ?_); intro v' w' ho hg hv; obtain ⟨g, cap, rfl⟩ := hv; have hg := Lib.hid hg; have ho := Lib.hid ho)
        go_roundw
        case rel => exact ⟨k + 1, by omega, by go_num, by rw [numsL_succ, hf]; exact OwnI.pushed ho.out, Below.pushed (below_drewN' hb.out _) hown.out.row hg.out (by omega) hsz⟩
        case measure => simp [intOf] <;> omega
    · obtain rfl : k = 4096 := by omega
      have hfit := numsL_map f 4096 (Nat.le_refl _)
      obtain ⟨ao, cap, rfl, hns, hA⟩ := hown.shape
      have hns := Lib.hid hns
      have hsz := hb.size
      have hb := Lib.hid hb
      clear hown
      go_wp2_with fail
      refine (sOf_any ao cap (numsL f 4096) wr hns.out hfit).mono ?_
      rintro e w1 ⟨v, rfl, ho1, hb1⟩
      rw [runs_eq (fun j hj => maskOf_nums f j hj)] at ho1
      have ho1 := Lib.hid ho1
      have hb1 := Lib.hid hb1
      go_wp2
      go_ret
      exact ⟨_, rfl, ho1.out.le hsz, hb.out.trans (hb1.out.mono hsz)⟩
end Go.Proofs.Ytlbglcmajbhflaa
