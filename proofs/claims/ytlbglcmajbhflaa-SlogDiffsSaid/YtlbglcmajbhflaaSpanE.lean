/- (*span.marks).spans answers the spans of what is marked, for every array of marks. -/
import Derived.Test.YtlbglcmajbhflaaSpanD
namespace Go.Proofs.Ytlbglcmajbhflaa
open Go.ChangeShapes Go.WideShapes Go.ChangeAt Go.RowKit
set_option linter.unusedVariables false
set_option maxRecDepth 20000

theorem infoSpan : (Try.prog.info? 53).map (fun i => (i.zero, i.size, i.bytes)) = some (some (.agg #[.int .i64 0, .int .i64 0]), 2, 16) := by kernel_rfl

/-- what the loop of 'spans' does to a row of its own: nothing, one more, one longer -/
def MoreS (w : World) (base : Nat) (v : Value) (f : Nat → Bool) (k : Nat) : Prop := OwnS w base v (runs f k)

theorem MoreS.skip {w : World} {base : Nat} {v : Value} {f : Nat → Bool} {k : Nat} (h : MoreS w base v f k) (hf : f k = false) : MoreS w base v f (k + 1) := by
  unfold MoreS at *; simpa [runs, hf] using h

theorem MoreS.add {w : World} {base : Nat} {v : Value} {f : Nat → Bool} {k : Nat} (hf : f k = true) (hp : ¬ (k ≠ 0 ∧ f (k - 1) = true))
    (h : w.ownsRow base 53 2 v ((runs f k).length + 1) (flat (runs f k) ++ [.int .i64 k, .int .i64 1])) : MoreS w base v f (k + 1) := by
  unfold MoreS OwnS
  simp only [runs, hf, if_true, if_neg hp]
  rw [flat_append]
  simpa [flat] using h

theorem MoreS.last {w : World} {base : Nat} {v : Value} {f : Nat → Bool} {k : Nat} (h : MoreS w base v f k) (hk : 0 < k) (hp : f (k - 1) = true) :
    ∃ g cap m n, v = .slice (some ⟨g, 0, none⟩) (m + 1) cap ∧ Hid ((runs f k).length = m + 1) ∧ base ≤ g ∧ g < w.heap.size ∧ w.cell? ⟨g, m * 2 + 1, none⟩ = some (.int .i64 n) ∧ w.frozen? ⟨g, m * 2 + 1, none⟩ = false ∧ m ≤ k ∧ 1 ≤ n ∧ n ≤ k ∧
      ∀ k', k' = k → f k = true → MoreS (w.setCell ⟨g, m * 2 + 1, none⟩ (.int .i64 (n + 1))) base v f (k' + 1) := by
  obtain ⟨h1, h2, h3, h4⟩ := runs_last f k hk hp
  obtain ⟨ys, s, n, e, el⟩ := last_split h1
  have hlen := runs_length f k
  rw [el] at h2 h3 h4
  have hle : (runs f k).length = ys.length + 1 := by rw [e]; simp
  have h' : w.ownsRow base 53 2 v (runs f k).length (flat (runs f k)) := h
  rw [hle] at h'
  obtain ⟨g, cap, rfl⟩ := ownsRow_succ h'
  have hlt := World.ownsRow.lt h' g rfl
  refine ⟨g, cap, ys.length, n, rfl, hle, hlt.1, hlt.2, ?_, h'.frozenAt _, by omega, h4, by simp at h2 h3 h4; omega, ?_⟩
  · rw [h'.cellAt _ (by omega), flat_get2 _ _ (by omega)]
    simp [e]
  · rintro k' rfl hf
    have hs := (h'.stored (ys.length * 2 + 1) (.int .i64 (n + 1))).1
    unfold MoreS OwnS
    simp only [runs, hf, if_true]
    rw [if_pos ⟨by omega, hp⟩, bump_length h1, bump_get ⟨ys, e⟩, hle]
    exact hs

theorem MoreS.drewN {w : World} {base : Nat} {v : Value} {f : Nat → Bool} {k : Nat} (h : MoreS w base v f k) (n : Nat) : MoreS (w.drewN n) base v f k := h

theorem MoreS.row {w : World} {base : Nat} {v : Value} {f : Nat → Bool} {k : Nat} (h : MoreS w base v f k) (n : Nat) : (w.drewN n).ownsRow base 53 2 v (runs f k).length (flat (runs f k)) := h

set_option maxHeartbeats 1000000 in
set_option maxRecDepth 20000 in
theorem spans_any (B T : Nat) (f : Nat → Bool) (w : World) (hm : Marked w B T f) :
    Calls Try.prog 43 #[.pointer (some ⟨B, 0, none⟩)] w fun e w' => ∃ v, e = .returned v ∧ OwnS w' w.heap.size v (runs f 4096) ∧ Below w.heap.size w w' := by
  have hBw := hm.lt
  obtain ⟨i0, hi, hz0, hz1, hz2⟩ := info_parts infoSpan
  have hm := Lib.hid hm
  go_enter Try.func43, Try.ntmps43
  go_wp2
  go_loopw [3, 7] (fun v i wr => ∃ k : Nat, k ≤ 4096 ∧ i = .int .i64 k ∧ MoreS wr w.heap.size v f k ∧ Below w.heap.size w wr)
    (fun _ i _ => 4096 - (intOf i).toNat)
  case atStart => exact ⟨0, by omega, rfl, World.ownsRow_nil _ _ _ _, Below.refl _ _⟩
  case round =>
    obtain ⟨k, hk, rfl, hown, hb⟩ := hrel
    have hrl := runs_length f k
    by_cases hlt : k < 4096
    · have hmr := hm.out.below hb hBw
      have c1 := hmr.cell hlt
      have hown := Lib.hid hown
      have hsz := hb.size
      have hb := Lib.hid hb
      have hmr := Lib.hid hmr
      cases hf : f k
      · rw [hf] at c1
        go_wp2
        go_quiet (fail)
        go_wp2
        go_roundw
        case rel => exact ⟨k + 1, by omega, by go_num, (hown.out.drewN _).skip hf, below_drewN' hb.out _⟩
        case measure => simp [intOf] <;> omega
      · rw [hf] at c1
        by_cases hp : k ≠ 0 ∧ f (k - 1) = true
        · obtain ⟨h0, hp⟩ := hp
          have hk0 : 0 < k := by omega
          have c2 := hmr.out.cell (i := k - 1) (by omega)
          rw [hp] at c2
          obtain ⟨g, cap, m, n, rfl, hlen, hg1, hg2, cn, fn, hm1, hn1, hn2, hstep⟩ := hown.out.last hk0 hp
          have hstep := Lib.hid hstep
          have hp := Lib.hid hp
          clear h0
          go_wp2
          go_quiet (fail)
          go_wp2
          go_roundw
          case rel => exact ⟨k + 1, by omega, by go_num, hstep.out k rfl hf, (below_drewN' hb.out _).setCell (by exact hg1) _⟩
          case measure => simp [intOf] <;> omega
        · have hpp : k = 0 ∨ (0 < k ∧ wr.cell? ⟨B, k - 1, none⟩ = some (.bool false)) := by
            by_cases h0 : k = 0
            · exact .inl h0
            · right
              refine ⟨by omega, ?_⟩
              rw [hmr.out.cell (by omega)]
              simp [h0] at hp
              simp [hp]
          have hp := Lib.hid hp
          rcases hpp with rfl | ⟨hk0, c2⟩
          · go_wp2
            go_quiet (fail)
            go_wp2_with (at_builtin; go_loud (refine wpList_push rfl _ _ 22 rfl w.heap.size 53 i0 _ 2 16 Try.underlying22 hi hz0 hz1 hz2 rfl (by decide) u3 _ _ (wr.drewN nq) rfl (MoreS.row hown.out nq) 1 #[.int .i64 0, .int .i64 1] rfl rfl rfl (by omega) (by omega) hsz ?_); intro v' w' ho hg hv; obtain ⟨g, cap, rfl⟩ := hv; have hg := Lib.hid hg; have ho := Lib.hid ho)
            go_roundw
            case rel => exact ⟨0 + 1, by omega, by go_num, MoreS.add hf hp.out ho.out, Below.pushed (below_drewN' hb.out _) (MoreS.row hown.out nq) hg.out (Nat.le_refl _) hsz⟩
            case measure => simp [intOf] <;> omega
          · go_wp2
            go_quiet (fail)
            go_wp2_with (at_builtin; go_loud (refine wpList_push rfl _ _ 22 rfl w.heap.size 53 i0 _ 2 16 Try.underlying22 hi hz0 hz1 hz2 rfl (by decide) u3 _ _ (wr.drewN nq) rfl (MoreS.row hown.out nq) 1 #[.int .i64 k, .int .i64 1] rfl rfl rfl (by omega) (by omega) hsz ?_); intro v' w' ho hg hv; obtain ⟨g, cap, rfl⟩ := hv; have hg := Lib.hid hg; have ho := Lib.hid ho)
            go_roundw
            case rel => exact ⟨k + 1, by omega, by go_num, MoreS.add hf hp.out ho.out, Below.pushed (below_drewN' hb.out _) (MoreS.row hown.out nq) hg.out (Nat.le_refl _) hsz⟩
            case measure => simp [intOf] <;> omega
    · obtain rfl : k = 4096 := by omega
      go_wp2
      go_ret
      exact ⟨_, rfl, hown, hb⟩
end Go.Proofs.Ytlbglcmajbhflaa
