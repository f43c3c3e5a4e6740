/- The document's own Set and Of answer the same sets, for every input. -/
import Derived.Test.YtlbglcmajbhflaaSpanF
namespace Go.Proofs.Ytlbglcmajbhflaa
open Go.ChangeShapes Go.WideShapes Go.ChangeAt Go.RowKit
set_option linter.unusedVariables false
set_option maxRecDepth 20000

theorem Marked.pushed {w w' : World} {B T : Nat} {f : Nat → Bool} {base e size n : Nat} {v : Value} {xs : List Value} (h : Marked w B T f) (hown : w.ownsRow base e size v n xs) (hg : w.grownBy w' v.ownBlock) (hB : B < base) : Marked w' B T f := by
  have hlt := h.lt
  unfold Marked at *
  rw [hg.block B hlt (fun e => by have := (World.ownsRow.lt hown B e.symm).1; omega), h]

theorem MoreS.row0 {w : World} {base : Nat} {v : Value} {f : Nat → Bool} {k : Nat} (h : MoreS w base v f k) : w.ownsRow base 53 2 v (runs f k).length (flat (runs f k)) := h

set_option maxHeartbeats 1000000 in
set_option maxRecDepth 20000 in
theorem refSet_any (f : Nat → Bool) (w : World) :
    Calls Try.prog 30 #[.agg (bools f)] w fun e w' => ∃ v, e = .returned v ∧ OwnS w' w.heap.size v (runs f 4096) ∧ Below w.heap.size w w' := by
  obtain ⟨i0, hi, hz0, hz1, hz2⟩ := info_parts infoSpan
  go_enter Try.func30, Try.ntmps30
  go_wp2
  go_loopw [3, 4] (fun v i wr => ∃ k : Nat, k ≤ 4096 ∧ i = .int .i64 k ∧ MoreS wr (w.heap.size + 1) v f k ∧ Marked wr w.heap.size 48 f ∧ Below w.heap.size w wr)
    (fun _ i _ => 4096 - (intOf i).toNat)
  case atStart => exact ⟨0, by omega, rfl, (by have := World.ownsRow_made (w.alloc (.cells (bools f) 48)) (e := 53) (base := w.heap.size + 1) (size := 2) #[] 0 (by simp) (by decide) (by simp); simpa [MoreS, OwnS, runs, flat] using this), (Marked.new _ _ _).alloc _, ((Below.refl _ _).alloc (Nat.le_refl _) _).alloc (by simp) _⟩
  case round =>
    obtain ⟨k, hk, rfl, hown, hmr, hb⟩ := hrel
    have hrl := runs_length f k
    by_cases hlt : k < 4096
    · have c1 := hmr.cell hlt
      have hown := Lib.hid hown
      have hsz := hb.size
      have hlt0 := hmr.lt
      have hb := Lib.hid hb
      have hmr := Lib.hid hmr
      cases hf : f k
      · rw [hf] at c1
        go_wp2
        go_roundw
        case rel => exact ⟨k + 1, by omega, by go_num, hown.out.skip hf, hmr.out, hb.out⟩
        case measure => simp [intOf] <;> omega
      · rw [hf] at c1
        by_cases hp : k ≠ 0 ∧ f (k - 1) = true
        · obtain ⟨h0, hp⟩ := hp
          have hk0 : 0 < k := by omega
          have c2 := hmr.out.cell (i := k - 1) (by omega)
          rw [hp] at c2
          obtain ⟨g, cap, m, n, rfl, hlen, hg1, hg2, cn, fn, hm1, hn1, hn2, hstep⟩ := hown.out.last hk0 hp
          have hstep := Lib.hid hstep
          have hp := Lib.hid hp
          clear h0
          go_wp2
          go_roundw
          case rel => exact ⟨k + 1, by omega, by go_num, hstep.out k rfl hf, hmr.out.other _ (by simp; omega), hb.out.setCell (by show w.heap.size ≤ g; omega) _⟩
          case measure => simp [intOf] <;> omega
        · have hpp : k = 0 ∨ (0 < k ∧ wr.cell? ⟨w.heap.size, k - 1, none⟩ = some (.bool false)) := by
            by_cases h0 : k = 0
            · exact .inl h0
            · right
              refine ⟨by omega, ?_⟩
              rw [hmr.out.cell (by omega)]
              simp [h0] at hp
              simp [hp]
          have hp := Lib.hid hp
          rcases hpp with rfl | ⟨hk0, c2⟩
          · go_wp2_with (at_builtin; go_loud (refine wpList_push rfl _ _ 22 rfl (w.heap.size + 1) 53 i0 _ 2 16 Try.underlying22 hi hz0 hz1 hz2 rfl (by decide) u3 _ _ wr rfl (MoreS.row0 hown.out) 1 #[.int .i64 0, .int .i64 1] rfl rfl rfl (by omega) (by omega) hlt0 ?_); intro v' w' ho hg hv; obtain ⟨g, cap, rfl⟩ := hv; have hg := Lib.hid hg; have ho := Lib.hid ho)
            go_roundw
            case rel => exact ⟨0 + 1, by omega, by go_num, MoreS.add hf hp.out ho.out, hmr.out.pushed (MoreS.row0 hown.out) hg.out (by omega), Below.pushed hb.out (MoreS.row0 hown.out) hg.out (by omega) hsz⟩
            case measure => simp [intOf] <;> omega
          · go_wp2_with (at_builtin; go_loud (refine wpList_push rfl _ _ 22 rfl (w.heap.size + 1) 53 i0 _ 2 16 Try.underlying22 hi hz0 hz1 hz2 rfl (by decide) u3 _ _ wr rfl (MoreS.row0 hown.out) 1 #[.int .i64 k, .int .i64 1] rfl rfl rfl (by omega) (by omega) hlt0 ?_); intro v' w' ho hg hv; obtain ⟨g, cap, rfl⟩ := hv; have hg := Lib.hid hg; have ho := Lib.hid ho)
            go_roundw
            case rel => exact ⟨k + 1, by omega, by go_num, MoreS.add hf hp.out ho.out, hmr.out.pushed (MoreS.row0 hown.out) hg.out (by omega), Below.pushed hb.out (MoreS.row0 hown.out) hg.out (by omega) hsz⟩
            case measure => simp [intOf] <;> omega
    · obtain rfl : k = 4096 := by omega
      go_wp2
      go_ret
      exact ⟨_, rfl, hown.le (by omega), hb⟩

end Go.Proofs.Ytlbglcmajbhflaa
