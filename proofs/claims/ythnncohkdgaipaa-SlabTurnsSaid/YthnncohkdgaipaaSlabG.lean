/- A map's Copy and New. -/
import Derived.Test.YthnncohkdgaipaaSlabF
namespace Go.Proofs.Ythnncohkdgaipaa
open Go.ChangeShapes Go.WideShapes Go.ChangeAt Go.RowKit
set_option linter.unusedVariables false
set_option maxRecDepth 20000

theorem sts_none : Array.replicate 1024 (Value.int .u8 0) = (stsL fun _ => 0).toArray := by
  apply Array.ext
  · simp [stsL]
  · intro i h1 h2
    simp [stsL]

theorem zeroMap (w : World) : Sem.run Try.prog (zeroValue 50) w = .ok (.agg (stsL fun _ => 0).toArray) w := by
  rw [← sts_none]
  kernel_rfl

theorem setRow_alloc (w : World) (cs cs' : Array Value) (T : TypeId) : (w.alloc (.cells cs T)).setRow w.heap.size cs' = w.alloc (.cells cs' T) := by
  have e : ((w.alloc (.cells cs T)).setRow w.heap.size cs').heap = (w.alloc (.cells cs' T)).heap := ?_
  · show { (w.alloc (.cells cs T)) with heap := ((w.alloc (.cells cs T)).setRow w.heap.size cs').heap } = _
    rw [e]
    rfl
  unfold World.setRow World.alloc
  apply Array.ext_getElem?
  intro k
  rw [Array.getElem?_modify]
  by_cases hk : w.heap.size = k
  · subst hk; simp
  · have hk' : k ≠ w.heap.size := fun e => hk e.symm
    simp [hk, hk', Array.getElem?_push]

theorem store_map_new {P : Program} (w : World) (T : TypeId) (f g : Nat → Nat) : Sem.run P (storeCells ⟨w.heap.size, 0, none⟩ (stsL g)) (w.alloc (.cells (stsL f).toArray T)) = .ok () (w.alloc (.cells (stsL g).toArray T)) := by
  have h := splice_blk (P := P) (Blk.new w T (stsL f)) 0 (stsL g) (by simp [stsL_length]) (stsL_one g)
  rw [List.take_zero, List.drop_of_length_le (by simp [stsL_length]), List.nil_append, List.append_nil, setRow_alloc] at h
  exact h

set_option maxHeartbeats 2000000 in
theorem Copy_any (B : Nat) (f : Nat → Nat) (w : World) (hm : MapAt w B f) :
    Calls Try.prog 22 #[.pointer (some ⟨B, 0, none⟩)] w fun e w' => e = .returned (.pointer (some ⟨w.heap.size, 0, none⟩)) ∧ MapAt w' w.heap.size f ∧ Below w.heap.size w w' := by
  have hBw := hm.lt
  have hz := zeroMap
  have hsz := stsL_length
  have hm := Lib.hid hm
  go_enter Try.func22, Try.ntmps22
  go_wp2_with (refine wpList_load_mid rfl 50 _ rfl B 0 (by rfl) (stsL f) _ hm.out.range Try.underlying50 rfl (info_map f) ?_)
  rw [store_map_new]
  go_wp2
  go_ret
  exact ⟨rfl, Blk.new w _ (stsL f), (Below.refl _ _).alloc (Nat.le_refl _) _⟩

/-- what New has laid so far -/
def newU (total : Int) (k i : Nat) : Nat := if 4 ≤ i ∧ (i : Int) < total ∧ i < k then 1 else 0

theorem newU_step {total : Int} {k : Nat} (h : (k : Int) < total) (h4 : 4 ≤ k) : upd (newU total k) k 1 = newU total (k + 1) := by
  funext j
  unfold upd newU
  by_cases e : j = k
  · subst e; rw [if_pos rfl, if_pos ⟨h4, h, by omega⟩]
  · rw [if_neg e]
    by_cases c : 4 ≤ j ∧ (j : Int) < total ∧ j < k
    · rw [if_pos c, if_pos ⟨c.1, c.2.1, by omega⟩]
    · rw [if_neg c, if_neg fun c' => c ⟨c'.1, c'.2.1, by omega⟩]

theorem newU_end {total : Int} {k : Nat} (h : k = 1024 ∨ total ≤ k) (hk : k ≤ 1024) (i : Nat) (hi : i < 1024) : newU total k i = newS total i := by
  unfold newU newS
  by_cases c : 4 ≤ i ∧ (i : Int) < total ∧ i < k
  · rw [if_pos c, if_pos ⟨c.1, c.2.1, hi⟩]
  · rw [if_neg c, if_neg fun c' => c ⟨c'.1, c'.2.1, by omega⟩]

set_option maxHeartbeats 2000000 in
theorem New_map (total : Int) (w : World) (ht : I64 total) :
    Calls Try.prog 9 #[.int .i64 total] w fun e w' => e = .returned (.pointer (some ⟨w.heap.size, 0, none⟩)) ∧ MapAt w' w.heap.size (newS total) ∧ Below w.heap.size w w' := by
  have hz := zeroMap
  have hsz := stsL_length
  unfold I64 at ht
  go_enter Try.func9, Try.ntmps9
  go_wp2
  go_loopw [4] (fun i wr => ∃ k : Nat, 4 ≤ k ∧ k ≤ 1024 ∧ i = .int .i64 k ∧ MapAt wr w.heap.size (newU total k) ∧ Below w.heap.size w wr)
    (fun i _ => 1024 - (intOf i).toNat)
  case atStart => exact ⟨4, by omega, by omega, rfl, MapAt.congr (Blk.new w _ (stsL fun _ => 0)) (fun i _ => by unfold newU; rw [if_neg (by omega)]), (Below.refl _ _).alloc (Nat.le_refl _) _⟩
  case round =>
    obtain ⟨k, hk4, hk, rfl, hmr, hb⟩ := hrel
    by_cases hlt : (k : Int) < total ∧ k < 1024
    · obtain ⟨h1, h2⟩ := hlt
      have c2 := hmr.cell h2
      have f2 := hmr.frozen k
      have hlt2 := hmr.lt
      have hstep := Lib.hid (newU_step h1 hk4)
      have hmr := Lib.hid hmr
      have hb := Lib.hid hb
      rcases Int.lt_trichotomy total 1024 with h3 | h3 | h3
      all_goals
        go_wp2
        go_roundw
        case rel => exact ⟨k + 1, by omega, by omega, by go_num, by rw [← hstep.out]; exact hmr.out.set k 1, hb.out.setCell (Nat.le_refl _) _⟩
        case measure => simp [intOf] <;> omega
    · have hend := Lib.hid (newU_end (total := total) (k := k) (by omega) hk)
      have hmr := Lib.hid hmr
      have hb := Lib.hid hb
      rcases Int.lt_trichotomy total 1024 with h3 | h3 | h3
      all_goals
        go_wp2
        go_ret
        exact ⟨rfl, hmr.out.congr hend.out, hb.out⟩
end Go.Proofs.Ythnncohkdgaipaa
