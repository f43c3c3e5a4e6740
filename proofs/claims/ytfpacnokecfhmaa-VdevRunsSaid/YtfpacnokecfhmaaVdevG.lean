/- A device: settle, for both closures that it is handed. -/
import Derived.Test.YtfpacnokecfhmaaVdevF
namespace Go.Proofs.Ytfpacnokecfhmaa
open Go.ChangeShapes Go.WideShapes Go.ChangeAt Go.RowKit
set_option linter.unusedVariables false

theorem zeroWr (w : World) : Sem.run Try.prog (zeroValue 62) w = .ok (.agg (wrL (0, sec0)).toArray) w := by kernel_rfl

set_option maxRecDepth 100000 in
set_option maxHeartbeats 4000000 in
theorem settle_all (L : DevL) (m : DevM) (ke : Nat → Bool) (w : World) (h : DevAt w L m) (hp : m.pending.length ≤ 1000000000)
    (hcl : Hid (∀ (j : Nat) (w' : World), j < m.pending.length → Kept L.foot w w' → Calls Try.prog 37 #[.int .i64 (j : Int)] w' fun e w'' => e = .returned (.bool (ke j)) ∧ w' = w'')) :
    Calls Try.prog 36 #[.pointer (some ⟨L.d, 0, none⟩), .func (.func 37) #[] #[]] w fun e w' => e = .returned (.tuple #[]) ∧ DevStep w L (m.settle ke) w' := by
  have hl := h.fits.len
  have hats := Lib.hid h.fits.at_
  obtain ⟨ao, cap, hv, hg⟩ := owns_form h.pe
  have c2 := h.c2
  rw [hv] at c2
  have hv := Lib.hid hv
  have hg := Lib.hid hg
  have hz := zeroWr
  have h := Lib.hid h
  go_enter Try.func36, Try.ntmps36
  go_wp2
  go_loopw [13] (fun i wr => ∃ k : Nat, k ≤ m.pending.length ∧ i = .int .i64 k ∧ Hid (MidAt wr L m (putAll m.stable (DevM.kept ke (m.pending.take k))) m.now) ∧ Hid (Kept L.foot w wr))
    (fun i _ => m.pending.length - (intOf i).toNat)
  case atStart => exact ⟨0, by omega, rfl, Lib.hid h.out.mid, Lib.hid (Kept.refl _ _)⟩
  case round =>
    obtain ⟨k, hk, rfl, hm, hkp⟩ := hrel
    clear c2
    by_cases hlt : k < m.pending.length
    · obtain ⟨g, rfl, hgo, hgl⟩ := hg.out (by omega)
      have r1 := Lib.hid (hm.out.peRange hv.out hlt)
      have hat := hats.out _ (List.getElem_mem hlt)
      have hst : (putAll m.stable (DevM.kept ke (m.pending.take k))).length = m.stable.length := putAll_length _ _
      have hA : ¬ L.foot wr.heap.size := fun e => by have := hm.out.lt _ e; omega
      have hA := Lib.hid hA
      have hst := Lib.hid hst
      have i1 : (m.pending[k].1 : Int) < (m.stable.length : Int) := by omega
      have i2 : (0 : Int) ≤ (m.pending[k].1 : Int) := by omega
      cases hke : ke k
      · go_wp2_with (first
          | (refine wpList_load_mid rfl 62 _ rfl g (k * 129) (by rfl) (wrL m.pending[k]) _ r1.out Try.underlying62 rfl (infoWrL _) ?_)
          | (refine wpList_store_blk rfl 62 _ _ rfl wr.heap.size 0 (by rfl) (wrL m.pending[k]) (by rfl) _ (wrL (0, sec0)) (wrL m.pending[k]) (Blk.new _ _ _) (by simp [wrL_length]) (wrL_one _) (infoWrL _) (whole_new (by simp [wrL_length])) ?_
             intro w1 hb1 k1 z1
             have hq1 := Lib.hid (((hkp.out.alloc (.cells (wrL (0, sec0)).toArray 62)).then k1 fun i hi e => by have := hkp.out.size; omega))
             have hm1 := Lib.hid ((hm.out.alloc (.cells (wrL (0, sec0)).toArray 62)).kept k1 fun i hi e => hA.out (e ▸ hi))
             have hb1 := Lib.hid hb1
             clear k1)
          | ((with_reducible refine (hcl.out k _ hlt hq1.out).mono ?_); rintro e w' ⟨rfl, rfl⟩; rw [hke]))
        go_roundw
        case rel => exact ⟨k + 1, by omega, by go_num, Lib.hid (by rw [kept_take _ _ _ hlt, hke]; simpa using hm1.out), hq1⟩
        case measure => simp [intOf] <;> omega
      · go_wp2_with (first
          | (refine wpList_load_mid rfl 62 _ rfl g (k * 129) (by rfl) (wrL m.pending[k]) _ r1.out Try.underlying62 rfl (infoWrL _) ?_)
          | (refine wpList_store_blk rfl 62 _ _ rfl wr.heap.size 0 (by rfl) (wrL m.pending[k]) (by rfl) _ (wrL (0, sec0)) (wrL m.pending[k]) (Blk.new _ _ _) (by simp [wrL_length]) (wrL_one _) (infoWrL _) (whole_new (by simp [wrL_length])) ?_
             intro w1 hb1 k1 z1
             have hq1 := Lib.hid (((hkp.out.alloc (.cells (wrL (0, sec0)).toArray 62)).then k1 fun i hi e => by have := hkp.out.size; omega))
             have hm1 := Lib.hid ((hm.out.alloc (.cells (wrL (0, sec0)).toArray 62)).kept k1 fun i hi e => hA.out (e ▸ hi))
             have hb1 := Lib.hid hb1
             clear k1)
          | ((with_reducible refine (hcl.out k _ hlt hq1.out).mono ?_); rintro e w' ⟨rfl, rfl⟩; rw [hke]))
        · have hst := hst.out
          refine inO_region [(3, fun w' => w'.cell? ⟨L.d, 0, none⟩ = some (.slice (some ⟨L.sb, 0, none⟩) m.stable.length m.stable.length)), (5, fun w' => w'.cell? ⟨wr.heap.size, 0, none⟩ = some (.int .i64 (m.pending[k].1 : Int))), (7, fun w' => w'.rangeAt (wr.heap.size) (1) (secL m.pending[k].2))] (by kernel_rfl) (Owed.cons (hm1.out.c0) (Owed.cons (((hb1.out.drew.cell 0).trans rfl)) (Owed.cons ((hb1.out.drew.range fun j v hv => by rw [Nat.add_comm, wrL, List.getElem?_cons_succ]; exact hv)) (Owed.nil _ _)))) ?_
          refine inO_take 0 ⟨_, _, _, _, _, _⟩ (.pointer (some ⟨L.d, 0, none⟩)) rfl (by kernel_rfl) (by kernel_rfl) (by kernel_rfl) (fun _ _ _ h => h) rfl (fun ww => exec_move (by rfl) (by rfl) ww) ?_
          simp only [Act.put, List.setIfInBounds_toArray, List.set_cons_zero, List.set_cons_succ]
          refine inO_take 1 ⟨_, _, _, _, _, _⟩ (.pointer (some ⟨L.d, 0, none⟩)) rfl (by kernel_rfl) (by kernel_rfl) (by kernel_rfl) (fun _ _ _ h => h) rfl (fun ww => exec_nilCheck (by rfl) (by rfl) ww) ?_
          simp only [Act.put, List.setIfInBounds_toArray, List.set_cons_zero, List.set_cons_succ]
          refine inO_take 2 ⟨_, _, _, _, _, _⟩ (.pointer (some ⟨L.d, 0, none⟩)) rfl (by kernel_rfl) (by kernel_rfl) (by kernel_rfl) (fun _ _ _ h => h) rfl (fun ww => by go_simp) ?_
          simp only [Act.put, List.setIfInBounds_toArray, List.set_cons_zero, List.set_cons_succ]
          refine inO_load 3 ⟨_, _, _, _, _, _⟩ (.slice (some ⟨L.sb, 0, none⟩) m.stable.length m.stable.length) (fun w' => w'.cell? ⟨L.d, 0, none⟩ = some (.slice (some ⟨L.sb, 0, none⟩) m.stable.length m.stable.length)) rfl (by kernel_rfl) (by kernel_rfl) (by kernel_rfl) (fun _ _ _ h => h) rfl (.head _) (fun ww hw => by go_simp) ?_
          simp only [Act.put, List.setIfInBounds_toArray, List.set_cons_zero, List.set_cons_succ]
          refine inO_take 4 ⟨_, _, _, _, _, _⟩ (.pointer (some ⟨wr.heap.size, 0, none⟩)) rfl (by kernel_rfl) (by kernel_rfl) (by kernel_rfl) (fun _ _ _ h => h) rfl (fun ww => by go_simp) ?_
          simp only [Act.put, List.setIfInBounds_toArray, List.set_cons_zero, List.set_cons_succ]
          refine inO_load 5 ⟨_, _, _, _, _, _⟩ (.int .i64 (m.pending[k].1 : Int)) (fun w' => w'.cell? ⟨wr.heap.size, 0, none⟩ = some (.int .i64 (m.pending[k].1 : Int))) rfl (by kernel_rfl) (by kernel_rfl) (by kernel_rfl) (fun _ _ _ h => h) rfl (.tail _ (.head _)) (fun ww hw => by go_simp) ?_
          simp only [Act.put, List.setIfInBounds_toArray, List.set_cons_zero, List.set_cons_succ]
          refine inO_take 6 ⟨_, _, _, _, _, _⟩ (.pointer (some ⟨wr.heap.size, 1, none⟩)) rfl (by kernel_rfl) (by kernel_rfl) (by kernel_rfl) (fun _ _ _ h => h) rfl (fun ww => by go_simp) ?_
          simp only [Act.put, List.setIfInBounds_toArray, List.set_cons_zero, List.set_cons_succ]
          refine inO_load 7 ⟨_, _, _, _, _, _⟩ (.agg (secL m.pending[k].2).toArray) (fun w' => w'.rangeAt (wr.heap.size) (1) (secL m.pending[k].2)) rfl (by kernel_rfl) (by kernel_rfl) (by kernel_rfl) (fun _ _ _ h => h) rfl (.tail _ (.tail _ (.head _))) (fun ww hw => exec_load_mid _ _ (by rfl) _ _ (by rfl) _ _ hw Try.underlying33 rfl (infoSecL _)) ?_
          simp only [Act.put, List.setIfInBounds_toArray, List.set_cons_zero, List.set_cons_succ]
          refine inO_take 8 ⟨_, _, _, _, _, _⟩ (.pointer (some ⟨L.sb, m.pending[k].1 * 128, none⟩)) rfl (by kernel_rfl) (by kernel_rfl) (by kernel_rfl) (fun _ _ _ h => h) rfl (fun ww => by go_simp) ?_
          simp only [Act.put, List.setIfInBounds_toArray, List.set_cons_zero, List.set_cons_succ]
          refine inO_step 9 ⟨_, _, _, _, _, _⟩ rfl (by kernel_rfl) rfl (fun K hK => ?_)
          refine wp_store_blk 33 _ _ rfl L.sb (m.pending[k].1 * 128) rfl (secL m.pending[k].2) rfl _ (rowsL secL (putAll m.stable (DevM.kept ke (m.pending.take k)))) (rowsL secL ((putAll m.stable (DevM.kept ke (m.pending.take k))).set m.pending[k].1 m.pending[k].2)) hm1.out.st.drew (by rw [rowsL_length secL_length, secL_length, hst]; omega) (secL_one _) (infoSecL _) (by rw [rowsL_set secL_length _ _ (by rw [hst]; exact hat), secL_length]) ?_
          intro w2 hb2 k2 z2
          refine hK _ _ (Keeps.late (by kernel_rfl) (Keeps.late (by kernel_rfl) (Keeps.late (by kernel_rfl) (Keeps.nil _ _ _)))) ?_
          clear hK K
          simp only [Act.put]
          refine inO_done (by kernel_rfl) ?_
          have hst := Lib.hid hst
          go_wp2
          go_roundw
          case rel => exact ⟨k + 1, by omega, by go_num, Lib.hid (by rw [kept_take _ _ _ hlt, hke, if_pos rfl, putAll_snoc]; exact hm1.out.drew.putSt (List.length_set ..) hb2 k2), Lib.hid (hq1.out.drew.then k2 fun i _ e => .inr (.inl e))⟩
          case measure => simp [intOf] <;> omega
    · obtain rfl : k = m.pending.length := by omega
      rw [List.take_length] at hm
      obtain ⟨st', hst'⟩ : ∃ st' : List Sec, Hid (st' = putAll m.stable (DevM.kept ke m.pending)) := ⟨_, Lib.hid rfl⟩
      rw [← hst'.out] at hm
      have hst : Hid (st'.length = m.stable.length) := Lib.hid (by rw [hst'.out]; exact putAll_length _ _)
      have c2 := hm.out.c2
      rw [hv.out] at c2
      go_wp2
      go_loopw [36] (fun i wr => ∃ k : Nat, k ≤ m.pending.length ∧ i = .int .i64 k ∧ Hid (MidAt wr L m st' (back m.now st' (m.pending.take k))) ∧ Hid (Kept L.foot w wr))
        (fun i _ => m.pending.length - (intOf i).toNat)
      case atStart => exact ⟨0, by omega, rfl, hm, hkp⟩
      case round =>
        clear hm hkp c2
        obtain ⟨k, hk, rfl, hm, hkp⟩ := hrel
        by_cases hlt : k < m.pending.length
        · obtain ⟨g, rfl, hgo, hgl⟩ := hg.out (by omega)
          have r1 := Lib.hid (hm.out.peRange hv.out hlt)
          have hat := hats.out _ (List.getElem_mem hlt)
          have hns : Hid ((back m.now st' (m.pending.take k)).length = m.stable.length) := Lib.hid (by rw [back_length, DevM.now_length])
          have hA : ¬ L.foot wr.heap.size := fun e => by have := hm.out.lt _ e; omega
          have hA := Lib.hid hA
          obtain ⟨y, hy⟩ : ∃ y : Sec, Hid (y = st'[m.pending[k].1]'(by rw [hst.out]; exact hat)) := ⟨_, Lib.hid rfl⟩
          have i1 : (m.pending[k].1 : Int) < (m.stable.length : Int) := by omega
          have i2 : (0 : Int) ≤ (m.pending[k].1 : Int) := by omega
          go_wp2_with (first
            | (refine wpList_load_mid rfl 62 _ rfl g (k * 129) (by rfl) (wrL m.pending[k]) _ r1.out Try.underlying62 rfl (infoWrL _) ?_)
            | (refine wpList_store_blk rfl 62 _ _ rfl wr.heap.size 0 (by rfl) (wrL m.pending[k]) (by rfl) _ (wrL (0, sec0)) (wrL m.pending[k]) (Blk.new _ _ _) (by simp [wrL_length]) (wrL_one _) (infoWrL _) (whole_new (by simp [wrL_length])) ?_
               intro w1 hb1 k1 z1
               have hq1 := Lib.hid (((hkp.out.alloc (.cells (wrL (0, sec0)).toArray 62)).then k1 fun i hi e => by have := hkp.out.size; omega))
               have hm1 := Lib.hid ((hm.out.alloc (.cells (wrL (0, sec0)).toArray 62)).kept k1 fun i hi e => hA.out (e ▸ hi))
               have hb1 := Lib.hid hb1
               clear k1))
          refine inO_region [(3, fun w' => w'.cell? ⟨L.d, 1, none⟩ = some (.slice (some ⟨L.nb, 0, none⟩) m.stable.length m.stable.length)), (5, fun w' => w'.cell? ⟨wr.heap.size, 0, none⟩ = some (.int .i64 (m.pending[k].1 : Int))), (9, fun w' => w'.cell? ⟨L.d, 0, none⟩ = some (.slice (some ⟨L.sb, 0, none⟩) m.stable.length m.stable.length)), (11, fun w' => w'.cell? ⟨wr.heap.size, 0, none⟩ = some (.int .i64 (m.pending[k].1 : Int))), (13, fun w' => w'.rangeAt (L.sb) (m.pending[k].1 * 128) (secL y))] (by kernel_rfl) (Owed.cons (hm1.out.c1) (Owed.cons (((hb1.out.drew.cell 0).trans rfl)) (Owed.cons (hm1.out.c0) (Owed.cons (((hb1.out.drew.cell 0).trans rfl)) (Owed.cons ((by rw [hy.out]; exact hm1.out.drew.stRange (by rw [hst.out]; exact hat))) (Owed.nil _ _)))))) ?_
          refine inO_take 0 ⟨_, _, _, _, _, _⟩ (.pointer (some ⟨L.d, 0, none⟩)) rfl (by kernel_rfl) (by kernel_rfl) (by kernel_rfl) (fun _ _ _ h => h) rfl (fun ww => exec_move (by rfl) (by rfl) ww) ?_
          simp only [Act.put, List.setIfInBounds_toArray, List.set_cons_zero, List.set_cons_succ]
          refine inO_take 1 ⟨_, _, _, _, _, _⟩ (.pointer (some ⟨L.d, 0, none⟩)) rfl (by kernel_rfl) (by kernel_rfl) (by kernel_rfl) (fun _ _ _ h => h) rfl (fun ww => exec_nilCheck (by rfl) (by rfl) ww) ?_
          simp only [Act.put, List.setIfInBounds_toArray, List.set_cons_zero, List.set_cons_succ]
          refine inO_take 2 ⟨_, _, _, _, _, _⟩ (.pointer (some ⟨L.d, 1, none⟩)) rfl (by kernel_rfl) (by kernel_rfl) (by kernel_rfl) (fun _ _ _ h => h) rfl (fun ww => by go_simp) ?_
          simp only [Act.put, List.setIfInBounds_toArray, List.set_cons_zero, List.set_cons_succ]
          refine inO_load 3 ⟨_, _, _, _, _, _⟩ (.slice (some ⟨L.nb, 0, none⟩) m.stable.length m.stable.length) (fun w' => w'.cell? ⟨L.d, 1, none⟩ = some (.slice (some ⟨L.nb, 0, none⟩) m.stable.length m.stable.length)) rfl (by kernel_rfl) (by kernel_rfl) (by kernel_rfl) (fun _ _ _ h => h) rfl (.head _) (fun ww hw => by go_simp) ?_
          simp only [Act.put, List.setIfInBounds_toArray, List.set_cons_zero, List.set_cons_succ]
          refine inO_take 4 ⟨_, _, _, _, _, _⟩ (.pointer (some ⟨wr.heap.size, 0, none⟩)) rfl (by kernel_rfl) (by kernel_rfl) (by kernel_rfl) (fun _ _ _ h => h) rfl (fun ww => by go_simp) ?_
          simp only [Act.put, List.setIfInBounds_toArray, List.set_cons_zero, List.set_cons_succ]
          refine inO_load 5 ⟨_, _, _, _, _, _⟩ (.int .i64 (m.pending[k].1 : Int)) (fun w' => w'.cell? ⟨wr.heap.size, 0, none⟩ = some (.int .i64 (m.pending[k].1 : Int))) rfl (by kernel_rfl) (by kernel_rfl) (by kernel_rfl) (fun _ _ _ h => h) rfl (.tail _ (.head _)) (fun ww hw => by go_simp) ?_
          simp only [Act.put, List.setIfInBounds_toArray, List.set_cons_zero, List.set_cons_succ]
          refine inO_take 6 ⟨_, _, _, _, _, _⟩ (.pointer (some ⟨L.d, 0, none⟩)) rfl (by kernel_rfl) (by kernel_rfl) (by kernel_rfl) (fun _ _ _ h => h) rfl (fun ww => exec_move (by rfl) (by rfl) ww) ?_
          simp only [Act.put, List.setIfInBounds_toArray, List.set_cons_zero, List.set_cons_succ]
          refine inO_take 7 ⟨_, _, _, _, _, _⟩ (.pointer (some ⟨L.d, 0, none⟩)) rfl (by kernel_rfl) (by kernel_rfl) (by kernel_rfl) (fun _ _ _ h => h) rfl (fun ww => exec_nilCheck (by rfl) (by rfl) ww) ?_
          simp only [Act.put, List.setIfInBounds_toArray, List.set_cons_zero, List.set_cons_succ]
          refine inO_take 8 ⟨_, _, _, _, _, _⟩ (.pointer (some ⟨L.d, 0, none⟩)) rfl (by kernel_rfl) (by kernel_rfl) (by kernel_rfl) (fun _ _ _ h => h) rfl (fun ww => by go_simp) ?_
          simp only [Act.put, List.setIfInBounds_toArray, List.set_cons_zero, List.set_cons_succ]
          refine inO_load 9 ⟨_, _, _, _, _, _⟩ (.slice (some ⟨L.sb, 0, none⟩) m.stable.length m.stable.length) (fun w' => w'.cell? ⟨L.d, 0, none⟩ = some (.slice (some ⟨L.sb, 0, none⟩) m.stable.length m.stable.length)) rfl (by kernel_rfl) (by kernel_rfl) (by kernel_rfl) (fun _ _ _ h => h) rfl (.tail _ (.tail _ (.head _))) (fun ww hw => by go_simp) ?_
          simp only [Act.put, List.setIfInBounds_toArray, List.set_cons_zero, List.set_cons_succ]
          refine inO_take 10 ⟨_, _, _, _, _, _⟩ (.pointer (some ⟨wr.heap.size, 0, none⟩)) rfl (by kernel_rfl) (by kernel_rfl) (by kernel_rfl) (fun _ _ _ h => h) rfl (fun ww => by go_simp) ?_
          simp only [Act.put, List.setIfInBounds_toArray, List.set_cons_zero, List.set_cons_succ]
          refine inO_load 11 ⟨_, _, _, _, _, _⟩ (.int .i64 (m.pending[k].1 : Int)) (fun w' => w'.cell? ⟨wr.heap.size, 0, none⟩ = some (.int .i64 (m.pending[k].1 : Int))) rfl (by kernel_rfl) (by kernel_rfl) (by kernel_rfl) (fun _ _ _ h => h) rfl (.tail _ (.tail _ (.tail _ (.head _)))) (fun ww hw => by go_simp) ?_
          simp only [Act.put, List.setIfInBounds_toArray, List.set_cons_zero, List.set_cons_succ]
          refine inO_take 12 ⟨_, _, _, _, _, _⟩ (.pointer (some ⟨L.sb, m.pending[k].1 * 128, none⟩)) rfl (by kernel_rfl) (by kernel_rfl) (by kernel_rfl) (fun _ _ _ h => h) rfl (fun ww => by go_simp) ?_
          simp only [Act.put, List.setIfInBounds_toArray, List.set_cons_zero, List.set_cons_succ]
          refine inO_load 13 ⟨_, _, _, _, _, _⟩ (.agg (secL y).toArray) (fun w' => w'.rangeAt (L.sb) (m.pending[k].1 * 128) (secL y)) rfl (by kernel_rfl) (by kernel_rfl) (by kernel_rfl) (fun _ _ _ h => h) rfl (.tail _ (.tail _ (.tail _ (.tail _ (.head _))))) (fun ww hw => exec_load_mid _ _ (by rfl) _ _ (by rfl) _ _ hw Try.underlying33 rfl (infoSecL _)) ?_
          simp only [Act.put, List.setIfInBounds_toArray, List.set_cons_zero, List.set_cons_succ]
          refine inO_take 14 ⟨_, _, _, _, _, _⟩ (.pointer (some ⟨L.nb, m.pending[k].1 * 128, none⟩)) rfl (by kernel_rfl) (by kernel_rfl) (by kernel_rfl) (fun _ _ _ h => h) rfl (fun ww => by go_simp) ?_
          simp only [Act.put, List.setIfInBounds_toArray, List.set_cons_zero, List.set_cons_succ]
          refine inO_step 15 ⟨_, _, _, _, _, _⟩ rfl (by kernel_rfl) rfl (fun K hK => ?_)
          refine wp_store_blk 33 _ _ rfl L.nb (m.pending[k].1 * 128) rfl (secL y) rfl _ (rowsL secL (back m.now st' (m.pending.take k))) (rowsL secL ((back m.now st' (m.pending.take k)).set m.pending[k].1 y)) hm1.out.nw.drew (by rw [rowsL_length secL_length, secL_length, hns.out]; omega) (secL_one _) (infoSecL _) (by rw [rowsL_set secL_length _ _ (by rw [hns.out]; exact hat), secL_length]) ?_
          intro w2 hb2 k2 z2
          refine hK _ _ (Keeps.late (by kernel_rfl) (Keeps.late (by kernel_rfl) (Keeps.late (by kernel_rfl) (Keeps.late (by kernel_rfl) (Keeps.late (by kernel_rfl) (Keeps.nil _ _ _)))))) ?_
          clear hK K
          simp only [Act.put]
          refine inO_done (by kernel_rfl) ?_
          go_wp2
          go_roundw
          case rel => exact ⟨k + 1, by omega, by go_num, Lib.hid (by
                have e1 : st'.getD m.pending[k].1 sec0 = y := by rw [hy.out]; simp [hst.out, hat]
                rw [back_take _ _ _ _ hlt, e1]; exact hm1.out.drew.putNw (List.length_set ..) hb2 k2), Lib.hid (hq1.out.drew.then k2 fun i _ e => .inr (.inr (.inl e)))⟩
          case measure => simp [intOf] <;> omega
        · obtain rfl : k = m.pending.length := by omega
          rw [List.take_length] at hm
          have hba : back m.now st' m.pending = st' := by rw [hst'.out]; exact back_all m ke
          rw [hba] at hm
          clear hba
          have c2 := hm.out.c2
          have f2 := hm.out.fz 2
          go_wp2
          go_end0
          refine ⟨rfl, .slice none 0 0, ?_, hkp.out.then (Kept.cellAt wr _ _ _) fun i _ e => .inl e, .inr (.inl rfl)⟩
          have hsl : (m.settle ke).stable.length = m.stable.length := putAll_length _ _
          refine ⟨?_, ?_, ?_, World.ownsRow_nil _ _ _ _, hm.out.ne, ?_⟩
          · have := hm.out.base.set 2 (.slice none 0 0)
            rw [hsl]
            exact this
          · have := hm.out.st.far (p := ⟨L.d, 2, none⟩) hm.out.ds.symm (.slice none 0 0)
            rw [hst'.out] at this
            exact this
          · have := hm.out.nw.far (p := ⟨L.d, 2, none⟩) hm.out.dn.symm (.slice none 0 0)
            rw [hst'.out] at this
            exact this
          · have hf := h.out.fits
            exact ⟨hf.ops, hf.left, by rw [hsl]; exact hf.len, fun p hp => by cases hp⟩

end Go.Proofs.Ytfpacnokecfhmaa
