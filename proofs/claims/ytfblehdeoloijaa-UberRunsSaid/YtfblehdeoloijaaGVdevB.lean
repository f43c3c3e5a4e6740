/- VdevB: the texts VdevH, VdevI, VdevJ, VdevK, VdevL, VdevN, Acts, ActW, Keeps, Flush, RefA, one behind the other. -/
import Derived.Test.YtfblehdeoloijaaGVdev
import Derived.Test.YtfblehdeoloijaaGBase
import Derived.Deep.Slices
import Derived.OpenShut
import Derived.SizedLaws
import Derived.Deep.Cut
/- A device: settle, with the closure of a crash. -/
namespace Go.Proofs.Ytfblehdeoloijaa
open Go.ChangeShapes Go.WideShapes Go.ChangeAt Go.RowKit
set_option linter.unusedVariables false
set_option maxRecDepth 20000

set_option maxRecDepth 100000 in
set_option maxHeartbeats 4000000 in
theorem settle_keep (L : DevL) (m : DevM) (ke : Nat → Bool) (w : World) (bx : Nat) (h : DevAt w L m) (hp : m.pending.length ≤ 1000000000)
    (hcl : Hid (∀ (j : Nat) (w' : World), j < m.pending.length → Kept L.foot w w' → Calls Try.prog 52 #[.int .i64 (j : Int), .pointer (some ⟨bx, 0, none⟩)] w' fun e w'' => e = .returned (.bool (ke j)) ∧ w' = w'')) :
    Calls Try.prog 51 #[.pointer (some ⟨L.d, 0, none⟩), .func (.func 52) #[] #[.pointer (some ⟨bx, 0, none⟩)]] w fun e w' => e = .returned (.tuple #[]) ∧ DevStep w L (m.settle ke) w' := by
  have hl := h.fits.len
  have hats := Lib.hid h.fits.at_
  obtain ⟨ao, cap, hv, hg⟩ := owns_form h.pe
  have c2 := h.c2
  rw [hv] at c2
  have hv := Lib.hid hv
  have hg := Lib.hid hg
  have hz := zeroWr
  have h := Lib.hid h
  go_enter Try.func51, Try.ntmps51
  go_wp2
  go_loopw [13] (fun i wr => ∃ k : Nat, k ≤ m.pending.length ∧ i = .int .i64 k ∧ Hid (MidAt wr L m (putAll m.stable (DevM.kept ke (m.pending.take k))) m.now) ∧ Hid (Kept L.foot w wr))
    (fun i _ => m.pending.length - (intOf i).toNat)
  case atStart => exact ⟨0, by omega, rfl, Lib.hid h.out.mid, Lib.hid (Kept.refl _ _)⟩
  case round =>
    obtain ⟨k, hk, rfl, hm, hkp⟩ := hrel
    clear c2
    by_cases hlt : k < m.pending.length
    · obtain ⟨g, rfl, hgo, hgl⟩ := hg.out (by omega)
      have r1 := Lib.hid (hm.out.peRange hv.out hlt)
      have hat := hats.out _ (List.getElem_mem hlt)
      have hst : (putAll m.stable (DevM.kept ke (m.pending.take k))).length = m.stable.length := putAll_length _ _
      have hA : ¬ L.foot wr.heap.size := fun e => by have := hm.out.lt _ e; omega
      have hA := Lib.hid hA
      have hst := Lib.hid hst
      have i1 : (m.pending[k].1 : Int) < (m.stable.length : Int) := by omega
      have i2 : (0 : Int) ≤ (m.pending[k].1 : Int) := by omega
      cases hke : ke k
      · go_wp2_with (first
          | (refine wpList_load_mid rfl 110 _ rfl g (k * 129) (by rfl) (wrL m.pending[k]) _ r1.out Try.underlying110 rfl (infoWrL _) ?_)
          | (refine wpList_store_blk rfl 110 _ _ rfl wr.heap.size 0 (by rfl) (wrL m.pending[k]) (by rfl) _ (wrL (0, sec0)) (wrL m.pending[k]) (Blk.new _ _ _) (by simp [wrL_length]) (wrL_one _) (infoWrL _) (whole_new (by simp [wrL_length])) ?_
             intro w1 hb1 k1 z1
             have hq1 := Lib.hid (((hkp.out.alloc (.cells (wrL (0, sec0)).toArray 110)).then k1 fun i hi e => by have := hkp.out.size; omega))
             have hm1 := Lib.hid ((hm.out.alloc (.cells (wrL (0, sec0)).toArray 110)).kept k1 fun i hi e => hA.out (e ▸ hi))
             have hb1 := Lib.hid hb1
             clear k1)
          | ((with_reducible refine (hcl.out k _ hlt hq1.out).mono ?_); rintro e w' ⟨rfl, rfl⟩; rw [hke]))
        go_roundw
        case rel => exact ⟨k + 1, by omega, by go_num, Lib.hid (by rw [kept_take _ _ _ hlt, hke]; simpa using hm1.out), hq1⟩
        case measure => simp [intOf] <;> omega
      · go_wp2_with (first
          | (refine wpList_load_mid rfl 110 _ rfl g (k * 129) (by rfl) (wrL m.pending[k]) _ r1.out Try.underlying110 rfl (infoWrL _) ?_)
          | (refine wpList_store_blk rfl 110 _ _ rfl wr.heap.size 0 (by rfl) (wrL m.pending[k]) (by rfl) _ (wrL (0, sec0)) (wrL m.pending[k]) (Blk.new _ _ _) (by simp [wrL_length]) (wrL_one _) (infoWrL _) (whole_new (by simp [wrL_length])) ?_
             intro w1 hb1 k1 z1
             have hq1 := Lib.hid (((hkp.out.alloc (.cells (wrL (0, sec0)).toArray 110)).then k1 fun i hi e => by have := hkp.out.size; omega))
             have hm1 := Lib.hid ((hm.out.alloc (.cells (wrL (0, sec0)).toArray 110)).kept k1 fun i hi e => hA.out (e ▸ hi))
             have hb1 := Lib.hid hb1
             clear k1)
          | ((with_reducible refine (hcl.out k _ hlt hq1.out).mono ?_); rintro e w' ⟨rfl, rfl⟩; rw [hke]))
        · have hst := hst.out
          refine inO_region [(3, fun w' => w'.cell? ⟨L.d, 0, none⟩ = some (.slice (some ⟨L.sb, 0, none⟩) m.stable.length m.stable.length)), (5, fun w' => w'.cell? ⟨wr.heap.size, 0, none⟩ = some (.int .i64 (m.pending[k].1 : Int))), (7, fun w' => w'.rangeAt (wr.heap.size) (1) (secL m.pending[k].2))] (by kernel_rfl) (Owed.cons (hm1.out.c0) (Owed.cons (((hb1.out.drew.cell 0).trans rfl)) (Owed.cons ((hb1.out.drew.range fun j v hv => by rw [Nat.add_comm, wrL, List.getElem?_cons_succ]; exact hv)) (Owed.nil _ _)))) ?_
          refine inO_take 0 ⟨_, _, _, _, _, _⟩ (.pointer (some ⟨L.d, 0, none⟩)) rfl (by kernel_rfl) (by kernel_rfl) (by kernel_rfl) (fun _ _ _ h => h) rfl (fun ww => exec_move (by rfl) (by rfl) ww) ?_
          simp only [Act.put, List.setIfInBounds_toArray, List.set_cons_zero, List.set_cons_succ]
          refine inO_take 1 ⟨_, _, _, _, _, _⟩ (.pointer (some ⟨L.d, 0, none⟩)) rfl (by kernel_rfl) (by kernel_rfl) (by kernel_rfl) (fun _ _ _ h => h) rfl (fun ww => exec_nilCheck (by rfl) (by rfl) ww) ?_
          simp only [Act.put, List.setIfInBounds_toArray, List.set_cons_zero, List.set_cons_succ]
          refine inO_take 2 ⟨_, _, _, _, _, _⟩ (.pointer (some ⟨L.d, 0, none⟩)) rfl (by kernel_rfl) (by kernel_rfl) (by kernel_rfl) (fun _ _ _ h => h) rfl (fun ww => by go_simp) ?_
          simp only [Act.put, List.setIfInBounds_toArray, List.set_cons_zero, List.set_cons_succ]
          refine inO_load 3 ⟨_, _, _, _, _, _⟩ (.slice (some ⟨L.sb, 0, none⟩) m.stable.length m.stable.length) (fun w' => w'.cell? ⟨L.d, 0, none⟩ = some (.slice (some ⟨L.sb, 0, none⟩) m.stable.length m.stable.length)) rfl (by kernel_rfl) (by kernel_rfl) (by kernel_rfl) (fun _ _ _ h => h) rfl (.head _) (fun ww hw => by go_simp) ?_
          simp only [Act.put, List.setIfInBounds_toArray, List.set_cons_zero, List.set_cons_succ]
          refine inO_take 4 ⟨_, _, _, _, _, _⟩ (.pointer (some ⟨wr.heap.size, 0, none⟩)) rfl (by kernel_rfl) (by kernel_rfl) (by kernel_rfl) (fun _ _ _ h => h) rfl (fun ww => by go_simp) ?_
          simp only [Act.put, List.setIfInBounds_toArray, List.set_cons_zero, List.set_cons_succ]
          refine inO_load 5 ⟨_, _, _, _, _, _⟩ (.int .i64 (m.pending[k].1 : Int)) (fun w' => w'.cell? ⟨wr.heap.size, 0, none⟩ = some (.int .i64 (m.pending[k].1 : Int))) rfl (by kernel_rfl) (by kernel_rfl) (by kernel_rfl) (fun _ _ _ h => h) rfl (.tail _ (.head _)) (fun ww hw => by go_simp) ?_
          simp only [Act.put, List.setIfInBounds_toArray, List.set_cons_zero, List.set_cons_succ]
          refine inO_take 6 ⟨_, _, _, _, _, _⟩ (.pointer (some ⟨wr.heap.size, 1, none⟩)) rfl (by kernel_rfl) (by kernel_rfl) (by kernel_rfl) (fun _ _ _ h => h) rfl (fun ww => by go_simp) ?_
          simp only [Act.put, List.setIfInBounds_toArray, List.set_cons_zero, List.set_cons_succ]
          refine inO_load 7 ⟨_, _, _, _, _, _⟩ (.agg (secL m.pending[k].2).toArray) (fun w' => w'.rangeAt (wr.heap.size) (1) (secL m.pending[k].2)) rfl (by kernel_rfl) (by kernel_rfl) (by kernel_rfl) (fun _ _ _ h => h) rfl (.tail _ (.tail _ (.head _))) (fun ww hw => exec_load_mid _ _ (by rfl) _ _ (by rfl) _ _ hw Try.underlying34 rfl (infoSecL _)) ?_
          simp only [Act.put, List.setIfInBounds_toArray, List.set_cons_zero, List.set_cons_succ]
          refine inO_take 8 ⟨_, _, _, _, _, _⟩ (.pointer (some ⟨L.sb, m.pending[k].1 * 128, none⟩)) rfl (by kernel_rfl) (by kernel_rfl) (by kernel_rfl) (fun _ _ _ h => h) rfl (fun ww => by go_simp) ?_
          simp only [Act.put, List.setIfInBounds_toArray, List.set_cons_zero, List.set_cons_succ]
          refine inO_step 9 ⟨_, _, _, _, _, _⟩ rfl (by kernel_rfl) rfl (fun K hK => ?_)
          refine wp_store_blk 34 _ _ rfl L.sb (m.pending[k].1 * 128) rfl (secL m.pending[k].2) rfl _ (rowsL secL (putAll m.stable (DevM.kept ke (m.pending.take k)))) (rowsL secL ((putAll m.stable (DevM.kept ke (m.pending.take k))).set m.pending[k].1 m.pending[k].2)) hm1.out.st.drew (by rw [rowsL_length secL_length, secL_length, hst]; omega) (secL_one _) (infoSecL _) (by rw [rowsL_set secL_length _ _ (by rw [hst]; exact hat), secL_length]) ?_
          intro w2 hb2 k2 z2
          refine hK _ _ (Keeps.late (by kernel_rfl) (Keeps.late (by kernel_rfl) (Keeps.late (by kernel_rfl) (Keeps.nil _ _ _)))) ?_
          clear hK K
          simp only [Act.put]
          refine inO_done (by kernel_rfl) ?_
          have hst := Lib.hid hst
          go_wp2
          go_roundw
          case rel => exact ⟨k + 1, by omega, by go_num, Lib.hid (by rw [kept_take _ _ _ hlt, hke, if_pos rfl, putAll_snoc]; exact hm1.out.drew.putSt (List.length_set ..) hb2 k2), Lib.hid (hq1.out.drew.then k2 fun i _ e => .inr (.inl e))⟩
          case measure => simp [intOf] <;> omega
    · obtain rfl : k = m.pending.length := by omega
      rw [List.take_length] at hm
      obtain ⟨st', hst'⟩ : ∃ st' : List Sec, Hid (st' = putAll m.stable (DevM.kept ke m.pending)) := ⟨_, Lib.hid rfl⟩
      rw [← hst'.out] at hm
      have hst : Hid (st'.length = m.stable.length) := Lib.hid (by rw [hst'.out]; exact putAll_length _ _)
      have c2 := hm.out.c2
      rw [hv.out] at c2
      go_wp2
      go_loopw [36] (fun i wr => ∃ k : Nat, k ≤ m.pending.length ∧ i = .int .i64 k ∧ Hid (MidAt wr L m st' (back m.now st' (m.pending.take k))) ∧ Hid (Kept L.foot w wr))
        (fun i _ => m.pending.length - (intOf i).toNat)
      case atStart => exact ⟨0, by omega, rfl, hm, hkp⟩
      case round =>
        clear hm hkp c2
        obtain ⟨k, hk, rfl, hm, hkp⟩ := hrel
        by_cases hlt : k < m.pending.length
        · obtain ⟨g, rfl, hgo, hgl⟩ := hg.out (by omega)
          have r1 := Lib.hid (hm.out.peRange hv.out hlt)
          have hat := hats.out _ (List.getElem_mem hlt)
          have hns : Hid ((back m.now st' (m.pending.take k)).length = m.stable.length) := Lib.hid (by rw [back_length, DevM.now_length])
          have hA : ¬ L.foot wr.heap.size := fun e => by have := hm.out.lt _ e; omega
          have hA := Lib.hid hA
          obtain ⟨y, hy⟩ : ∃ y : Sec, Hid (y = st'[m.pending[k].1]'(by rw [hst.out]; exact hat)) := ⟨_, Lib.hid rfl⟩
          have i1 : (m.pending[k].1 : Int) < (m.stable.length : Int) := by omega
          have i2 : (0 : Int) ≤ (m.pending[k].1 : Int) := by omega
          go_wp2_with (first
            | (refine wpList_load_mid rfl 110 _ rfl g (k * 129) (by rfl) (wrL m.pending[k]) _ r1.out Try.underlying110 rfl (infoWrL _) ?_)
            | (refine wpList_store_blk rfl 110 _ _ rfl wr.heap.size 0 (by rfl) (wrL m.pending[k]) (by rfl) _ (wrL (0, sec0)) (wrL m.pending[k]) (Blk.new _ _ _) (by simp [wrL_length]) (wrL_one _) (infoWrL _) (whole_new (by simp [wrL_length])) ?_
               intro w1 hb1 k1 z1
               have hq1 := Lib.hid (((hkp.out.alloc (.cells (wrL (0, sec0)).toArray 110)).then k1 fun i hi e => by have := hkp.out.size; omega))
               have hm1 := Lib.hid ((hm.out.alloc (.cells (wrL (0, sec0)).toArray 110)).kept k1 fun i hi e => hA.out (e ▸ hi))
               have hb1 := Lib.hid hb1
               clear k1))
          refine inO_region [(3, fun w' => w'.cell? ⟨L.d, 1, none⟩ = some (.slice (some ⟨L.nb, 0, none⟩) m.stable.length m.stable.length)), (5, fun w' => w'.cell? ⟨wr.heap.size, 0, none⟩ = some (.int .i64 (m.pending[k].1 : Int))), (9, fun w' => w'.cell? ⟨L.d, 0, none⟩ = some (.slice (some ⟨L.sb, 0, none⟩) m.stable.length m.stable.length)), (11, fun w' => w'.cell? ⟨wr.heap.size, 0, none⟩ = some (.int .i64 (m.pending[k].1 : Int))), (13, fun w' => w'.rangeAt (L.sb) (m.pending[k].1 * 128) (secL y))] (by kernel_rfl) (Owed.cons (hm1.out.c1) (Owed.cons (((hb1.out.drew.cell 0).trans rfl)) (Owed.cons (hm1.out.c0) (Owed.cons (((hb1.out.drew.cell 0).trans rfl)) (Owed.cons ((by rw [hy.out]; exact hm1.out.drew.stRange (by rw [hst.out]; exact hat))) (Owed.nil _ _)))))) ?_
          refine inO_take 0 ⟨_, _, _, _, _, _⟩ (.pointer (some ⟨L.d, 0, none⟩)) rfl (by kernel_rfl) (by kernel_rfl) (by kernel_rfl) (fun _ _ _ h => h) rfl (fun ww => exec_move (by rfl) (by rfl) ww) ?_
          simp only [Act.put, List.setIfInBounds_toArray, List.set_cons_zero, List.set_cons_succ]
          refine inO_take 1 ⟨_, _, _, _, _, _⟩ (.pointer (some ⟨L.d, 0, none⟩)) rfl (by kernel_rfl) (by kernel_rfl) (by kernel_rfl) (fun _ _ _ h => h) rfl (fun ww => exec_nilCheck (by rfl) (by rfl) ww) ?_
          simp only [Act.put, List.setIfInBounds_toArray, List.set_cons_zero, List.set_cons_succ]
          refine inO_take 2 ⟨_, _, _, _, _, _⟩ (.pointer (some ⟨L.d, 1, none⟩)) rfl (by kernel_rfl) (by kernel_rfl) (by kernel_rfl) (fun _ _ _ h => h) rfl (fun ww => by go_simp) ?_
          simp only [Act.put, List.setIfInBounds_toArray, List.set_cons_zero, List.set_cons_succ]
          refine inO_load 3 ⟨_, _, _, _, _, _⟩ (.slice (some ⟨L.nb, 0, none⟩) m.stable.length m.stable.length) (fun w' => w'.cell? ⟨L.d, 1, none⟩ = some (.slice (some ⟨L.nb, 0, none⟩) m.stable.length m.stable.length)) rfl (by kernel_rfl) (by kernel_rfl) (by kernel_rfl) (fun _ _ _ h => h) rfl (.head _) (fun ww hw => by go_simp) ?_
          simp only [Act.put, List.setIfInBounds_toArray, List.set_cons_zero, List.set_cons_succ]
          refine inO_take 4 ⟨_, _, _, _, _, _⟩ (.pointer (some ⟨wr.heap.size, 0, none⟩)) rfl (by kernel_rfl) (by kernel_rfl) (by kernel_rfl) (fun _ _ _ h => h) rfl (fun ww => by go_simp) ?_
          simp only [Act.put, List.setIfInBounds_toArray, List.set_cons_zero, List.set_cons_succ]
          refine inO_load 5 ⟨_, _, _, _, _, _⟩ (.int .i64 (m.pending[k].1 : Int)) (fun w' => w'.cell? ⟨wr.heap.size, 0, none⟩ = some (.int .i64 (m.pending[k].1 : Int))) rfl (by kernel_rfl) (by kernel_rfl) (by kernel_rfl) (fun _ _ _ h => h) rfl (.tail _ (.head _)) (fun ww hw => by go_simp) ?_
          simp only [Act.put, List.setIfInBounds_toArray, List.set_cons_zero, List.set_cons_succ]
          refine inO_take 6 ⟨_, _, _, _, _, _⟩ (.pointer (some ⟨L.d, 0, none⟩)) rfl (by kernel_rfl) (by kernel_rfl) (by kernel_rfl) (fun _ _ _ h => h) rfl (fun ww => exec_move (by rfl) (by rfl) ww) ?_
          simp only [Act.put, List.setIfInBounds_toArray, List.set_cons_zero, List.set_cons_succ]
          refine inO_take 7 ⟨_, _, _, _, _, _⟩ (.pointer (some ⟨L.d, 0, none⟩)) rfl (by kernel_rfl) (by kernel_rfl) (by kernel_rfl) (fun _ _ _ h => h) rfl (fun ww => exec_nilCheck (by rfl) (by rfl) ww) ?_
          simp only [Act.put, List.setIfInBounds_toArray, List.set_cons_zero, List.set_cons_succ]
          refine inO_take 8 ⟨_, _, _, _, _, _⟩ (.pointer (some ⟨L.d, 0, none⟩)) rfl (by kernel_rfl) (by kernel_rfl) (by kernel_rfl) (fun _ _ _ h => h) rfl (fun ww => by go_simp) ?_
          simp only [Act.put, List.setIfInBounds_toArray, List.set_cons_zero, List.set_cons_succ]
          refine inO_load 9 ⟨_, _, _, _, _, _⟩ (.slice (some ⟨L.sb, 0, none⟩) m.stable.length m.stable.length) (fun w' => w'.cell? ⟨L.d, 0, none⟩ = some (.slice (some ⟨L.sb, 0, none⟩) m.stable.length m.stable.length)) rfl (by kernel_rfl) (by kernel_rfl) (by kernel_rfl) (fun _ _ _ h => h) rfl (.tail _ (.tail _ (.head _))) (fun ww hw => by go_simp) ?_
          simp only [Act.put, List.setIfInBounds_toArray, List.set_cons_zero, List.set_cons_succ]
          refine inO_take 10 ⟨_, _, _, _, _, _⟩ (.pointer (some ⟨wr.heap.size, 0, none⟩)) rfl (by kernel_rfl) (by kernel_rfl) (by kernel_rfl) (fun _ _ _ h => h) rfl (fun ww => by go_simp) ?_
          simp only [Act.put, List.setIfInBounds_toArray, List.set_cons_zero, List.set_cons_succ]
          refine inO_load 11 ⟨_, _, _, _, _, _⟩ (.int .i64 (m.pending[k].1 : Int)) (fun w' => w'.cell? ⟨wr.heap.size, 0, none⟩ = some (.int .i64 (m.pending[k].1 : Int))) rfl (by kernel_rfl) (by kernel_rfl) (by kernel_rfl) (fun _ _ _ h => h) rfl (.tail _ (.tail _ (.tail _ (.head _)))) (fun ww hw => by go_simp) ?_
          simp only [Act.put, List.setIfInBounds_toArray, List.set_cons_zero, List.set_cons_succ]
          refine inO_take 12 ⟨_, _, _, _, _, _⟩ (.pointer (some ⟨L.sb, m.pending[k].1 * 128, none⟩)) rfl (by kernel_rfl) (by kernel_rfl) (by kernel_rfl) (fun _ _ _ h => h) rfl (fun ww => by go_simp) ?_
          simp only [Act.put, List.setIfInBounds_toArray, List.set_cons_zero, List.set_cons_succ]
          refine inO_load 13 ⟨_, _, _, _, _, _⟩ (.agg (secL y).toArray) (fun w' => w'.rangeAt (L.sb) (m.pending[k].1 * 128) (secL y)) rfl (by kernel_rfl) (by kernel_rfl) (by kernel_rfl) (fun _ _ _ h => h) rfl (.tail _ (.tail _ (.tail _ (.tail _ (.head _))))) (fun ww hw => exec_load_mid _ _ (by rfl) _ _ (by rfl) _ _ hw Try.underlying34 rfl (infoSecL _)) ?_
          simp only [Act.put, List.setIfInBounds_toArray, List.set_cons_zero, List.set_cons_succ]
          refine inO_take 14 ⟨_, _, _, _, _, _⟩ (.pointer (some ⟨L.nb, m.pending[k].1 * 128, none⟩)) rfl (by kernel_rfl) (by kernel_rfl) (by kernel_rfl) (fun _ _ _ h => h) rfl (fun ww => by go_simp) ?_
          simp only [Act.put, List.setIfInBounds_toArray, List.set_cons_zero, List.set_cons_succ]
          refine inO_step 15 ⟨_, _, _, _, _, _⟩ rfl (by kernel_rfl) rfl (fun K hK => ?_)
          refine wp_store_blk 34 _ _ rfl L.nb (m.pending[k].1 * 128) rfl (secL y) rfl _ (rowsL secL (back m.now st' (m.pending.take k))) (rowsL secL ((back m.now st' (m.pending.take k)).set m.pending[k].1 y)) hm1.out.nw.drew (by rw [rowsL_length secL_length, secL_length, hns.out]; omega) (secL_one _) (infoSecL _) (by rw [rowsL_set secL_length _ _ (by rw [hns.out]; exact hat), secL_length]) ?_
          intro w2 hb2 k2 z2
          refine hK _ _ (Keeps.late (by kernel_rfl) (Keeps.late (by kernel_rfl) (Keeps.late (by kernel_rfl) (Keeps.late (by kernel_rfl) (Keeps.late (by kernel_rfl) (Keeps.nil _ _ _)))))) ?_
          clear hK K
          simp only [Act.put]
          refine inO_done (by kernel_rfl) ?_
          go_wp2
          go_roundw
          case rel => exact ⟨k + 1, by omega, by go_num, Lib.hid (by
                have e1 : st'.getD m.pending[k].1 sec0 = y := by rw [hy.out]; simp [hst.out, hat]
                rw [back_take _ _ _ _ hlt, e1]; exact hm1.out.drew.putNw (List.length_set ..) hb2 k2), Lib.hid (hq1.out.drew.then k2 fun i _ e => .inr (.inr (.inl e)))⟩
          case measure => simp [intOf] <;> omega
        · obtain rfl : k = m.pending.length := by omega
          rw [List.take_length] at hm
          have hba : back m.now st' m.pending = st' := by rw [hst'.out]; exact back_all m ke
          rw [hba] at hm
          clear hba
          have c2 := hm.out.c2
          have f2 := hm.out.fz 2
          go_wp2
          go_end0
          refine ⟨rfl, .slice none 0 0, ?_, hkp.out.then (Kept.cellAt wr _ _ _) fun i _ e => .inl e, .inr (.inl rfl)⟩
          have hsl : (m.settle ke).stable.length = m.stable.length := putAll_length _ _
          refine ⟨?_, ?_, ?_, World.ownsRow_nil _ _ _ _, hm.out.ne, ?_⟩
          · have := hm.out.base.set 2 (.slice none 0 0)
            rw [hsl]
            exact this
          · have := hm.out.st.far (p := ⟨L.d, 2, none⟩) hm.out.ds.symm (.slice none 0 0)
            rw [hst'.out] at this
            exact this
          · have := hm.out.nw.far (p := ⟨L.d, 2, none⟩) hm.out.dn.symm (.slice none 0 0)
            rw [hst'.out] at this
            exact this
          · have hf := h.out.fits
            exact ⟨hf.ops, hf.left, by rw [hsl]; exact hf.len, fun p hp => by cases hp⟩

end Go.Proofs.Ytfblehdeoloijaa

/- A device: Flush, Crash. -/
namespace Go.Proofs.Ytfblehdeoloijaa
open Go.ChangeShapes Go.WideShapes Go.ChangeAt Go.RowKit
set_option linter.unusedVariables false
set_option maxRecDepth 20000

theorem all_true (j : Nat) (w : World) : Calls Try.prog 69 #[.int .i64 (j : Int)] w fun e w' => e = .returned (.bool true) ∧ w = w' := by
  go_enter Try.func69, Try.ntmps69
  go_wp2
  go_ret
  exact ⟨rfl, rfl⟩

/-- a slice of bools reads so -/
def boolsV (bs : List Bool) : List Value := bs.map Value.bool
theorem boolsV_length (bs : List Bool) : (boolsV bs).length = bs.length := by simp [boolsV]
theorem boolsV_one (bs : List Bool) : ∀ u ∈ boolsV bs, u.oneCell' = true := by
  intro u hu
  simp only [boolsV, List.mem_map] at hu
  obtain ⟨b, _, rfl⟩ := hu
  rfl
theorem Reads.bool {w : World} {ao : Option Addr} {bs : List Bool} (h : Reads w ao (boolsV bs)) {k : Nat} (hk : k < bs.length) : ∃ b off, ao = some ⟨b, off, none⟩ ∧ w.cell? ⟨b, off + k, none⟩ = some (.bool bs[k]) ∧ b < w.heap.size := by
  obtain ⟨b, off, e, c, hb⟩ := Reads.at h (k := k) (by rw [boolsV_length]; exact hk)
  exact ⟨b, off, e, by rw [c]; simp [boolsV], hb⟩
theorem Reads.keptF {F : Nat → Prop} {w w' : World} {ao : Option Addr} {cs : List Value} (h : Reads w ao cs) (k : Kept F w w') (hn : ∀ a, ao = some a → ¬ F a.block) : Reads w' ao cs :=
  h.keep fun p hp ⟨a, e, he⟩ => k.cell hp (by rw [he]; exact hn a e)

theorem keeps_any (j : Nat) (bx : Nat) (ao : Option Addr) (cap : Nat) (bs : List Bool) (hj : j ≤ 1000000000) (hbl : bs.length ≤ 9223372036854775807) (w : World) (hb : w.cell? ⟨bx, 0, none⟩ = some (.slice ao bs.length cap)) (hr : Reads w ao (boolsV bs)) :
    Calls Try.prog 52 #[.int .i64 (j : Int), .pointer (some ⟨bx, 0, none⟩)] w fun e w' => e = .returned (.bool (bs.getD j false)) ∧ w = w' := by
  by_cases hlt : j < bs.length
  · obtain ⟨b, off, rfl, hc, hbb⟩ := hr.bool hlt
    have h0 : (0 : Int) ≤ (j : Int) := by omega
    have h1 : (j : Int) < (bs.length : Int) := by omega
    have hg : bs.getD j false = bs[j] := by simp [hlt]
    have hg := Lib.hid hg
    have hr := Lib.hid hr
    go_enter Try.func52, Try.ntmps52
    go_wp2
    go_ret
    exact ⟨by rw [hg.out]; rfl, rfl⟩
  · have hg : bs.getD j false = false := by simp [hlt]
    have hg := Lib.hid hg
    have hr := Lib.hid hr
    go_enter Try.func52, Try.ntmps52
    go_wp2
    go_ret
    exact ⟨by rw [hg.out]; rfl, rfl⟩

theorem Flush_any (L : DevL) (m : DevM) (w : World) (h : DevAt w L m) (hp : m.pending.length ≤ 1000000000) :
    Calls Try.prog 47 #[.pointer (some ⟨L.d, 0, none⟩)] w fun e w' => e = .returned (.int .i64 m.flush.2) ∧ DevStep w L m.flush.1 w' := by
  have h := Lib.hid h
  have hp2 : Hid (m.tick.spend.pending.length ≤ 1000000000) := Lib.hid (by rw [DevM.spend_pending]; exact hp)
  have hl : m.tick.lasts = m.lasts := rfl
  cases hla : m.lasts
  · rw [hla] at hl
    go_enter Try.func47, Try.ntmps47
    go_wp2_with (first
      | ((with_reducible refine (count_any L m _ h.out).mono ?_)
         rintro e w1 ⟨rfl, h1, k1, z1⟩
         have h1 := Lib.hid h1
         have k1 := Lib.hid k1)
      | ((with_reducible refine (lasts_any L m.tick _ h1.out).mono ?_)
         rintro e w2 ⟨rfl, h2, k2, z2⟩
         rw [hl]
         have h2 := Lib.hid h2
         have k2 := Lib.hid k2))
    go_ret
    have e1 : m.flush = (m.tick.spend, 42) := by simp [DevM.flush, hla]
    rw [e1]
    exact ⟨rfl, DevStep.of h2.out (k1.out.trans k2.out) (fun i e => .inl e)⟩
  · rw [hla] at hl
    go_enter Try.func47, Try.ntmps47
    go_wp2_with (first
      | ((with_reducible refine (count_any L m _ h.out).mono ?_)
         rintro e w1 ⟨rfl, h1, k1, z1⟩
         have h1 := Lib.hid h1
         have k1 := Lib.hid k1)
      | ((with_reducible refine (lasts_any L m.tick _ h1.out).mono ?_)
         rintro e w2 ⟨rfl, h2, k2, z2⟩
         rw [hl]
         have h2 := Lib.hid h2
         have k2 := Lib.hid k2)
      | ((with_reducible refine (settle_all L m.tick.spend (fun _ => true) _ h2.out hp2.out (Lib.hid (fun j w' _ _ => all_true j w'))).mono ?_)
         rintro e w3 ⟨rfl, h3⟩
         have h3 := Lib.hid h3))
    go_ret
    have e1 : m.flush = ((m.tick.spend).settle (fun _ => true), 0) := by simp [DevM.flush, hla]
    rw [e1]
    obtain ⟨pv', q1, q2, q3⟩ := h3.out
    refine ⟨rfl, pv', q1, ((k1.out.trans k2.out).mono fun i _ e => .inl e).trans q2, ?_⟩
    rcases q3 with q3 | q3 | ⟨g, q3, q4⟩
    · exact .inl q3
    · exact .inr (.inl q3)
    · exact .inr (.inr ⟨g, q3, by omega⟩)

theorem Crash_any (L : DevL) (m : DevM) (ao : Option Addr) (cap : Nat) (bs : List Bool) (w : World) (h : DevAt w L m) (hp : m.pending.length ≤ 1000000000) (hbl : bs.length ≤ 9223372036854775807) (hr : Reads w ao (boolsV bs)) (hn : bs ≠ [] → ∀ a, ao = some a → ¬ L.foot a.block) :
    Calls Try.prog 23 #[.pointer (some ⟨L.d, 0, none⟩), .slice ao bs.length cap] w fun e w' => e = .returned (.tuple #[]) ∧ DevStep w L (m.crash bs) w' := by
  have hbx : ¬ L.foot w.heap.size := fun e => by have := h.lt _ e; omega
  have hk := Lib.hid (fun (j : Nat) (w' : World) (hj : j < m.pending.length) (k : Kept L.foot (w.alloc (.cells #[.slice ao bs.length cap] 49)) w') =>
    keeps_any j w.heap.size ao cap bs (by omega) hbl w' (by
      rw [k.cell (p := ⟨w.heap.size, 0, none⟩) (by simp) hbx]
      exact (Blk.newA w 49 #[.slice ao bs.length cap]).cell 0) (by
      by_cases hb : bs = []
      · subst hb; exact Reads.nil _ _
      · exact Reads.keptF (hr.alloc _) k (hn hb)))
  have h := Lib.hid h
  have hr := Lib.hid hr
  have hn := Lib.hid hn
  have hlt := h.out.base.lt
  go_enter Try.func23, Try.ntmps23
  go_wp2_with (first
    | ((with_reducible refine (settle_keep L m (fun j => bs.getD j false) _ w.heap.size (h.out.alloc _) hp hk).mono ?_)
       rintro e w3 ⟨rfl, pv', h3, k3, o3⟩
       have c4 := h3.c4
       have c5 := h3.c5
       have f4 := h3.fz 4
       have f5 := h3.fz 5
       have h3 := Lib.hid h3
       have k3 := Lib.hid k3
       have o3 := Lib.hid o3))
  go_end0
  refine ⟨rfl, pv', ?_, ((Kept.of_alloc L.foot w _).trans k3.out).then (((Kept.cellAt w3 L.d 4 (.int .i64 (-1)))).trans (Kept.cellAt _ L.d 5 (.bool false))) fun i _ e => .inl e, ?_⟩
  · exact (h3.out.setLeft _ _ w3 (-1) (by omega)).setDead _ _ _ false
  · rcases o3.out with q3 | q3 | ⟨g, q3, q4⟩
    · exact .inl q3
    · exact .inr (.inl q3)
    · exact .inr (.inr ⟨g, q3, by simp at q4; omega⟩)
end Go.Proofs.Ytfblehdeoloijaa

/- A device: what Rot needs: a store into a row of the call's own; plain facts. -/
namespace Go.Proofs.Ytfblehdeoloijaa
open Go.ChangeShapes Go.WideShapes Go.ChangeAt Go.RowKit
set_option linter.unusedVariables false
set_option maxRecDepth 20000

section
variable {P : Program} {o : Oper} {a : Act} {w : World} {K : Act → World → Prop} {Q : Exit → Act → World → Prop}
/-- a store of some cells into an owned row -/
theorem wp_store_own (ty : TypeId) (x y : Operand) (ho : o.op = .store ty x y) (g off n cap base size : Nat) (e : TypeId) (xs new : List Value) (hx : a.eval x = .pointer (some ⟨g, off, none⟩)) (vs : List Value) (hy : a.eval y = .agg vs.toArray)
    (hown : w.ownsRow base e size (.slice (some ⟨g, 0, none⟩) n cap) n xs) (hl : off + vs.length ≤ n * size) (h1 : ∀ v ∈ vs, v.oneCell' = true) (hi : (P.info? ty).map (·.size) = some vs.length) (hnew : new = xs.take off ++ vs ++ xs.drop (off + vs.length))
    (h : ∀ w', w'.ownsRow base e size (.slice (some ⟨g, 0, none⟩) n cap) n new → Kept (· = g) w w' → K (a.put o.dst undef) w') : o.wp P a w K Q := by
  obtain ⟨hxl, h0 | ⟨g', cap', cur, hv, hb, hh, hnc, hcm, hcs, htk⟩⟩ := hown
  · obtain ⟨h0, rfl⟩ := h0
    cases h0
  · injection hv with hv1 hv2 hv3
    injection hv1 with hv1
    injection hv1 with hv1 _ _
    subst hv1 hv3
    have hB : Blk w g e cur.toList := by unfold Blk; simpa using hh
    have hcl : n * size ≤ cur.toList.length := by
      have : n * size ≤ cap * size := Nat.mul_le_mul_right _ hnc
      simp; omega
    refine wp_store_blk ty x y ho g off hx vs hy e cur.toList _ hB (by omega) h1 hi rfl fun w' hb' hk' _ => h w' ⟨?_, .inr ⟨g, cap, (cur.toList.take off ++ vs ++ cur.toList.drop (off + vs.length)).toArray, rfl, hb, hb', hnc, hcm, ?_, ?_⟩⟩ hk'
    · rw [hnew]
      simp
      omega
    · simp
      simp at hcl
      omega
    · rw [hnew, ← htk]
      simp only [List.append_assoc]
      rw [List.take_append, List.take_append]
      simp only [List.length_take, List.take_take, List.drop_take]
      rw [Nat.min_eq_left (by omega : off ≤ cur.toList.length), Nat.min_eq_right (by omega : off ≤ n * size), Nat.min_eq_left (by omega : off ≤ n * size)]
      congr 2
      · rw [List.take_of_length_le (by omega)]
      · congr 1; omega
end

/-- the pending writes of which the first k have rotten -/
def rotTo (p : List (Nat × Sec)) (i : Nat) (s : Sec) (k : Nat) : List (Nat × Sec) := ((p.take k).map fun x => (x.1, if x.1 = i then s else x.2)) ++ p.drop k
theorem rotTo_zero (p : List (Nat × Sec)) (i : Nat) (s : Sec) : rotTo p i s 0 = p := by simp [rotTo]
theorem rotTo_length (p : List (Nat × Sec)) (i : Nat) (s : Sec) (k : Nat) : (rotTo p i s k).length = p.length := by simp [rotTo]; omega
theorem rotTo_all (p : List (Nat × Sec)) (i : Nat) (s : Sec) : rotTo p i s p.length = p.map fun x => (x.1, if x.1 = i then s else x.2) := by simp [rotTo]
theorem rotTo_at (p : List (Nat × Sec)) (i : Nat) (s : Sec) (k : Nat) (h : k < p.length) : (rotTo p i s k)[k]'(by rw [rotTo_length]; exact h) = p[k] := by
  simp [rotTo, List.getElem_append_right, Nat.min_eq_left (Nat.le_of_lt h)]
theorem rotTo_succ (p : List (Nat × Sec)) (i : Nat) (s : Sec) (k : Nat) (h : k < p.length) : rotTo p i s (k + 1) = (rotTo p i s k).set k (p[k].1, if p[k].1 = i then s else p[k].2) := by
  unfold rotTo
  have hk : k - ((p.take k).map fun x => (x.1, if x.1 = i then s else x.2)).length = 0 := by simp; omega
  rw [List.take_succ_eq_append_getElem h, List.map_append, List.append_assoc, List.set_append_right _ _ (by simp; omega), hk, List.drop_eq_getElem_cons h, List.set_cons_zero]
  rfl
theorem rotTo_pass (p : List (Nat × Sec)) (i : Nat) (s : Sec) (k : Nat) (h : k < p.length) (hn : p[k].1 ≠ i) : rotTo p i s (k + 1) = rotTo p i s k := by
  rw [rotTo_succ p i s k h, if_neg hn]
  have : rotTo p i s k = (rotTo p i s k).set k ((rotTo p i s k)[k]'(by rw [rotTo_length]; exact h)) := by simp
  rw [rotTo_at p i s k h] at this
  exact this.symm
theorem rot_now (l : List Sec) (p : List (Nat × Sec)) (i : Nat) (s : Sec) : putAll (l.set i s) (p.map fun x => (x.1, if x.1 = i then s else x.2)) = (putAll l p).set i s := by
  induction p generalizing l with
  | nil => rfl
  | cons x r ih =>
    rw [List.map_cons, putAll_cons, putAll_cons, ← ih]
    congr 1
    by_cases e : x.1 = i
    · subst e; simp
    · simp [e, List.set_comm _ _ (fun h => e h.symm)]
/-- one pending write's sector is another one -/
theorem wr_splice (ps : List (Nat × Sec)) (k : Nat) (h : k < ps.length) (s : Sec) : rowsL wrL (ps.set k (ps[k].1, s)) = (rowsL wrL ps).take (k * 129 + 1) ++ secL s ++ (rowsL wrL ps).drop (k * 129 + 1 + (secL s).length) := by
  have hl : k * 129 < (rowsL wrL ps).length := by rw [rowsL_length wrL_length]; omega
  have h0 : (rowsL wrL ps)[k * 129] = .int .i64 (ps[k].1 : Int) := by
    have := rowsL_at wrL_length ps k h 0 (.int .i64 (ps[k].1 : Int)) rfl
    rw [Nat.add_zero, List.getElem?_eq_getElem hl] at this
    exact Option.some.inj this
  rw [rowsL_set wrL_length ps k h, List.take_succ_eq_append_getElem hl, h0, secL_length]
  simp [wrL, Nat.add_assoc]

theorem MidAt.putPe {w w' : World} {L : DevL} {m : DevM} {ss ns : List Sec} {g n cap : Nat} (h : MidAt w L m ss ns) (hv : L.pv = .slice (some ⟨g, 0, none⟩) n cap) {p' : List (Nat × Sec)} (hl : p'.length = m.pending.length)
    (ho : w'.ownsRow 0 110 129 L.pv m.pending.length (rowsL wrL p')) (k : Kept (· = g) w w') : MidAt w' L { m with pending := p' } ss ns := by
  have hg : L.pv.ownBlock = some g := by rw [hv]; rfl
  refine ⟨h.base.kept k (fun e => h.dp (by rw [hg, e])), h.st.kept k (fun e => h.sp (by rw [hg, e])), h.nw.kept k (fun e => h.np (by rw [hg, e])), ?_, h.ne, h.sl, h.nl⟩
  show w'.ownsRow 0 110 129 L.pv p'.length (rowsL wrL p')
  rw [hl]
  exact ho
end Go.Proofs.Ytfblehdeoloijaa

/- A device: Rot. -/
namespace Go.Proofs.Ytfblehdeoloijaa
open Go.ChangeShapes Go.WideShapes Go.ChangeAt Go.RowKit
set_option linter.unusedVariables false
set_option maxRecDepth 20000

set_option maxRecDepth 100000 in
set_option maxHeartbeats 4000000 in
theorem Rot_in (L : DevL) (m : DevM) (i : Nat) (s : Sec) (w : World) (h : DevAt w L m) (hi : i < m.stable.length) (hp : m.pending.length ≤ 1000000000) :
    Calls Try.prog 32 #[.pointer (some ⟨L.d, 0, none⟩), .int .i64 (i : Int), .agg (secL s).toArray] w fun e w' => e = .returned (.int .i64 0) ∧
      DevStep w L { m with stable := m.stable.set i s, pending := m.pending.map fun x => (x.1, if x.1 = i then s else x.2) } w' := by
  have hl := h.fits.len
  have hh : m.has (i : Int) = true := by simp [DevM.has]; omega
  have i1 : (i : Int) < (m.stable.length : Int) := by omega
  have i2 : (0 : Int) ≤ (i : Int) := by omega
  obtain ⟨ao, cap, hv, hg⟩ := owns_form h.pe
  have hv := Lib.hid hv
  have hg := Lib.hid hg
  have hbx : ¬ L.foot w.heap.size := fun e => by have := h.lt _ e; omega
  have hbx := Lib.hid hbx
  have hats := Lib.hid h.fits.at_
  have hm0 := Lib.hid (h.mid.alloc (.cells (secL s).toArray 34))
  have hs0 := Lib.hid (Blk.new w 34 (secL s))
  have h := Lib.hid h
  go_enter Try.func32, Try.ntmps32
  go_wp2_with (first
    | ((with_reducible refine (has_any L m _ _ (h.out.alloc _) (by unfold I64; omega)).mono ?_); rintro e w' ⟨rfl, rfl⟩; rw [hh]))
  refine inO_region [(3, fun w' => w'.cell? ⟨L.d, 0, none⟩ = some (.slice (some ⟨L.sb, 0, none⟩) m.stable.length m.stable.length)), (5, fun w' => w'.rangeAt (w.heap.size) (0) (secL s))] (by kernel_rfl) (Owed.cons (hm0.out.c0) (Owed.cons ((hs0.out.drew.range fun j v hv => by simpa using hv)) (Owed.nil _ _))) ?_
  refine inO_take 0 ⟨_, _, _, _, _, _⟩ (.pointer (some ⟨L.d, 0, none⟩)) rfl (by kernel_rfl) (by kernel_rfl) (by kernel_rfl) (fun _ _ _ h => h) rfl (fun ww => exec_move (by rfl) (by rfl) ww) ?_
  simp only [Act.put, List.setIfInBounds_toArray, List.set_cons_zero, List.set_cons_succ]
  refine inO_take 1 ⟨_, _, _, _, _, _⟩ (.pointer (some ⟨L.d, 0, none⟩)) rfl (by kernel_rfl) (by kernel_rfl) (by kernel_rfl) (fun _ _ _ h => h) rfl (fun ww => exec_nilCheck (by rfl) (by rfl) ww) ?_
  simp only [Act.put, List.setIfInBounds_toArray, List.set_cons_zero, List.set_cons_succ]
  refine inO_take 2 ⟨_, _, _, _, _, _⟩ (.pointer (some ⟨L.d, 0, none⟩)) rfl (by kernel_rfl) (by kernel_rfl) (by kernel_rfl) (fun _ _ _ h => h) rfl (fun ww => by go_simp) ?_
  simp only [Act.put, List.setIfInBounds_toArray, List.set_cons_zero, List.set_cons_succ]
  refine inO_load 3 ⟨_, _, _, _, _, _⟩ (.slice (some ⟨L.sb, 0, none⟩) m.stable.length m.stable.length) (fun w' => w'.cell? ⟨L.d, 0, none⟩ = some (.slice (some ⟨L.sb, 0, none⟩) m.stable.length m.stable.length)) rfl (by kernel_rfl) (by kernel_rfl) (by kernel_rfl) (fun _ _ _ h => h) rfl (.head _) (fun ww hw => by go_simp) ?_
  simp only [Act.put, List.setIfInBounds_toArray, List.set_cons_zero, List.set_cons_succ]
  refine inO_take 4 ⟨_, _, _, _, _, _⟩ (.int .i64 (i : Int)) rfl (by kernel_rfl) (by kernel_rfl) (by kernel_rfl) (fun _ _ _ h => h) rfl (fun ww => exec_move (by rfl) (by rfl) ww) ?_
  simp only [Act.put, List.setIfInBounds_toArray, List.set_cons_zero, List.set_cons_succ]
  refine inO_load 5 ⟨_, _, _, _, _, _⟩ (.agg (secL s).toArray) (fun w' => w'.rangeAt (w.heap.size) (0) (secL s)) rfl (by kernel_rfl) (by kernel_rfl) (by kernel_rfl) (fun _ _ _ h => h) rfl (.tail _ (.head _)) (fun ww hw => exec_load_mid _ _ (by rfl) _ _ (by rfl) _ _ hw Try.underlying34 rfl (infoSecL _)) ?_
  simp only [Act.put, List.setIfInBounds_toArray, List.set_cons_zero, List.set_cons_succ]
  refine inO_take 6 ⟨_, _, _, _, _, _⟩ (.pointer (some ⟨L.sb, i * 128, none⟩)) rfl (by kernel_rfl) (by kernel_rfl) (by kernel_rfl) (fun _ _ _ h => h) rfl (fun ww => by go_simp) ?_
  simp only [Act.put, List.setIfInBounds_toArray, List.set_cons_zero, List.set_cons_succ]
  refine inO_step 7 ⟨_, _, _, _, _, _⟩ rfl (by kernel_rfl) rfl (fun K hK => ?_)
  refine wp_store_blk 34 _ _ rfl L.sb (i * 128) rfl (secL s) rfl _ (rowsL secL m.stable) (rowsL secL (m.stable.set i s)) hm0.out.st.drew (by rw [rowsL_length secL_length, secL_length]; omega) (secL_one _) (infoSecL _) (by rw [rowsL_set secL_length _ _ hi, secL_length]) ?_
  intro w1 hb1 k1 z1
  refine hK _ _ (Keeps.late (by kernel_rfl) (Keeps.late (by kernel_rfl) (Keeps.nil _ _ _))) ?_
  clear hK K
  simp only [Act.put]
  refine inO_done (by kernel_rfl) ?_
  have hm1 := Lib.hid (hm0.out.drew.putSt (List.length_set ..) hb1 k1)
  have hs1 := Lib.hid (hs0.out.drew.kept k1 (fun e => hbx.out (.inr (.inl e))))
  have q1 := Lib.hid ((Kept.of_alloc L.foot w (.cells (secL s).toArray 34)).drew.then k1 fun i _ e => .inr (.inl e))
  clear hb1 k1 z1
  go_wp2
  refine inO_region [(3, fun w' => w'.cell? ⟨L.d, 1, none⟩ = some (.slice (some ⟨L.nb, 0, none⟩) m.stable.length m.stable.length)), (5, fun w' => w'.rangeAt (w.heap.size) (0) (secL s))] (by kernel_rfl) (Owed.cons (hm1.out.c1) (Owed.cons ((hs1.out.drew.range fun j v hv => by simpa using hv)) (Owed.nil _ _))) ?_
  refine inO_take 0 ⟨_, _, _, _, _, _⟩ (.pointer (some ⟨L.d, 0, none⟩)) rfl (by kernel_rfl) (by kernel_rfl) (by kernel_rfl) (fun _ _ _ h => h) rfl (fun ww => exec_move (by rfl) (by rfl) ww) ?_
  simp only [Act.put, List.setIfInBounds_toArray, List.set_cons_zero, List.set_cons_succ]
  refine inO_take 1 ⟨_, _, _, _, _, _⟩ (.pointer (some ⟨L.d, 0, none⟩)) rfl (by kernel_rfl) (by kernel_rfl) (by kernel_rfl) (fun _ _ _ h => h) rfl (fun ww => exec_nilCheck (by rfl) (by rfl) ww) ?_
  simp only [Act.put, List.setIfInBounds_toArray, List.set_cons_zero, List.set_cons_succ]
  refine inO_take 2 ⟨_, _, _, _, _, _⟩ (.pointer (some ⟨L.d, 1, none⟩)) rfl (by kernel_rfl) (by kernel_rfl) (by kernel_rfl) (fun _ _ _ h => h) rfl (fun ww => by go_simp) ?_
  simp only [Act.put, List.setIfInBounds_toArray, List.set_cons_zero, List.set_cons_succ]
  refine inO_load 3 ⟨_, _, _, _, _, _⟩ (.slice (some ⟨L.nb, 0, none⟩) m.stable.length m.stable.length) (fun w' => w'.cell? ⟨L.d, 1, none⟩ = some (.slice (some ⟨L.nb, 0, none⟩) m.stable.length m.stable.length)) rfl (by kernel_rfl) (by kernel_rfl) (by kernel_rfl) (fun _ _ _ h => h) rfl (.head _) (fun ww hw => by go_simp) ?_
  simp only [Act.put, List.setIfInBounds_toArray, List.set_cons_zero, List.set_cons_succ]
  refine inO_take 4 ⟨_, _, _, _, _, _⟩ (.int .i64 (i : Int)) rfl (by kernel_rfl) (by kernel_rfl) (by kernel_rfl) (fun _ _ _ h => h) rfl (fun ww => exec_move (by rfl) (by rfl) ww) ?_
  simp only [Act.put, List.setIfInBounds_toArray, List.set_cons_zero, List.set_cons_succ]
  refine inO_load 5 ⟨_, _, _, _, _, _⟩ (.agg (secL s).toArray) (fun w' => w'.rangeAt (w.heap.size) (0) (secL s)) rfl (by kernel_rfl) (by kernel_rfl) (by kernel_rfl) (fun _ _ _ h => h) rfl (.tail _ (.head _)) (fun ww hw => exec_load_mid _ _ (by rfl) _ _ (by rfl) _ _ hw Try.underlying34 rfl (infoSecL _)) ?_
  simp only [Act.put, List.setIfInBounds_toArray, List.set_cons_zero, List.set_cons_succ]
  refine inO_take 6 ⟨_, _, _, _, _, _⟩ (.pointer (some ⟨L.nb, i * 128, none⟩)) rfl (by kernel_rfl) (by kernel_rfl) (by kernel_rfl) (fun _ _ _ h => h) rfl (fun ww => by go_simp) ?_
  simp only [Act.put, List.setIfInBounds_toArray, List.set_cons_zero, List.set_cons_succ]
  refine inO_step 7 ⟨_, _, _, _, _, _⟩ rfl (by kernel_rfl) rfl (fun K hK => ?_)
  refine wp_store_blk 34 _ _ rfl L.nb (i * 128) rfl (secL s) rfl _ (rowsL secL m.now) (rowsL secL (m.now.set i s)) hm1.out.nw.drew (by rw [rowsL_length secL_length, secL_length, DevM.now_length]; omega) (secL_one _) (infoSecL _) (by rw [rowsL_set secL_length _ _ (by rw [DevM.now_length]; exact hi), secL_length]) ?_
  intro w2 hb2 k2 z2
  refine hK _ _ (Keeps.late (by kernel_rfl) (Keeps.late (by kernel_rfl) (Keeps.nil _ _ _))) ?_
  clear hK K
  simp only [Act.put]
  refine inO_done (by kernel_rfl) ?_
  have hm2 := Lib.hid (hm1.out.drew.putNw (List.length_set ..) hb2 k2)
  have hs2 := Lib.hid (hs1.out.drew.kept k2 (fun e => hbx.out (.inr (.inr (.inl e)))))
  have q2 := Lib.hid (q1.out.drew.then k2 fun i _ e => .inr (.inr (.inl e)))
  clear hb2 k2 z2
  have c2 := hm2.out.c2
  rw [hv.out] at c2
  go_wp2
  go_loopw [31] (fun j wr => ∃ k : Nat, k ≤ m.pending.length ∧ j = .int .i64 k ∧ Hid (MidAt wr L { m with pending := rotTo m.pending i s k } (m.stable.set i s) (m.now.set i s)) ∧ Hid (Blk wr w.heap.size 34 (secL s)) ∧ Hid (Kept L.foot w wr))
    (fun j _ => m.pending.length - (intOf j).toNat)
  case atStart => exact ⟨0, by omega, rfl, Lib.hid (by rw [rotTo_zero]; exact hm2.out), hs2, q2⟩
  case round =>
    clear c2 hm2 hs2 q2
    obtain ⟨k, hk, rfl, hm, hs, hkp⟩ := hrel
    by_cases hlt : k < m.pending.length
    · obtain ⟨g, rfl, hgo, hgl⟩ := hg.out (by omega)
      have hlt' : k < (rotTo m.pending i s k).length := by rw [rotTo_length]; exact hlt
      have r1 := hm.out.peRange hv.out (k := k) hlt'
      have hat := rotTo_at m.pending i s k hlt
      have cp : wr.cell? ⟨g, k * 129, none⟩ = some (.int .i64 (m.pending[k].1 : Int)) := by
        have := r1 0 (.int .i64 (m.pending[k].1 : Int)) (by show (wrL (rotTo m.pending i s k)[k])[0]? = _; rw [hat]; rfl)
        simpa using this
      have c2 := hm.out.c2
      rw [hv.out] at c2
      have hpe := hm.out.pe
      have hll : (rotTo m.pending i s k).length = m.pending.length := rotTo_length _ _ _ _
      have hpe : wr.ownsRow 0 110 129 L.pv m.pending.length (rowsL wrL (rotTo m.pending i s k)) := by
        have h0 : wr.ownsRow 0 110 129 L.pv (rotTo m.pending i s k).length (rowsL wrL (rotTo m.pending i s k)) := hm.out.pe
        rw [hll] at h0
        exact h0
      rw [hv.out] at hpe
      have hpe := Lib.hid (owns_kept (F := fun _ => False) hpe (Kept.refl _ wr).drew fun _ _ => id)
      have hat := Lib.hid hat
      have hll := Lib.hid hll
      have r1 := Lib.hid r1
      have k1 : (k : Int) < (m.pending.length : Int) := by omega
      have k2 : (0 : Int) ≤ (k : Int) := by omega
      by_cases he : m.pending[k].1 = i
      · have e1 : ((m.pending[k].1 : Int) == (i : Int)) = true := by simp; omega
        have he := Lib.hid he
        go_wp2
        refine inO_region [(3, fun w' => w'.cell? ⟨L.d, 2, none⟩ = some (.slice (some ⟨g, 0, none⟩) m.pending.length cap)), (5, fun w' => w'.rangeAt (w.heap.size) (0) (secL s))] (by kernel_rfl) (Owed.cons (c2) (Owed.cons ((hs.out.drew.range fun j v hv => by simpa using hv)) (Owed.nil _ _))) ?_
        refine inO_take 0 ⟨_, _, _, _, _, _⟩ (.pointer (some ⟨L.d, 0, none⟩)) rfl (by kernel_rfl) (by kernel_rfl) (by kernel_rfl) (fun _ _ _ h => h) rfl (fun ww => exec_move (by rfl) (by rfl) ww) ?_
        simp only [Act.put, List.setIfInBounds_toArray, List.set_cons_zero, List.set_cons_succ]
        refine inO_take 1 ⟨_, _, _, _, _, _⟩ (.pointer (some ⟨L.d, 0, none⟩)) rfl (by kernel_rfl) (by kernel_rfl) (by kernel_rfl) (fun _ _ _ h => h) rfl (fun ww => exec_nilCheck (by rfl) (by rfl) ww) ?_
        simp only [Act.put, List.setIfInBounds_toArray, List.set_cons_zero, List.set_cons_succ]
        refine inO_take 2 ⟨_, _, _, _, _, _⟩ (.pointer (some ⟨L.d, 2, none⟩)) rfl (by kernel_rfl) (by kernel_rfl) (by kernel_rfl) (fun _ _ _ h => h) rfl (fun ww => by go_simp) ?_
        simp only [Act.put, List.setIfInBounds_toArray, List.set_cons_zero, List.set_cons_succ]
        refine inO_load 3 ⟨_, _, _, _, _, _⟩ (.slice (some ⟨g, 0, none⟩) m.pending.length cap) (fun w' => w'.cell? ⟨L.d, 2, none⟩ = some (.slice (some ⟨g, 0, none⟩) m.pending.length cap)) rfl (by kernel_rfl) (by kernel_rfl) (by kernel_rfl) (fun _ _ _ h => h) rfl (.head _) (fun ww hw => by go_simp) ?_
        simp only [Act.put, List.setIfInBounds_toArray, List.set_cons_zero, List.set_cons_succ]
        refine inO_take 4 ⟨_, _, _, _, _, _⟩ (.int .i64 (k : Int)) rfl (by kernel_rfl) (by kernel_rfl) (by kernel_rfl) (fun _ _ _ h => h) rfl (fun ww => exec_move (by rfl) (by rfl) ww) ?_
        simp only [Act.put, List.setIfInBounds_toArray, List.set_cons_zero, List.set_cons_succ]
        refine inO_load 5 ⟨_, _, _, _, _, _⟩ (.agg (secL s).toArray) (fun w' => w'.rangeAt (w.heap.size) (0) (secL s)) rfl (by kernel_rfl) (by kernel_rfl) (by kernel_rfl) (fun _ _ _ h => h) rfl (.tail _ (.head _)) (fun ww hw => exec_load_mid _ _ (by rfl) _ _ (by rfl) _ _ hw Try.underlying34 rfl (infoSecL _)) ?_
        simp only [Act.put, List.setIfInBounds_toArray, List.set_cons_zero, List.set_cons_succ]
        refine inO_take 6 ⟨_, _, _, _, _, _⟩ (.pointer (some ⟨g, k * 129, none⟩)) rfl (by kernel_rfl) (by kernel_rfl) (by kernel_rfl) (fun _ _ _ h => h) rfl (fun ww => by go_simp) ?_
        simp only [Act.put, List.setIfInBounds_toArray, List.set_cons_zero, List.set_cons_succ]
        refine inO_take 7 ⟨_, _, _, _, _, _⟩ (.pointer (some ⟨g, k * 129 + 1, none⟩)) rfl (by kernel_rfl) (by kernel_rfl) (by kernel_rfl) (fun _ _ _ h => h) rfl (fun ww => by go_simp) ?_
        simp only [Act.put, List.setIfInBounds_toArray, List.set_cons_zero, List.set_cons_succ]
        refine inO_step 8 ⟨_, _, _, _, _, _⟩ rfl (by kernel_rfl) rfl (fun K hK => ?_)
        refine wp_store_own 34 _ _ rfl g (k * 129 + 1) m.pending.length cap 0 129 110 (rowsL wrL (rotTo m.pending i s k)) (rowsL wrL ((rotTo m.pending i s k).set k (((rotTo m.pending i s k)[k]'(by rw [rotTo_length]; exact hlt)).1, s))) rfl (secL s) rfl hpe.out (by rw [secL_length]; omega) (secL_one _) (infoSecL _) (wr_splice _ k (by rw [rotTo_length]; exact hlt) s) ?_
        intro w3 ho3 k3
        refine hK _ _ (Keeps.late (by kernel_rfl) (Keeps.late (by kernel_rfl) (Keeps.nil _ _ _))) ?_
        clear hK K
        simp only [Act.put]
        refine inO_done (by kernel_rfl) ?_
        go_wp2
        go_roundw
        case rel =>
          refine ⟨k + 1, by omega, by go_num, Lib.hid ?_, Lib.hid (hs.out.drew.kept k3 (fun e => hbx.out (.inr (.inr (.inr (by rw [hgo, e])))))), Lib.hid (hkp.out.drew.then k3 fun i _ e => .inr (.inr (.inr (by rw [hgo, e]))))⟩
          rw [hat.out] at ho3
          rw [rotTo_succ _ _ _ _ hlt, if_pos he.out]
          rw [← hv.out] at ho3
          have hq := hm.out.drew.putPe hv.out (p' := (rotTo m.pending i s k).set k (m.pending[k].1, s)) (by simp) (by show w3.ownsRow 0 _ 129 L.pv (rotTo m.pending i s k).length _; rw [hll.out]; exact ho3) k3
          exact hq
        case measure => simp [intOf] <;> omega
      · have e1 : ((m.pending[k].1 : Int) == (i : Int)) = false := by simp; omega
        have he := Lib.hid he
        go_wp2
        go_roundw
        case rel => exact ⟨k + 1, by omega, by go_num, Lib.hid (by rw [rotTo_pass _ _ _ _ hlt he.out]; exact hm.out), hs, hkp⟩
        case measure => simp [intOf] <;> omega
    · obtain rfl : k = m.pending.length := by omega
      rw [rotTo_all] at hm
      go_wp2
      go_ret
      have hf := h.out.fits
      refine ⟨rfl, L.pv, ⟨?_, hm.out.st, ?_, hm.out.pe, hm.out.ne, ⟨hf.ops, hf.left, ?_, ?_⟩⟩, hkp.out, .inl rfl⟩
      · have e1 : (m.stable.set i s).length = m.stable.length := List.length_set ..
        have := hm.out.base
        rw [← e1] at this
        exact this
      · have e1 : DevM.now { m with stable := m.stable.set i s, pending := m.pending.map fun x => (x.1, if x.1 = i then s else x.2) } = m.now.set i s := rot_now _ _ _ _
        rw [e1]
        exact hm.out.nw
      · rw [List.length_set]; exact hf.len
      · intro p hp
        obtain ⟨q, hq, rfl⟩ := List.mem_map.1 hp
        rw [List.length_set]
        exact hf.at_ q hq

set_option maxHeartbeats 1000000 in
theorem Rot_out (L : DevL) (m : DevM) (i : Int) (hi : I64 i) (s : Sec) (w : World) (h : DevAt w L m) (hh : m.has i = false) :
    Calls Try.prog 32 #[.pointer (some ⟨L.d, 0, none⟩), .int .i64 i, .agg (secL s).toArray] w fun e w' => e = .returned (.int .i64 41) ∧ DevStep w L m w' := by
  have h := Lib.hid h
  go_enter Try.func32, Try.ntmps32
  go_wp2_with (first
    | ((with_reducible refine (has_any L m _ _ (h.out.alloc _) hi).mono ?_); rintro e w' ⟨rfl, rfl⟩; rw [hh]))
  go_ret
  exact ⟨rfl, DevStep.of (F := L.foot) (h.out.alloc _) (Kept.of_alloc _ w _) (fun _ => id)⟩

theorem Rot_any (L : DevL) (m : DevM) (i : Int) (hi : I64 i) (s : Sec) (w : World) (h : DevAt w L m) (hp : m.pending.length ≤ 1000000000) :
    Calls Try.prog 32 #[.pointer (some ⟨L.d, 0, none⟩), .int .i64 i, .agg (secL s).toArray] w fun e w' => e = .returned (.int .i64 (m.rot i s).2) ∧ DevStep w L (m.rot i s).1 w' := by
  cases hh : m.has i
  · refine (Rot_out L m i hi s w h hh).mono ?_
    rintro e w' ⟨rfl, hs⟩
    exact ⟨by simp [DevM.rot, hh], by simpa [DevM.rot, hh] using hs⟩
  · obtain ⟨k, rfl, hk⟩ := has_nat hh
    refine (Rot_in L m k s w h hk hp).mono ?_
    rintro e w' ⟨rfl, hs⟩
    exact ⟨by simp [DevM.rot, hh], by simpa [DevM.rot, hh] using hs⟩
end Go.Proofs.Ytfblehdeoloijaa

/- A device: New. -/
namespace Go.Proofs.Ytfblehdeoloijaa
open Go.ChangeShapes Go.WideShapes Go.ChangeAt Go.RowKit
set_option linter.unusedVariables false
set_option maxRecDepth 20000

theorem secL_zero : secL sec0 = List.replicate 128 (.int .u8 0) := by
  unfold secL sec0 bytesV
  simp [byteV]
theorem rows_zero (n : Nat) : rowsL secL (List.replicate n sec0) = List.replicate (n * 128) (.int .u8 0) := by
  induction n with
  | zero => simp [rowsL]
  | succ n ih => rw [List.replicate_succ, rowsL_cons, ih, secL_zero, List.replicate_append_replicate]; congr 1; omega
theorem made_rep (v : Value) (c m : Nat) (hc : 0 < c) : (madeCells (List.replicate c v).toArray m).toList = List.replicate m v := by
  unfold madeCells
  apply List.ext_getElem
  · simp
  · intro i h1 h2
    have : i % c < c := Nat.mod_lt _ hc
    simp [this]
theorem made_zero (n : Nat) : madeCells (secL sec0).toArray (n * 128) = (rowsL secL (List.replicate n sec0)).toArray := by
  apply Array.ext'
  rw [rows_zero, secL_zero, made_rep _ _ _ (by omega)]
theorem infoSec3 : (Try.prog.info? 34).map (fun i => (i.zero, i.size, i.bytes)) = some (some (.agg (secL sec0).toArray), 128, 128) := by kernel_rfl
/-- make([]Sector, n, n) -/
theorem make_secs (n : Nat) (hn : n ≤ 1000000000) (w : World) : (Instr.makeSlice 44 (.int .i64 (n : Int)) (.int .i64 (n : Int))).run Try.prog w = .ok (.slice (some ⟨w.heap.size, 0, none⟩) n n) (w.alloc (.cells (rowsL secL (List.replicate n sec0)).toArray 34)) := by
  obtain ⟨i0, hi0, hz0, hz1, hz2⟩ := info_parts infoSec3
  have := run_make (P := Try.prog) w 44 34 i0 _ Try.underlying44 hi0 hz0 .i64 .i64 n n (by omega) (Int.le_refl _) (by rw [hz2]; omega) (by omega)
  rw [this, hz1]
  simp only [Int.toNat_natCast, Value.cells]
  rw [made_zero]

theorem fresh_at (w : World) (n : Nat) (hn : n ≤ 1024) (L : DevL) (hb : Blk w L.d 74 [.slice (some ⟨L.sb, 0, none⟩) n n, .slice (some ⟨L.nb, 0, none⟩) n n, L.pv, .int .i64 0, .int .i64 (-1), .bool false])
    (hs : Blk w L.sb 34 (rowsL secL (List.replicate n sec0))) (hw : Blk w L.nb 34 (rowsL secL (List.replicate n sec0))) (hp : L.pv = .slice none 0 0) (hne : L.sb ≠ L.nb) : DevAt w L (DevM.fresh n) := by
  have e1 : (List.replicate n sec0).length = n := List.length_replicate ..
  refine ⟨?_, hs, hw, by rw [hp]; exact World.ownsRow_nil _ _ _ _, hne, ⟨Nat.zero_le _, by show (-9223372036854775808 : Int) ≤ -1 ∧ (-1 : Int) ≤ 9223372036854775807; omega, ?_, fun p hp => by cases hp⟩⟩
  · show Blk w L.d _ [.slice _ (List.replicate n sec0).length (List.replicate n sec0).length, .slice _ (List.replicate n sec0).length (List.replicate n sec0).length, _, _, _, _]
    rw [e1]
    exact hb
  · show (List.replicate n sec0).length ≤ 1024
    rw [e1]; exact hn

theorem three_new (w : World) (A B C : List Value) (tA tB tC : TypeId) : Blk (((w.alloc (.cells A.toArray tA)).alloc (.cells B.toArray tB)).alloc (.cells C.toArray tC)).drew w.heap.size tA A ∧
    Blk (((w.alloc (.cells A.toArray tA)).alloc (.cells B.toArray tB)).alloc (.cells C.toArray tC)).drew (w.heap.size + 1) tB B ∧ Blk (((w.alloc (.cells A.toArray tA)).alloc (.cells B.toArray tB)).alloc (.cells C.toArray tC)).drew (w.heap.size + 2) tC C := by
  have e1 : (w.alloc (.cells A.toArray tA)).heap.size = w.heap.size + 1 := by simp
  have e2 : ((w.alloc (.cells A.toArray tA)).alloc (.cells B.toArray tB)).heap.size = w.heap.size + 2 := by simp
  refine ⟨(((Blk.new w tA A).alloc _).alloc _).drew, ?_, ?_⟩
  · have := ((Blk.new (w.alloc (.cells A.toArray tA)) tB B).alloc (.cells C.toArray tC)).drew
    rwa [e1] at this
  · have := (Blk.new ((w.alloc (.cells A.toArray tA)).alloc (.cells B.toArray tB)) tC C).drew
    rwa [e2] at this
theorem three_below (w : World) (A B C : Obj) : Below w.heap.size w (((w.alloc A).alloc B).alloc C) := (((Below.refl _ _).alloc (Nat.le_refl _) _).alloc (by simp) _).alloc (by simp; omega) _

set_option maxHeartbeats 1000000 in
theorem New_any (n : Int) (hn : I64 n) (w : World) : Calls Try.prog 10 #[.int .i64 n] w fun e w' => ∃ d F, e = .returned (.pointer (some ⟨d, 0, none⟩)) ∧ IsDev w' d F (DevM.fresh (DevM.newLen n)) ∧ (∀ k, F k → w.heap.size ≤ k) ∧ Below w.heap.size w w' := by
  unfold I64 at hn
  obtain ⟨k, hk, hz⟩ : ∃ k : Nat, k ≤ 1024 ∧ Hid (DevM.newLen n = k) := ⟨DevM.newLen n, by unfold DevM.newLen; omega, Lib.hid rfl⟩
  have hm := make_secs k (by omega)
  have key : ∀ (W : World) (a b : Nat), Blk W (w.heap.size + 2) 74 [.slice (some ⟨a, 0, none⟩) k k, .slice (some ⟨b, 0, none⟩) k k, .slice none 0 0, .int .i64 0, .int .i64 (-1), .bool false] → Blk W a 34 (rowsL secL (List.replicate k sec0)) → Blk W b 34 (rowsL secL (List.replicate k sec0)) →
      a ≠ b → w.heap.size ≤ a → w.heap.size ≤ b → Below w.heap.size w W → ∃ d F, Ending.returned (.pointer (some ⟨w.heap.size + 2, 0, none⟩)) = .returned (.pointer (some ⟨d, 0, none⟩)) ∧ IsDev W d F (DevM.fresh (DevM.newLen n)) ∧ (∀ k, F k → w.heap.size ≤ k) ∧ Below w.heap.size w W := by
    intro W a b h1 h2 h3 h4 h5 h6 h7
    rw [hz.out]
    refine ⟨_, DevL.foot ⟨w.heap.size + 2, a, b, .slice none 0 0⟩, rfl, ⟨⟨w.heap.size + 2, a, b, .slice none 0 0⟩, rfl, fresh_at W k hk _ h1 h2 h3 rfl h4, fun _ => id, (fresh_at W k hk _ h1 h2 h3 rfl h4).lt⟩, ?_, h7⟩
    rintro j (rfl | rfl | rfl | e)
    · exact Nat.le_add_right _ _
    · exact h5
    · exact h6
    · simp [Value.ownBlock] at e
  have key := Lib.hid key
  by_cases h0 : n < 0
  · have e0 : DevM.newLen n = 0 := by unfold DevM.newLen; omega
    obtain rfl : k = 0 := by rw [← hz.out, e0]
    have hm0 : ∀ w : World, (Instr.makeSlice 44 (.int .i64 0) (.int .i64 0)).run Try.prog w = .ok (.slice (some ⟨w.heap.size, 0, none⟩) 0 0) (w.alloc (.cells (rowsL secL (List.replicate 0 sec0)).toArray 34)) := fun w => make_secs 0 (by omega) w
    clear hm e0
    generalize rowsL secL (List.replicate 0 sec0) = R at *
    go_enter Try.func10, Try.ntmps10
    go_wp2
    go_region
    all_goals go_wp2
    all_goals go_ret
    · obtain ⟨b1, b2, b3⟩ := three_new w R R _ 34 34 74
      exact key.out _ _ _ b3 b1 b2 (by omega) (by omega) (by omega) (three_below w _ _ _).drew
    · obtain ⟨b1, b2, b3⟩ := three_new w R R _ 34 34 74
      exact key.out _ _ _ b3 b2 b1 (by omega) (by omega) (by omega) (three_below w _ _ _).drew
  by_cases h1 : 1024 < n
  · have e0 : DevM.newLen n = 1024 := by unfold DevM.newLen; omega
    obtain rfl : k = 1024 := by rw [← hz.out, e0]
    have hm0 : ∀ w : World, (Instr.makeSlice 44 (.int .i64 1024) (.int .i64 1024)).run Try.prog w = .ok (.slice (some ⟨w.heap.size, 0, none⟩) 1024 1024) (w.alloc (.cells (rowsL secL (List.replicate 1024 sec0)).toArray 34)) := fun w => make_secs 1024 (by omega) w
    clear hm e0
    generalize rowsL secL (List.replicate 1024 sec0) = R at *
    go_enter Try.func10, Try.ntmps10
    go_wp2
    go_region
    all_goals go_wp2
    all_goals go_ret
    · obtain ⟨b1, b2, b3⟩ := three_new w R R _ 34 34 74
      exact key.out _ _ _ b3 b1 b2 (by omega) (by omega) (by omega) (three_below w _ _ _).drew
    · obtain ⟨b1, b2, b3⟩ := three_new w R R _ 34 34 74
      exact key.out _ _ _ b3 b2 b1 (by omega) (by omega) (by omega) (three_below w _ _ _).drew
  · have e0 : n = (k : Int) := by have := hz.out; unfold DevM.newLen at this; omega
    subst e0
    have hm0 := fun w : World => make_secs k (by omega) w
    have i1 : (0 : Int) ≤ (k : Int) := by omega
    have i2 : (k : Int) ≤ 1024 := by omega
    clear hm h0 h1
    generalize rowsL secL (List.replicate k sec0) = R at *
    go_enter Try.func10, Try.ntmps10
    go_wp2
    go_region
    all_goals go_wp2
    all_goals go_ret
    · obtain ⟨b1, b2, b3⟩ := three_new w R R _ 34 34 74
      exact key.out _ _ _ b3 b1 b2 (by omega) (by omega) (by omega) (three_below w _ _ _).drew
    · obtain ⟨b1, b2, b3⟩ := three_new w R R _ 34 34 74
      exact key.out _ _ _ b3 b2 b1 (by omega) (by omega) (by omega) (three_below w _ _ _).drew
end Go.Proofs.Ytfblehdeoloijaa

/- A device as an object: each call, whatever its blocks are. -/
namespace Go.Proofs.Ytfblehdeoloijaa
open Go.ChangeShapes Go.WideShapes Go.ChangeAt Go.RowKit
set_option linter.unusedVariables false
set_option maxRecDepth 20000

section
variable {w : World} {d : Nat} {F : Nat → Prop} {m : DevM} (h : IsDev w d F m)
theorem o_Pending (h : IsDev w d F m) : Calls Try.prog 33 #[.pointer (some ⟨d, 0, none⟩)] w fun e w' => e = .returned (.int .i64 (m.pending.length : Int)) ∧ w = w' := by
  obtain ⟨L, rfl, h1, h2, _⟩ := h; exact Pending_any L m w h1
theorem o_Stable (h : IsDev w d F m) (i : Int) (hi : I64 i) : Calls Try.prog 28 #[.pointer (some ⟨d, 0, none⟩), .int .i64 i] w fun e w' => e = .returned (.agg (secL (m.stab i)).toArray) ∧ Below w.heap.size w w' := by
  obtain ⟨L, rfl, h1, h2, _⟩ := h; exact Stable_any L m i hi w h1
theorem o_Break (h : IsDev w d F m) (n : Int) (hn : I64 n) : Calls Try.prog 19 #[.pointer (some ⟨d, 0, none⟩), .int .i64 n] w fun e w' => e = .returned (.tuple #[]) ∧ Turned w d F (m.brk n) w' := by
  obtain ⟨L, rfl, h1, h2, _⟩ := h
  refine (Break_any L m w h1 n hn).mono ?_
  rintro e w' ⟨rfl, h3, h4, _⟩
  exact ⟨rfl, (DevStep.of h3 h4 fun i e => .inl e).turned h2⟩
theorem o_Read (h : IsDev w d F m) (i : Int) (hi : I64 i) : Calls Try.prog 54 #[.pointer (some ⟨d, 0, none⟩), .int .i64 i] w fun e w' => e = .returned (.tuple #[.agg (secL (m.read i).1).toArray, .int .i64 (m.read i).2]) ∧ Turned w d F m.tick w' := by
  obtain ⟨L, rfl, h1, h2, _⟩ := h
  refine (Read_any L m i hi w h1).mono ?_
  rintro e w' ⟨rfl, h3, h4⟩
  exact ⟨rfl, (DevStep.of h3 h4 fun i e => .inl e).turned h2⟩
theorem o_Write (h : IsDev w d F m) (i : Int) (hi : I64 i) (s : Sec) (hp : m.pending.length ≤ 1000000000) : Calls Try.prog 31 #[.pointer (some ⟨d, 0, none⟩), .int .i64 i, .agg (secL s).toArray] w fun e w' => e = .returned (.int .i64 (m.write i s).2) ∧ Turned w d F (m.write i s).1 w' := by
  obtain ⟨L, rfl, h1, h2, _⟩ := h
  refine (Write_any L m i hi s w h1 hp).mono ?_
  rintro e w' ⟨rfl, h3⟩
  exact ⟨rfl, h3.turned h2⟩
theorem o_Flush (h : IsDev w d F m) (hp : m.pending.length ≤ 1000000000) : Calls Try.prog 47 #[.pointer (some ⟨d, 0, none⟩)] w fun e w' => e = .returned (.int .i64 m.flush.2) ∧ Turned w d F m.flush.1 w' := by
  obtain ⟨L, rfl, h1, h2, _⟩ := h
  refine (Flush_any L m w h1 hp).mono ?_
  rintro e w' ⟨rfl, h3⟩
  exact ⟨rfl, h3.turned h2⟩
theorem o_Rot (h : IsDev w d F m) (i : Int) (hi : I64 i) (s : Sec) (hp : m.pending.length ≤ 1000000000) : Calls Try.prog 32 #[.pointer (some ⟨d, 0, none⟩), .int .i64 i, .agg (secL s).toArray] w fun e w' => e = .returned (.int .i64 (m.rot i s).2) ∧ Turned w d F (m.rot i s).1 w' := by
  obtain ⟨L, rfl, h1, h2, _⟩ := h
  refine (Rot_any L m i hi s w h1 hp).mono ?_
  rintro e w' ⟨rfl, h3⟩
  exact ⟨rfl, h3.turned h2⟩
theorem o_Crash (h : IsDev w d F m) (ao : Option Addr) (cap : Nat) (bs : List Bool) (hp : m.pending.length ≤ 1000000000) (hbl : bs.length ≤ 9223372036854775807) (hr : Reads w ao (boolsV bs)) (hn : bs ≠ [] → ∀ a, ao = some a → ¬ F a.block) :
    Calls Try.prog 23 #[.pointer (some ⟨d, 0, none⟩), .slice ao bs.length cap] w fun e w' => e = .returned (.tuple #[]) ∧ Turned w d F (m.crash bs) w' := by
  obtain ⟨L, rfl, h1, h2, _⟩ := h
  refine (Crash_any L m ao cap bs w h1 hp hbl hr (fun hb a ha hf => hn hb a ha (h2 _ hf))).mono ?_
  rintro e w' ⟨rfl, h3⟩
  exact ⟨rfl, h3.turned h2⟩
end

/-- of a slice of bools a copy is handed in -/
theorem infoBool : (Try.prog.info? 4).map (fun i => (i.zero, i.size, i.bytes)) = some (some (.bool false), 1, 1) := by kernel_rfl

def sec1 : Sec := ⟨1 :: List.replicate 127 0, by simp⟩
def sec2 : Sec := ⟨2 :: List.replicate 127 0, by simp⟩
theorem built_sec1 : Try.prog.built 34 [(0, .int .u8 1)] = some (secL sec1).toArray := by kernel_rfl
theorem built_sec2 : Try.prog.built 34 [(0, .int .u8 2)] = some (secL sec2).toArray := by kernel_rfl

/-- what is known of an object's blocks, call by call -/
theorem Grows.low {n B : Nat} {F F' : Nat → Prop} (h : Grows n F F') (hF : ∀ k, F k → B ≤ k) (hB : B ≤ n) : ∀ k, F' k → B ≤ k := fun k hk => by
  rcases h k hk with h | h
  · exact hF k h
  · omega
theorem Grows.not {n x : Nat} {F F' : Nat → Prop} (h : Grows n F F') (hx : ¬ F x) (hlt : x < n) : ¬ F' x := fun hk => by
  rcases h x hk with h | h
  · exact hx h
  · omega

end Go.Proofs.Ytfblehdeoloijaa

/- How arguments read: slices of bools; what is done with a device, as plain data. -/
namespace Go.Proofs.Ytfblehdeoloijaa
open Go.ChangeShapes Go.WideShapes Go.ChangeAt Go.RowKit Go.Deep
set_option linter.unusedVariables false
set_option maxRecDepth 20000

section
variable {H : Type} {P : Program}
/-- each weight of a datum is within the reach -/
def Light (P : Program) (t : TypeId) (d : DataW H) : Prop := ∀ n, n ∈ d.weights P t → n ≤ reachBytes
theorem light_arg {ts : List TypeId} {ds : List (DataW H)} (h : (DataW.weightsEach P ts ds).all (· ≤ reachBytes) = true) {j : Nat} {t : TypeId} {d : DataW H} (ht : ts[j]? = some t) (hd : ds[j]? = some d) : Light P t d := fun n hn => by
  have := List.all_eq_true.1 h n (DataW.weights_mem_each ht hd n hn)
  simpa using this
theorem weightsAll_mem {e : TypeId} {l : List (DataW H)} {d : DataW H} (hd : d ∈ l) {n : Nat} (hn : n ∈ d.weights P e) : n ∈ DataW.weightsAll P e l := by
  induction l with
  | nil => cases hd
  | cons x r ih =>
    simp only [DataW.weightsAll, List.mem_append]
    rcases List.mem_cons.1 hd with rfl | hd
    · exact .inl hn
    · exact .inr (ih hd)
theorem Light.len {t e : TypeId} {l s : List (DataW H)} (ht : P.underlying t = some (.slice e)) (h : Light P t (.slice l s)) : (l.length + s.length) * P.bytesOf e ≤ reachBytes :=
  h _ (by simp [DataW.weights, ht])
theorem Light.elem {t e : TypeId} {l s : List (DataW H)} (ht : P.underlying t = some (.slice e)) (h : Light P t (.slice l s)) {d : DataW H} (hd : d ∈ l) : Light P e d := fun n hn =>
  h n (by simp only [DataW.weights, ht, List.mem_cons, List.mem_append]; exact .inr (.inl (weightsAll_mem hd hn)))
theorem Light.field {t : TypeId} {fs : Array Field} {l : List (DataW H)} (ht : P.underlying t = some (.struct fs)) (h : Light P t (.agg l)) {j : Nat} {f : Field} {d : DataW H} (hf : fs.toList[j]? = some f) (hd : l[j]? = some d) : Light P f.type d := fun n hn =>
  h n (by
    simp only [DataW.weights, ht]
    exact DataW.weights_mem_each (j := j) (by rw [List.getElem?_map, hf]; rfl) hd n hn)
end

section
variable {H : Type} {enc : TypeId × Value → H} {P : Program} {w : World} {base : Nat} {held : Bool} {t e : TypeId} {fuel : Nat} {v : Value} {x : DataW H × List MemPlace}

/-- a slice of bools -/
theorem open_bools (ht : P.underlying t = some (.slice e)) (he : P.underlying e = some .bool) (hc : P.cellsOf e = 1) (hb : P.bytesOf e = 1)
    (h : DataW.trod enc P w base (fun _ => true) held fuel t [v] = some x) (hw : Light P t x.1) :
    ∃ (ao : Option Addr) (bs : List Bool) (cap : Nat), v = .slice ao bs.length cap ∧ Reads w ao (boolsV bs) ∧ bs.length ≤ cap ∧ cap ≤ reachBytes ∧ (ao = none → cap = 0) ∧ (∀ a, ao = some a → bs ≠ [] → a.block < w.heap.size) := by
  rcases open_slice1 ht hc h with ⟨hcs, _⟩ | ⟨a, len, cap, m, n, V, D, Pl, hcs, _, hl, _, hm, hx, hi⟩
  · obtain rfl : v = .slice none 0 0 := by simpa using hcs
    exact ⟨none, [], 0, rfl, Reads.nil _ _, Nat.le_refl _, Nat.zero_le _, fun _ => rfl, fun a e => by cases e⟩
  · obtain rfl : v = .slice (some a) len cap := by simpa using hcs
    simp only [if_true] at hm
    subst hm
    have hwt := hw
    rw [hx] at hwt
    have hlen := hwt.len ht
    simp only [List.length_map, List.length_range, hb, Nat.mul_one] at hlen
    have hB : ∀ i, i < m → ∃ b, V i = .bool b ∧ w.cell? (a.add i) = some (.bool b) := fun i him => by
      obtain ⟨h1, h2⟩ := hi i him
      obtain ⟨b, hv, _⟩ := DataW.trod_bool he h2
      have : V i = .bool b := by simpa using hv
      exact ⟨b, this, by rw [h1, this]⟩
    have hR : Reads w (some a) (boolsV ((List.range len).map fun i => match V i with | .bool b => b | _ => false)) := by
      intro i hi'
      have hil : i < len := by simpa [boolsV] using hi'
      obtain ⟨b, hv, hcell⟩ := hB i (by omega)
      obtain ⟨_, _, c0⟩ := hB 0 (by omega)
      obtain ⟨bl, off, spot⟩ := a
      have hspot : spot = none := by simpa [Addr.add] using World.cell?_spot c0
      subst hspot
      rw [Go.WideShapes.add_plain] at hcell
      exact ⟨bl, off, rfl, by rw [hcell]; simp [boolsV, hv]⟩
    refine ⟨some a, (List.range len).map fun i => match V i with | .bool b => b | _ => false, m, by simp, hR, by simpa using hl, by omega, (fun h => by cases h), fun a' ha hne => ?_⟩
    cases ha
    have hpos : 0 < len := by
      rcases Nat.eq_zero_or_pos len with h0 | h0
      · subst h0; exact absurd rfl hne
      · exact h0
    obtain ⟨b, off, e0, _, hb⟩ := Reads.bool hR (k := 0) (by simpa using hpos)
    cases e0
    exact hb
end

theorem arg_bools {H : Type} {enc : TypeId × Value → H} {W : World} {base : Nat} {v : Value} {d : DataW H} {p : List MemPlace} (h : DataW.Trod enc Try.prog W 0 (fun _ => true) true 49 v d p) (hv : Value.okWide Try.prog W .any base 49 v)
    (hw : Light Try.prog 49 d) : ∃ (ao : Option Addr) (bs : List Bool) (cap : Nat), v = .slice ao bs.length cap ∧ Reads W ao (boolsV bs) ∧ (bs.length ≤ cap ∧ cap ≤ 140737488351232) ∧ (ao = none → cap = 0) := by
  obtain ⟨a, len, cap, rfl⟩ := okWide_slice Try.underlying49 hv
  obtain ⟨fuel, hf⟩ := h
  obtain ⟨ao, bs, c, h1, h2, h3, h4, h5, _⟩ := open_bools (v := .slice a len cap) Try.underlying49 Try.underlying4 (by kernel_rfl) (by kernel_rfl) hf hw
  exact ⟨ao, bs, c, h1, h2, ⟨h3, by unfold reachBytes at h4; exact h4⟩, h5⟩

/-- something done with a device -/
structure ActM where
  kind : Int
  at_ : Int
  data : Sec
  kao : Option Addr
  kcap : Nat
  keep : List Bool
def actL (a : ActM) : List Value := .int .i64 a.kind :: .int .i64 a.at_ :: (secL a.data ++ [.slice a.kao a.keep.length a.kcap])
theorem actL_length (a : ActM) : (actL a).length = 131 := by simp [actL, secL_length]
theorem actL_one (a : ActM) : ∀ v ∈ actL a, v.oneCell' = true := by
  intro v hv
  simp only [actL, List.mem_cons, List.mem_append, List.not_mem_nil, or_false] at hv
  rcases hv with rfl | rfl | hv | rfl
  · rfl
  · rfl
  · exact secL_one _ v hv
  · rfl
structure ActOk (w : World) (a : ActM) : Prop where
  kind : I64 a.kind
  at_ : I64 a.at_
  keep : Reads w a.kao (boolsV a.keep)
  cap : a.keep.length ≤ a.kcap ∧ a.kcap ≤ 140737488351232
  nil : a.kao = none → a.kcap = 0
  low : ∀ b, a.kao = some b → a.keep ≠ [] → b.block < w.heap.size
structure Acts (w : World) (ao : Option Addr) (as_ : List ActM) : Prop where
  cells : Reads w ao (rowsL actL as_)
  each : ∀ a ∈ as_, ActOk w a

/-- a sector -/
theorem open_sec {H : Type} {enc : TypeId × Value → H} {w : World} {base : Nat} {spare : Nat → Bool} {held : Bool} {fuel : Nat} {cs : List Value} {x : DataW H × List MemPlace}
    (h : DataW.trod enc Try.prog w base spare held fuel 34 cs = some x) : ∃ s : Sec, cs = secL s := by
  obtain ⟨xs, m, _, _, hl, hxl, hi⟩ := DataW.trod_array Try.underlying34 h
  have hc : Try.prog.cellsOf 5 = 1 := by kernel_rfl
  have hc2 : Try.prog.cellsOf 34 = 128 := by kernel_rfl
  rw [hc2] at hl
  have hb : ∀ i (h : i < cs.length), ∃ b : UInt8, cs[i] = byteV b := fun i h => by
    have := hi i (by omega)
    rw [hc, Nat.mul_one, List.drop_eq_getElem_cons h, List.getElem?_eq_getElem (by omega)] at this
    obtain ⟨n, hn, _, hwf⟩ := DataW.trod_int Try.underlying5 this
    rw [List.take_succ_cons, List.take_zero] at hn
    injection hn with hn _
    exact ⟨UInt8.ofNat n.toNat, by rw [hn]; exact byteV_cell (wf_u8 hwf)⟩
  refine ⟨⟨cs.map fun v => match v with | .int _ z => UInt8.ofNat z.toNat | _ => 0, by simpa using hl⟩, ?_⟩
  unfold secL bytesV
  apply List.ext_getElem
  · simp
  · intro i h1 h2
    obtain ⟨b, hb'⟩ := hb i h1
    simp [hb', byteV]

end Go.Proofs.Ytfblehdeoloijaa

/- Acts in memory; what the laws of a device lean on. -/
namespace Go.Proofs.Ytfblehdeoloijaa
open Go.ChangeShapes Go.WideShapes Go.ChangeAt Go.RowKit
set_option linter.unusedVariables false
set_option maxRecDepth 20000

theorem ActOk.below {w w' : World} {a : ActM} (h : ActOk w a) (hb : Below w.heap.size w w') : ActOk w' a := ⟨h.kind, h.at_, h.keep.below hb, h.cap, h.nil, fun b e hn => Nat.lt_of_lt_of_le (h.low b e hn) hb.size⟩
theorem Acts.below {w w' : World} {ao : Option Addr} {as_ : List ActM} (h : Acts w ao as_) (hb : Below w.heap.size w w') : Acts w' ao as_ := ⟨h.cells.below hb, fun a ha => (h.each a ha).below hb⟩
theorem Acts.range {w : World} {ao : Option Addr} {as_ : List ActM} (h : Acts w ao as_) {k : Nat} (hk : k < as_.length) : ∃ b off, ao = some ⟨b, off, none⟩ ∧ b < w.heap.size ∧ w.rangeAt b (off + k * 131) (actL as_[k]) := by
  have hl : (rowsL actL as_).length = as_.length * 131 := rowsL_length actL_length _
  obtain ⟨b, off, e, _, hb⟩ := h.cells.at (k := k * 131) (by omega)
  refine ⟨b, off, e, hb, fun j v hv => ?_⟩
  have hj : j < 131 := by rw [← actL_length as_[k]]; exact (List.getElem?_eq_some_iff.1 hv).1
  have h1 := rowsL_at actL_length as_ k hk j v hv
  obtain ⟨b', off', e', c', _⟩ := h.cells.at (k := k * 131 + j) (by omega)
  rw [e] at e'
  cases e'
  rw [Nat.add_assoc, c']
  obtain ⟨hlt, e2⟩ := List.getElem?_eq_some_iff.1 h1
  rw [← e2]
section
variable {w : World} {A : Nat} {t : TypeId} {a : ActM}
theorem act_c0 (h : Blk w A t (actL a)) : w.cell? ⟨A, 0, none⟩ = some (.int .i64 a.kind) := by rw [h.cell]; rfl
theorem act_c1 (h : Blk w A t (actL a)) : w.cell? ⟨A, 1, none⟩ = some (.int .i64 a.at_) := by rw [h.cell]; rfl
theorem act_r2 (h : Blk w A t (actL a)) : w.rangeAt A 2 (secL a.data) := h.range fun j v hv => by
  have hj : j < (secL a.data).length := (List.getElem?_eq_some_iff.1 hv).1
  rw [show 2 + j = j + 1 + 1 from by omega, actL, List.getElem?_cons_succ, List.getElem?_cons_succ, List.getElem?_append_left hj, hv]
theorem act_c3 (h : Blk w A t (actL a)) : w.cell? ⟨A, 130, none⟩ = some (.slice a.kao a.keep.length a.kcap) := by
  rw [h.cell, actL, show (130 : Nat) = 128 + 1 + 1 from rfl, List.getElem?_cons_succ, List.getElem?_cons_succ, List.getElem?_append_right (by rw [secL_length]; omega), secL_length]
  rfl
end
def act0 : ActM := ⟨0, 0, sec0, none, 0, []⟩
/-- an object in the midst of a law: its blocks are the call's own, and none of these -/
structure Obj1 (B : Nat) (w : World) (d : Nat) (F : Nat → Prop) (m : DevM) (x : Nat) : Prop where
  dev : IsDev w d F m
  low : ∀ k, F k → B ≤ k
  not : ¬ F x
theorem Obj1.turned {B x : Nat} {w w' : World} {d : Nat} {F F' : Nat → Prop} {m m' : DevM} (h : Obj1 B w d F m x) (hB : B ≤ w.heap.size) (hx : x < w.heap.size) (h' : IsDev w' d F' m') (g : Grows w.heap.size F F') : Obj1 B w' d F' m' x :=
  ⟨h', g.low h.low hB, g.not h.not hx⟩
end Go.Proofs.Ytfblehdeoloijaa

/- What the law on what is flushed leans on: plain facts; a row of sectors beside a device. -/
namespace Go.Proofs.Ytfblehdeoloijaa
open Go.ChangeShapes Go.WideShapes Go.ChangeAt Go.RowKit
set_option linter.unusedVariables false
set_option maxRecDepth 20000

theorem rep_getD (n j : Nat) : (List.replicate n sec0).getD j sec0 = sec0 := by
  rw [List.getD_eq_getElem?_getD, List.getElem?_replicate]
  split <;> rfl
/-- is it that sector, or one of the first k? -/
def okB (s fl : Sec) (since : List Sec) (k : Nat) : Bool := decide (s = fl) || (since.take k).any fun x => decide (s = x)
theorem okB_zero (s fl : Sec) (since : List Sec) : okB s fl since 0 = decide (s = fl) := by simp [okB]
theorem okB_succ (s fl : Sec) (since : List Sec) (k : Nat) (h : k < since.length) : okB s fl since (k + 1) = (okB s fl since k || decide (s = since[k])) := by
  unfold okB
  rw [List.take_succ_eq_append_getElem h, List.any_append]
  simp [Bool.or_assoc]
theorem okB_all (s fl : Sec) (since : List Sec) (h : s = fl ∨ s ∈ since) : okB s fl since since.length = true := by
  unfold okB
  rw [List.take_length]
  rcases h with h | h
  · simp [h]
  · simp only [Bool.or_eq_true, List.any_eq_true]
    exact .inr ⟨s, h, by simp⟩
/-- what is written to sector j, in order -/
def toSec (p : List (Nat × Sec)) (j : Nat) : List Sec := (p.filter fun x => decide (x.1 = j)).map (·.2)
theorem toSec_nil (j : Nat) : toSec [] j = [] := rfl
theorem toSec_cons (x : Nat × Sec) (p : List (Nat × Sec)) (j : Nat) : toSec (x :: p) j = if x.1 = j then x.2 :: toSec p j else toSec p j := by
  unfold toSec
  by_cases h : x.1 = j <;> simp [h]
theorem toSec_snoc (p : List (Nat × Sec)) (x : Nat × Sec) (j : Nat) : toSec (p ++ [x]) j = toSec p j ++ (if x.1 = j then [x.2] else []) := by
  unfold toSec
  by_cases h : x.1 = j <;> simp [List.filter_append, h]
theorem putAll_last (l : List Sec) (p : List (Nat × Sec)) (j : Nat) (hj : j < l.length) : (putAll l p).getD j sec0 = (toSec p j).getLastD (l.getD j sec0) := by
  induction p generalizing l with
  | nil => rfl
  | cons x r ih =>
    rw [putAll_cons, ih _ (by rw [List.length_set]; exact hj), toSec_cons]
    by_cases h : x.1 = j
    · subst h
      rw [if_pos rfl, List.getD_eq_getElem?_getD, List.getElem?_set_self hj]
      cases toSec r x.1 <;> rfl
    · rw [if_neg h, List.getD_eq_getElem?_getD, List.getElem?_set_ne h, ← List.getD_eq_getElem?_getD]
theorem getLastD_in (l : List Sec) (d : Sec) : l.getLastD d = d ∨ l.getLastD d ∈ l := by
  induction l generalizing d with
  | nil => exact .inl rfl
  | cons x r ih =>
    rw [List.getLastD_cons]
    rcases ih x with h | h
    · right; rw [h]; exact List.mem_cons_self
    · right; exact List.mem_cons_of_mem _ h
theorem toSec_kept (k : Nat → Bool) (p : List (Nat × Sec)) (j : Nat) : ∀ s ∈ toSec (DevM.kept k p) j, s ∈ toSec p j := by
  intro s hs
  unfold toSec at hs ⊢
  obtain ⟨x, hx, rfl⟩ := List.mem_map.1 hs
  obtain ⟨hx1, hx2⟩ := List.mem_filter.1 hx
  exact List.mem_map.2 ⟨x, List.mem_filter.2 ⟨kept_sub k p x hx1, hx2⟩, rfl⟩

structure KeepsI (m : DevM) (j : Nat) (fl : Sec) (since : List Sec) (k : Nat) : Prop where
  len : m.stable.length = 8
  pend : m.pending.length ≤ k
  fl : m.stable.getD j sec0 = fl
  si : toSec m.pending j = since
namespace KeepsI
variable {m : DevM} {j : Nat} {fl : Sec} {since : List Sec} {k : Nat} (h : KeepsI m j fl since k) (hj : j < 8)
theorem toSec_le (p : List (Nat × Sec)) (j : Nat) : (toSec p j).length ≤ p.length := by
  unfold toSec; rw [List.length_map]; exact List.length_filter_le _ _
theorem spend_ (m : DevM) : m.tick.spend.stable = m.stable ∧ m.tick.spend.pending = m.pending := ⟨DevM.spend_stable _, DevM.spend_pending _⟩
theorem succ (h : KeepsI m j fl since k) : KeepsI m j fl since (k + 1) := ⟨h.len, by have := h.pend; omega, h.fl, h.si⟩
theorem short (h : KeepsI m j fl since k) : since.length ≤ k := by rw [← h.si]; exact Nat.le_trans (toSec_le _ _) h.pend
theorem write_in (h : KeepsI m j fl since k) (i : Int) (s : Sec) (hi : m.has i = true) (hl : m.lasts = true) : ∃ m', m.write i s = (m', 0) ∧ KeepsI m' j fl (since ++ if i = (j : Int) then [s] else []) (k + 1) := by
  have h0 : 0 ≤ i := by simp [DevM.has] at hi; exact hi.1
  refine ⟨{ m.tick.spend with pending := m.pending ++ [(i.toNat, s)] }, by unfold DevM.write; rw [hi, hl]; rfl, ⟨?_, ?_, ?_, ?_⟩⟩
  · show m.tick.spend.stable.length = 8; rw [(spend_ m).1]; exact h.len
  · have := h.pend; simp; omega
  · show m.tick.spend.stable.getD j sec0 = fl; rw [(spend_ m).1]; exact h.fl
  · show toSec (m.pending ++ [(i.toNat, s)]) j = _
    rw [toSec_snoc, h.si]
    by_cases e : i = (j : Int)
    · rw [if_pos e, if_pos (by omega)]
    · rw [if_neg e, if_neg (by omega)]
theorem write_off (h : KeepsI m j fl since k) (i : Int) (s : Sec) (hi : m.has i = true) (hl : m.lasts = false) : ∃ m', m.write i s = (m', 42) ∧ KeepsI m' j fl since (k + 1) :=
  ⟨m.tick.spend, by unfold DevM.write; rw [hi, hl]; rfl, ⟨by rw [(spend_ m).1]; exact h.len, by rw [(spend_ m).2]; have := h.pend; omega, by rw [(spend_ m).1]; exact h.fl, by rw [(spend_ m).2]; exact h.si⟩⟩
theorem write_out (h : KeepsI m j fl since k) (i : Int) (s : Sec) (hi : m.has i = false) : ∃ m', m.write i s = (m', 41) ∧ KeepsI m' j fl since (k + 1) :=
  ⟨m.tick, by unfold DevM.write; rw [hi]; rfl, ⟨h.len, by have := h.pend; show m.pending.length ≤ _; omega, h.fl, h.si⟩⟩
theorem flush_off (h : KeepsI m j fl since k) (hl : m.lasts = false) : ∃ m', m.flush = (m', 42) ∧ KeepsI m' j fl since (k + 1) :=
  ⟨m.tick.spend, by unfold DevM.flush; rw [hl]; rfl, ⟨by rw [(spend_ m).1]; exact h.len, by rw [(spend_ m).2]; have := h.pend; omega, by rw [(spend_ m).1]; exact h.fl, by rw [(spend_ m).2]; exact h.si⟩⟩
theorem flush_on (h : KeepsI m j fl since k) (hj : j < 8) (hl : m.lasts = true) : ∃ m', m.flush = (m', 0) ∧ KeepsI m' j (since.getLastD fl) [] (k + 1) := by
  refine ⟨m.tick.spend.settle (fun _ => true), by unfold DevM.flush; rw [hl]; rfl, ⟨?_, Nat.zero_le _, ?_, rfl⟩⟩
  · refine (putAll_length _ _).trans ?_; rw [(spend_ m).1]; exact h.len
  · show (putAll m.tick.spend.stable (DevM.kept (fun _ => true) m.tick.spend.pending)).getD j sec0 = _
    rw [kept_true, (spend_ m).1, (spend_ m).2, putAll_last _ _ _ (by rw [h.len]; exact hj), h.si, h.fl]
theorem crash_ (h : KeepsI m j fl since k) (hj : j < 8) (bs : List Bool) : (m.crash bs).stab (j : Int) = fl ∨ (m.crash bs).stab (j : Int) ∈ since := by
  have hl : (m.crash bs).stable.length = 8 := (putAll_length _ _).trans h.len
  have hh : (m.crash bs).has (j : Int) = true := by unfold DevM.has; rw [hl]; simp; omega
  have e : (m.crash bs).stab (j : Int) = (toSec (DevM.kept (fun i => bs.getD i false) m.pending) j).getLastD fl := by
    unfold DevM.stab
    rw [hh, if_pos rfl, Int.toNat_natCast]
    show (putAll m.stable (DevM.kept (fun i => bs.getD i false) m.pending)).getD j sec0 = _
    rw [putAll_last _ _ _ (by rw [h.len]; exact hj), h.fl]
  rw [e]
  rcases getLastD_in (toSec (DevM.kept (fun i => bs.getD i false) m.pending) j) fl with h1 | h1
  · exact .inl h1
  · right; rw [← h.si]; exact toSec_kept _ _ _ _ h1
end KeepsI

/-- a device, a sector's variable at X and a row of sectors beside it -/
structure KSt (B : Nat) (w : World) (d : Nat) (F : Nat → Prop) (m : DevM) (X : Nat) (fl : Sec) (v : Value) (since : List Sec) : Prop where
  dev : IsDev w d F m
  low : ∀ k, F k → B ≤ k
  not : ¬ F X
  var : Blk w X 34 (secL fl)
  own : w.ownsRow B 34 128 v since.length (rowsL secL since)
  vX : v.ownBlock ≠ some X
  vF : ∀ g, v.ownBlock = some g → ¬ F g
section
variable {B d X : Nat} {w w' : World} {F F' G : Nat → Prop} {m m' : DevM} {fl fl' : Sec} {v v' : Value} {since : List Sec} (h : KSt B w d F m X fl v since)
theorem KSt.call (h : KSt B w d F m X fl v since) (k : Kept F w w') (h' : IsDev w' d F' m') (g : Grows w.heap.size F F') (hB : B ≤ w.heap.size) : KSt B w' d F' m' X fl v since :=
  ⟨h', g.low h.low hB, g.not h.not h.var.lt, h.var.kept k h.not, owns_kept h.own k h.vF, h.vX, fun x hx => g.not (h.vF x hx) (World.ownsRow.lt h.own x hx).2⟩
theorem KSt.kept (h : KSt B w d F m X fl v since) (k : Kept G w w') (h1 : ∀ i, F i → ¬ G i) (h2 : ¬ G X) (h3 : ∀ g, v.ownBlock = some g → ¬ G g) : KSt B w' d F m X fl v since :=
  ⟨h.dev.kept k h1, h.low, h.not, h.var.kept k h2, owns_kept h.own k h3, h.vX, h.vF⟩
theorem KSt.late (h : KSt B w d F m X fl v since) (k : Kept G w w') (hG : ∀ i, i < w.heap.size → ¬ G i) : KSt B w' d F m X fl v since :=
  h.kept k (fun i hi => hG i (h.dev.lt i hi)) (hG _ h.var.lt) (fun g hg => hG g (World.ownsRow.lt h.own g hg).2)
theorem KSt.alloc (h : KSt B w d F m X fl v since) (o : Obj) : KSt B (w.alloc o) d F m X fl v since := h.late (G := fun _ => False) (Kept.of_alloc _ w o) fun _ _ => id
theorem KSt.setVar (h : KSt B w d F m X fl v since) (k : Kept (· = X) w w') (hb : Blk w' X 34 (secL fl')) : KSt B w' d F m X fl' v since :=
  ⟨h.dev.kept k (fun i hi e => h.not (e ▸ hi)), h.low, h.not, hb, owns_kept h.own k (fun g hg e => h.vX (e ▸ hg)), h.vX, h.vF⟩
theorem KSt.push (h : KSt B w d F m X fl v since) (s : Sec) (hg : w.grownBy w' v.ownBlock) (ho : w'.ownsRow B 34 128 v' (since.length + 1) (rowsL secL since ++ secL s)) (hat : v'.ownBlock = v.ownBlock ∨ v'.ownBlock = some w.heap.size) : KSt B w' d F m X fl v' (since ++ [s]) := by
  have k : Kept (fun k => v.ownBlock = some k) w w' := Kept.of_grown hg (fun k hk _ => hk)
  refine ⟨h.dev.kept k (fun i hi e => h.vF i e hi), h.low, h.not, h.var.kept k h.vX, ?_, ?_, ?_⟩
  · have e : (since ++ [s]).length = since.length + 1 := by simp
    rw [e, rowsL_append, rowsL_one]; exact ho
  · rcases hat with e | e <;> rw [e]
    · exact h.vX
    · intro e'; injection e' with e'; have := h.var.lt; omega
  · intro g hg' hf
    rcases hat with e | e <;> rw [e] at hg'
    · exact h.vF g hg' hf
    · injection hg' with hg'; have := h.dev.lt g hf; omega
theorem KSt.reset (h : KSt B w d F m X fl v since) (hB : B ≤ w.heap.size) : KSt B (w.alloc (.cells #[] 34)) d F m X fl (.slice (some ⟨w.heap.size, 0, none⟩) 0 0) [] := by
  have h1 := h.alloc (.cells #[] 34)
  refine ⟨h1.dev, h1.low, h1.not, h1.var, World.ownsRow_made w #[] 0 hB (by decide) (by simp), ?_, ?_⟩
  · intro e; simp [Value.ownBlock] at e; have := h.var.lt; omega
  · intro g hg hf; simp [Value.ownBlock] at hg; have := h.dev.lt g hf; omega
end
end Go.Proofs.Ytfblehdeoloijaa

/- What the law on flushes leans on: two devices beside a row of bools. -/
namespace Go.Proofs.Ytfblehdeoloijaa
open Go.ChangeShapes Go.WideShapes Go.ChangeAt Go.RowKit
set_option linter.unusedVariables false
set_option maxRecDepth 20000

theorem range_below {w w' : World} {b o : Nat} {cs : List Value} (h : w.rangeAt b o cs) (hb : Below w.heap.size w w') : w'.rangeAt b o cs := fun j v hv => (hb.cell (cell_lt (h j v hv))).trans (h j v hv)
theorem below_of_drew {w w' : World} (h : Below w.drew.heap.size w.drew w') : Below w.heap.size w w' := ⟨h.os, h.tape, h.output, h.size, h.block⟩
/-- a guard for the walk's arms: the goal is a list of operations, and not empty -/
theorem IsDev.drew {w : World} {d : Nat} {F : Nat → Prop} {m : DevM} (h : IsDev w d F m) : IsDev w.drew d F m := h.kept (G := fun _ => False) (Kept.refl _ w).drew fun _ _ => id
theorem kept_all (k : Nat → Bool) (p : List (Nat × Sec)) (h : ∀ i, i < p.length → k i = true) : DevM.kept k p = p := by
  unfold DevM.kept
  rw [List.filter_eq_self.2 (fun x hx => ?_)]
  · exact List.zipIdx_map_fst 0 p
  · obtain ⟨h1, h2⟩ := List.mem_zipIdx hx
    exact h _ (by simpa using h2.1)

/-- as it goes on in that law -/
structure FlI (m : DevM) (k : Nat) : Prop where
  len : m.stable.length = 8
  dead : m.dead = false
  left : m.left = -1
  pend : m.pending.length ≤ k
namespace FlI
variable {m : DevM} {k : Nat} (h : FlI m k)
theorem succ (h : FlI m k) : FlI m (k + 1) := ⟨h.len, h.dead, h.left, by have := h.pend; omega⟩
theorem lasts (h : FlI m k) : m.lasts = true := by unfold DevM.lasts; rw [h.dead, h.left]; rfl
theorem spend (h : FlI m k) : m.tick.spend = m.tick := by
  have : m.tick.lasts = true := h.lasts
  unfold DevM.spend
  rw [this, if_pos rfl, if_neg (by show ¬ 0 < m.left; rw [h.left]; decide)]
theorem write (h : FlI m k) (i : Int) (s : Sec) : FlI (m.write i s).1 (k + 1) := by
  unfold DevM.write
  rw [h.lasts, h.spend]
  cases m.has i
  · exact ⟨h.len, h.dead, h.left, by have := h.pend; show m.pending.length ≤ _; omega⟩
  · exact ⟨h.len, h.dead, h.left, by have := h.pend; simp; omega⟩
theorem read_ (h : FlI m k) (j : Nat) (hj : j < 8) : m.read (j : Int) = (m.now.getD j sec0, 0) := by
  have hh : m.has (j : Int) = true := by unfold DevM.has; rw [h.len]; simp; omega
  unfold DevM.read
  rw [hh, h.dead]
  rfl
theorem flush_ (h : FlI m k) : ∃ m', m.tick.flush = (m', 0) ∧ m'.pending = [] ∧ m'.stable = m.now := by
  have h1 : m.tick.lasts = true := h.lasts
  have h2 : m.tick.tick.spend = m.tick.tick := by
    have : m.tick.tick.lasts = true := h.lasts
    unfold DevM.spend
    rw [this, if_pos rfl, if_neg (by show ¬ 0 < m.left; rw [h.left]; decide)]
  refine ⟨m.tick.tick.settle (fun _ => true), ?_, rfl, ?_⟩
  · unfold DevM.flush
    rw [h1, h2]
    rfl
  · show putAll m.stable (DevM.kept (fun _ => true) m.pending) = m.now
    rw [kept_true]
    rfl
theorem crash_ (h : FlI m k) (n : Nat) (hn : k ≤ n) : (m.crash (List.replicate n true)).stable = m.now := by
  show putAll m.stable (DevM.kept (fun i => (List.replicate n true).getD i false) m.pending) = m.now
  rw [kept_all]
  · rfl
  · intro i hi
    have := h.pend
    rw [List.getD_eq_getElem?_getD, List.getElem?_replicate, if_pos (by omega)]
    rfl
end FlI
theorem stab_of {m : DevM} {l : List Sec} (h : m.stable = l) (hl : l.length = 8) (j : Nat) (hj : j < 8) : m.stab (j : Int) = l.getD j sec0 := by
  have hh : m.has (j : Int) = true := by unfold DevM.has; rw [h, hl]; simp; omega
  unfold DevM.stab
  rw [hh, if_pos rfl, h]
  rfl
theorem crash_none {m : DevM} (h : m.pending = []) (bs : List Bool) : (m.crash bs).stable = m.stable := by
  show putAll m.stable (DevM.kept (fun i => bs.getD i false) m.pending) = m.stable
  rw [h]
  rfl

structure Two (B : Nat) (w : World) (d c : Nat) (F G : Nat → Prop) (m1 m2 : DevM) (v : Value) (al : List Value) : Prop where
  dev : IsDev w d F m1
  cev : IsDev w c G m2
  lowF : ∀ k, F k → B ≤ k
  lowG : ∀ k, G k → B ≤ k
  dis : ∀ i, F i → ¬ G i
  own : Own w B 4 v al
  vF : ∀ g, v.ownBlock = some g → ¬ F g ∧ ¬ G g
section
variable {B d c : Nat} {w w' : World} {F F' G G' E : Nat → Prop} {m1 m2 m' : DevM} {v v' : Value} {al : List Value} (h : Two B w d c F G m1 m2 v al)
theorem Two.callD (h : Two B w d c F G m1 m2 v al) (k : Kept F w w') (h' : IsDev w' d F' m') (g : Grows w.heap.size F F') (hB : B ≤ w.heap.size) : Two B w' d c F' G m' m2 v al :=
  ⟨h', h.cev.kept k (fun i hi hf => h.dis i hf hi), g.low h.lowF hB, h.lowG, fun i hf hg => (g.not (fun hf' => h.dis i hf' hg) (h.cev.lt i hg)) hf, owns_kept h.own k (fun x hx => (h.vF x hx).1), fun x hx => ⟨g.not (h.vF x hx).1 (h.own.lt x hx).2, (h.vF x hx).2⟩⟩
theorem Two.callC (h : Two B w d c F G m1 m2 v al) (k : Kept G w w') (h' : IsDev w' c G' m') (g : Grows w.heap.size G G') (hB : B ≤ w.heap.size) : Two B w' d c F G' m1 m' v al :=
  ⟨h.dev.kept k (fun i hi hg => h.dis i hi hg), h', h.lowF, g.low h.lowG hB, fun i hf hg => (g.not (h.dis i hf) (h.dev.lt i hf)) hg, owns_kept h.own k (fun x hx => (h.vF x hx).2), fun x hx => ⟨(h.vF x hx).1, g.not (h.vF x hx).2 (h.own.lt x hx).2⟩⟩
theorem Two.late (h : Two B w d c F G m1 m2 v al) (k : Kept E w w') (hE : ∀ i, i < w.heap.size → ¬ E i) : Two B w' d c F G m1 m2 v al :=
  ⟨h.dev.kept k (fun i hi => hE i (h.dev.lt i hi)), h.cev.kept k (fun i hi => hE i (h.cev.lt i hi)), h.lowF, h.lowG, h.dis, owns_kept h.own k (fun g hg => hE g (h.own.lt g hg).2), h.vF⟩
theorem Two.alloc (h : Two B w d c F G m1 m2 v al) (o : Obj) : Two B (w.alloc o) d c F G m1 m2 v al := h.late (E := fun _ => False) (Kept.of_alloc _ w o) fun _ _ => id
theorem Two.push (h : Two B w d c F G m1 m2 v al) {al' : List Value} (hg : Grew w w' v v') (ho : Own w' B 4 v' al') : Two B w' d c F G m1 m2 v' al' := by
  have k : Kept (fun k => v.ownBlock = some k) w w' := Kept.of_grown hg.1 (fun k hk _ => hk)
  refine ⟨h.dev.kept k (fun i hi e => (h.vF i e).1 hi), h.cev.kept k (fun i hi e => (h.vF i e).2 hi), h.lowF, h.lowG, h.dis, ho, fun g hg' => ?_⟩
  rcases hg.2 with e | ⟨x, e, hx⟩ <;> rw [e] at hg'
  · exact h.vF g hg'
  · injection hg' with hg'
    subst hg'
    exact ⟨fun hf => by have := h.dev.lt _ hf; omega, fun hf => by have := h.cev.lt _ hf; omega⟩
end
end Go.Proofs.Ytfblehdeoloijaa

/- The document's own device: New, There, At, power, Break. -/
namespace Go.Proofs.Ytfblehdeoloijaa
open Go.ChangeShapes Go.WideShapes Go.ChangeAt Go.RowKit
set_option linter.unusedVariables false
set_option maxRecDepth 20000

/-- one element of a slice that reads as rows -/
theorem Reads.rangeRow {α : Type} {f : α → List Value} {n : Nat} (hf : ∀ x, (f x).length = n) (hn : 0 < n) {w : World} {ao : Option Addr} {xs : List α} (h : Reads w ao (rowsL f xs)) {k : Nat} (hk : k < xs.length) :
    ∃ b off, ao = some ⟨b, off, none⟩ ∧ b < w.heap.size ∧ w.rangeAt b (off + k * n) (f xs[k]) := by
  have hl : (rowsL f xs).length = xs.length * n := rowsL_length hf _
  have hle : (k + 1) * n ≤ xs.length * n := Nat.mul_le_mul_right _ hk
  have hs : (k + 1) * n = k * n + n := by rw [Nat.add_mul]; omega
  obtain ⟨b, off, e, _, hb⟩ := h.at (k := k * n) (by omega)
  refine ⟨b, off, e, hb, fun j v hv => ?_⟩
  have hj : j < n := by rw [← hf xs[k]]; exact (List.getElem?_eq_some_iff.1 hv).1
  have h1 := rowsL_at hf xs k hk j v hv
  obtain ⟨b', off', e', c', _⟩ := h.at (k := k * n + j) (by omega)
  rw [e] at e'
  cases e'
  rw [Nat.add_assoc, c']
  obtain ⟨hlt, e2⟩ := List.getElem?_eq_some_iff.1 h1
  rw [← e2]

/-- a device of the document's as a value: its five cells -/
structure RefAt (w : World) (m : DevM) (so : Option Addr) (sc : Nat) (po : Option Addr) (pc : Nat) : Prop where
  st : Reads w so (rowsL secL m.stable)
  pe : Reads w po (rowsL wrL m.pending)
  sc : m.stable.length ≤ sc ∧ (so = none → sc = 0)
  pc : m.pending.length ≤ pc ∧ (po = none → pc = 0)
def refL (m : DevM) (so : Option Addr) (sc : Nat) (po : Option Addr) (pc : Nat) : List Value :=
  [.slice so m.stable.length sc, .slice po m.pending.length pc, .int .i64 (m.ops : Int), .int .i64 (max m.left (-1)), .bool m.dead]
theorem RefAt.below {w w' : World} {m : DevM} {so : Option Addr} {sc : Nat} {po : Option Addr} {pc : Nat} (h : RefAt w m so sc po pc) (hb : Below w.heap.size w w') : RefAt w' m so sc po pc := ⟨h.st.below hb, h.pe.below hb, h.sc, h.pc⟩

theorem There_any (so : Option Addr) (n sc : Nat) (x1 x2 x3 x4 : Value) (i : Int) (hi : I64 i) (hn : n ≤ 1024) (w : World) :
    Calls Try.prog 58 #[.agg #[.slice so n sc, x1, x2, x3, x4], .int .i64 i] w fun e w' => e = .returned (.bool (decide (0 ≤ i) && decide (i < (n : Int)))) ∧ Below w.heap.size w w' := by
  unfold I64 at hi
  by_cases h0 : 0 ≤ i
  · have g0 : decide (0 ≤ i) = true := by simpa using h0
    go_enter Try.func58, Try.ntmps58
    go_wp2
    go_ret
    exact ⟨by simp [g0], (Below.refl _ _).alloc (Nat.le_refl _) _⟩
  · have g0 : decide (0 ≤ i) = false := by simpa using h0
    go_enter Try.func58, Try.ntmps58
    go_wp2
    go_ret
    exact ⟨by simp, (Below.refl _ _).alloc (Nat.le_refl _) _⟩

theorem At_in (so : Option Addr) (st : List Sec) (n sc : Nat) (hn : Hid (st.length = n)) (x1 x2 x3 x4 : Value) (i : Nat) (hi : i < n) (hle : n ≤ 1024) (w : World) (hr : Reads w so (rowsL secL st)) :
    Calls Try.prog 29 #[.agg #[.slice so n sc, x1, x2, x3, x4], .int .i64 (i : Int)] w fun e w' => e = .returned (.agg (secL (st.getD i sec0)).toArray) ∧ Below w.heap.size w w' := by
  have hz := zeroSec
  obtain ⟨b, off, rfl, hbb, hrow⟩ := hr.rangeRow secL_length (by omega) (k := i) (by rw [hn.out]; exact hi)
  obtain ⟨s, hs⟩ : ∃ s, Hid (s = st[i]'(by rw [hn.out]; exact hi)) := ⟨_, Lib.hid rfl⟩
  rw [← hs.out] at hrow
  have hg : Hid (st.getD i sec0 = s) := Lib.hid (by rw [hs.out]; simp [hn.out, hi])
  have hrow := Lib.hid hrow
  have hr := Lib.hid hr
  have ht := There_any (some ⟨b, off, none⟩) n sc x1 x2 x3 x4 i (by unfold I64; omega) hle
  have ht := Lib.hid ht
  have i1 : (i : Int) < (n : Int) := by omega
  have i0 : (0 : Int) ≤ (i : Int) := by omega
  go_enter Try.func29, Try.ntmps29
  go_wp2_with fail
  refine (ht.out _).mono ?_
  rintro e w1 ⟨rfl, b1⟩
  have hz1 : w.heap.size + 1 + 1 ≤ w1.heap.size := by simpa using b1.size
  have c0 : w1.cell? ⟨w.heap.size, 0, none⟩ = some (.slice (some ⟨b, off, none⟩) n sc) := (b1.cell (p := ⟨w.heap.size, 0, none⟩) (by simp; omega)).trans ((((Blk.newA w 47 #[.slice (some ⟨b, off, none⟩) n sc, x1, x2, x3, x4]).alloc _).cell 0).trans rfl)
  have hb1 := Lib.hid (((Blk.new (w.alloc (.cells #[.slice (some ⟨b, off, none⟩) n sc, x1, x2, x3, x4] 47)) 34 (secL sec0))).below b1 (by simp))
  have hr1 := Lib.hid (range_below hrow.out ((((Below.refl _ _).alloc (Nat.le_refl _) _).alloc (by simp) _).trans (b1.mono (by simp; omega))))
  have q1 := Lib.hid ((((Below.refl w.heap.size w).alloc (Nat.le_refl _) (.cells #[.slice (some ⟨b, off, none⟩) n sc, x1, x2, x3, x4] 47)).alloc (by simp) (.cells (secL sec0).toArray 34)).trans (b1.mono (by simp; omega)))
  have b1 := Lib.hid b1
  go_wp2_with (first
    | ((with_reducible refine guardList ?_); refine wantList_load (by rfl) 34 _ rfl b (off + i * 128) (by rfl) (secL s) _ hr1.out Try.underlying34 rfl (infoSecL _) ?_)
    | ((with_reducible refine guardList ?_); refine wantList_store (by rfl) 34 _ _ rfl (w.heap.size + 1) 0 (by rfl) (secL s) (by rfl) _ (secL sec0) (secL s) (by simpa using hb1.out) (by simp [secL_length]) (secL_one _) (infoSecL _) (whole_new (by simp [secL_length])) ?_
       intro w2 hb2 k2 z2
       have hb2 := Lib.hid hb2
       have k2 := Lib.hid k2
       clear z2))
  refine bodyPost_ret (results_row rfl (rowSec hb2.out)) rfl ⟨by rw [hg.out], Kept.out q1.out k2.out (fun i _ e => by omega) (by omega)⟩
end Go.Proofs.Ytfblehdeoloijaa
