/- A device: Rot. -/
import Derived.Test.YtfpacnokecfhmaaVdevJ
namespace Go.Proofs.Ytfpacnokecfhmaa
open Go.ChangeShapes Go.WideShapes Go.ChangeAt Go.RowKit
set_option linter.unusedVariables false

set_option maxRecDepth 100000 in
set_option maxHeartbeats 4000000 in
theorem Rot_in (L : DevL) (m : DevM) (i : Nat) (s : Sec) (w : World) (h : DevAt w L m) (hi : i < m.stable.length) (hp : m.pending.length ≤ 1000000000) :
    Calls Try.prog 23 #[.pointer (some ⟨L.d, 0, none⟩), .int .i64 (i : Int), .agg (secL s).toArray] w fun e w' => e = .returned (.int .i64 0) ∧
      DevStep w L { m with stable := m.stable.set i s, pending := m.pending.map fun x => (x.1, if x.1 = i then s else x.2) } w' := by
  have hl := h.fits.len
  have hh : m.has (i : Int) = true := by simp [DevM.has]; omega
  have i1 : (i : Int) < (m.stable.length : Int) := by omega
  have i2 : (0 : Int) ≤ (i : Int) := by omega
  obtain ⟨ao, cap, hv, hg⟩ := owns_form h.pe
  have hv := Lib.hid hv
  have hg := Lib.hid hg
  have hbx : ¬ L.foot w.heap.size := fun e => by have := h.lt _ e; omega
  have hbx := Lib.hid hbx
  have hats := Lib.hid h.fits.at_
  have hm0 := Lib.hid (h.mid.alloc (.cells (secL s).toArray 33))
  have hs0 := Lib.hid (Blk.new w 33 (secL s))
  have h := Lib.hid h
  go_enter Try.func23, Try.ntmps23
  go_wp2_with (first
    | ((with_reducible refine (has_any L m _ _ (h.out.alloc _) (by unfold I64; omega)).mono ?_); rintro e w' ⟨rfl, rfl⟩; rw [hh]))
  refine inO_region [(3, fun w' => w'.cell? ⟨L.d, 0, none⟩ = some (.slice (some ⟨L.sb, 0, none⟩) m.stable.length m.stable.length)), (5, fun w' => w'.rangeAt (w.heap.size) (0) (secL s))] (by kernel_rfl) (Owed.cons (hm0.out.c0) (Owed.cons ((hs0.out.drew.range fun j v hv => by simpa using hv)) (Owed.nil _ _))) ?_
  refine inO_take 0 ⟨_, _, _, _, _, _⟩ (.pointer (some ⟨L.d, 0, none⟩)) rfl (by kernel_rfl) (by kernel_rfl) (by kernel_rfl) (fun _ _ _ h => h) rfl (fun ww => exec_move (by rfl) (by rfl) ww) ?_
  simp only [Act.put, List.setIfInBounds_toArray, List.set_cons_zero, List.set_cons_succ]
  refine inO_take 1 ⟨_, _, _, _, _, _⟩ (.pointer (some ⟨L.d, 0, none⟩)) rfl (by kernel_rfl) (by kernel_rfl) (by kernel_rfl) (fun _ _ _ h => h) rfl (fun ww => exec_nilCheck (by rfl) (by rfl) ww) ?_
  simp only [Act.put, List.setIfInBounds_toArray, List.set_cons_zero, List.set_cons_succ]
  refine inO_take 2 ⟨_, _, _, _, _, _⟩ (.pointer (some ⟨L.d, 0, none⟩)) rfl (by kernel_rfl) (by kernel_rfl) (by kernel_rfl) (fun _ _ _ h => h) rfl (fun ww => by go_simp) ?_
  simp only [Act.put, List.setIfInBounds_toArray, List.set_cons_zero, List.set_cons_succ]
  refine inO_load 3 ⟨_, _, _, _, _, _⟩ (.slice (some ⟨L.sb, 0, none⟩) m.stable.length m.stable.length) (fun w' => w'.cell? ⟨L.d, 0, none⟩ = some (.slice (some ⟨L.sb, 0, none⟩) m.stable.length m.stable.length)) rfl (by kernel_rfl) (by kernel_rfl) (by kernel_rfl) (fun _ _ _ h => h) rfl (.head _) (fun ww hw => by go_simp) ?_
  simp only [Act.put, List.setIfInBounds_toArray, List.set_cons_zero, List.set_cons_succ]
  refine inO_take 4 ⟨_, _, _, _, _, _⟩ (.int .i64 (i : Int)) rfl (by kernel_rfl) (by kernel_rfl) (by kernel_rfl) (fun _ _ _ h => h) rfl (fun ww => exec_move (by rfl) (by rfl) ww) ?_
  simp only [Act.put, List.setIfInBounds_toArray, List.set_cons_zero, List.set_cons_succ]
  refine inO_load 5 ⟨_, _, _, _, _, _⟩ (.agg (secL s).toArray) (fun w' => w'.rangeAt (w.heap.size) (0) (secL s)) rfl (by kernel_rfl) (by kernel_rfl) (by kernel_rfl) (fun _ _ _ h => h) rfl (.tail _ (.head _)) (fun ww hw => exec_load_mid _ _ (by rfl) _ _ (by rfl) _ _ hw Try.underlying33 rfl (infoSecL _)) ?_
  simp only [Act.put, List.setIfInBounds_toArray, List.set_cons_zero, List.set_cons_succ]
  refine inO_take 6 ⟨_, _, _, _, _, _⟩ (.pointer (some ⟨L.sb, i * 128, none⟩)) rfl (by kernel_rfl) (by kernel_rfl) (by kernel_rfl) (fun _ _ _ h => h) rfl (fun ww => by go_simp) ?_
  simp only [Act.put, List.setIfInBounds_toArray, List.set_cons_zero, List.set_cons_succ]
  refine inO_step 7 ⟨_, _, _, _, _, _⟩ rfl (by kernel_rfl) rfl (fun K hK => ?_)
  refine wp_store_blk 33 _ _ rfl L.sb (i * 128) rfl (secL s) rfl _ (rowsL secL m.stable) (rowsL secL (m.stable.set i s)) hm0.out.st.drew (by rw [rowsL_length secL_length, secL_length]; omega) (secL_one _) (infoSecL _) (by rw [rowsL_set secL_length _ _ hi, secL_length]) ?_
  intro w1 hb1 k1 z1
  refine hK _ _ (Keeps.late (by kernel_rfl) (Keeps.late (by kernel_rfl) (Keeps.nil _ _ _))) ?_
  clear hK K
  simp only [Act.put]
  refine inO_done (by kernel_rfl) ?_
  have hm1 := Lib.hid (hm0.out.drew.putSt (List.length_set ..) hb1 k1)
  have hs1 := Lib.hid (hs0.out.drew.kept k1 (fun e => hbx.out (.inr (.inl e))))
  have q1 := Lib.hid ((Kept.of_alloc L.foot w (.cells (secL s).toArray 33)).drew.then k1 fun i _ e => .inr (.inl e))
  clear hb1 k1 z1
  go_wp2
  refine inO_region [(3, fun w' => w'.cell? ⟨L.d, 1, none⟩ = some (.slice (some ⟨L.nb, 0, none⟩) m.stable.length m.stable.length)), (5, fun w' => w'.rangeAt (w.heap.size) (0) (secL s))] (by kernel_rfl) (Owed.cons (hm1.out.c1) (Owed.cons ((hs1.out.drew.range fun j v hv => by simpa using hv)) (Owed.nil _ _))) ?_
  refine inO_take 0 ⟨_, _, _, _, _, _⟩ (.pointer (some ⟨L.d, 0, none⟩)) rfl (by kernel_rfl) (by kernel_rfl) (by kernel_rfl) (fun _ _ _ h => h) rfl (fun ww => exec_move (by rfl) (by rfl) ww) ?_
  simp only [Act.put, List.setIfInBounds_toArray, List.set_cons_zero, List.set_cons_succ]
  refine inO_take 1 ⟨_, _, _, _, _, _⟩ (.pointer (some ⟨L.d, 0, none⟩)) rfl (by kernel_rfl) (by kernel_rfl) (by kernel_rfl) (fun _ _ _ h => h) rfl (fun ww => exec_nilCheck (by rfl) (by rfl) ww) ?_
  simp only [Act.put, List.setIfInBounds_toArray, List.set_cons_zero, List.set_cons_succ]
  refine inO_take 2 ⟨_, _, _, _, _, _⟩ (.pointer (some ⟨L.d, 1, none⟩)) rfl (by kernel_rfl) (by kernel_rfl) (by kernel_rfl) (fun _ _ _ h => h) rfl (fun ww => by go_simp) ?_
  simp only [Act.put, List.setIfInBounds_toArray, List.set_cons_zero, List.set_cons_succ]
  refine inO_load 3 ⟨_, _, _, _, _, _⟩ (.slice (some ⟨L.nb, 0, none⟩) m.stable.length m.stable.length) (fun w' => w'.cell? ⟨L.d, 1, none⟩ = some (.slice (some ⟨L.nb, 0, none⟩) m.stable.length m.stable.length)) rfl (by kernel_rfl) (by kernel_rfl) (by kernel_rfl) (fun _ _ _ h => h) rfl (.head _) (fun ww hw => by go_simp) ?_
  simp only [Act.put, List.setIfInBounds_toArray, List.set_cons_zero, List.set_cons_succ]
  refine inO_take 4 ⟨_, _, _, _, _, _⟩ (.int .i64 (i : Int)) rfl (by kernel_rfl) (by kernel_rfl) (by kernel_rfl) (fun _ _ _ h => h) rfl (fun ww => exec_move (by rfl) (by rfl) ww) ?_
  simp only [Act.put, List.setIfInBounds_toArray, List.set_cons_zero, List.set_cons_succ]
  refine inO_load 5 ⟨_, _, _, _, _, _⟩ (.agg (secL s).toArray) (fun w' => w'.rangeAt (w.heap.size) (0) (secL s)) rfl (by kernel_rfl) (by kernel_rfl) (by kernel_rfl) (fun _ _ _ h => h) rfl (.tail _ (.head _)) (fun ww hw => exec_load_mid _ _ (by rfl) _ _ (by rfl) _ _ hw Try.underlying33 rfl (infoSecL _)) ?_
  simp only [Act.put, List.setIfInBounds_toArray, List.set_cons_zero, List.set_cons_succ]
  refine inO_take 6 ⟨_, _, _, _, _, _⟩ (.pointer (some ⟨L.nb, i * 128, none⟩)) rfl (by kernel_rfl) (by kernel_rfl) (by kernel_rfl) (fun _ _ _ h => h) rfl (fun ww => by go_simp) ?_
  simp only [Act.put, List.setIfInBounds_toArray, List.set_cons_zero, List.set_cons_succ]
  refine inO_step 7 ⟨_, _, _, _, _, _⟩ rfl (by kernel_rfl) rfl (fun K hK => ?_)
  refine wp_store_blk 33 _ _ rfl L.nb (i * 128) rfl (secL s) rfl _ (rowsL secL m.now) (rowsL secL (m.now.set i s)) hm1.out.nw.drew (by rw [rowsL_length secL_length, secL_length, DevM.now_length]; omega) (secL_one _) (infoSecL _) (by rw [rowsL_set secL_length _ _ (by rw [DevM.now_length]; exact hi), secL_length]) ?_
  intro w2 hb2 k2 z2
  refine hK _ _ (Keeps.late (by kernel_rfl) (Keeps.late (by kernel_rfl) (Keeps.nil _ _ _))) ?_
  clear hK K
  simp only [Act.put]
  refine inO_done (by kernel_rfl) ?_
  have hm2 := Lib.hid (hm1.out.drew.putNw (List.length_set ..) hb2 k2)
  have hs2 := Lib.hid (hs1.out.drew.kept k2 (fun e => hbx.out (.inr (.inr (.inl e)))))
  have q2 := Lib.hid (q1.out.drew.then k2 fun i _ e => .inr (.inr (.inl e)))
  clear hb2 k2 z2
  have c2 := hm2.out.c2
  rw [hv.out] at c2
  go_wp2
  go_loopw [31] (fun j wr => ∃ k : Nat, k ≤ m.pending.length ∧ j = .int .i64 k ∧ Hid (MidAt wr L { m with pending := rotTo m.pending i s k } (m.stable.set i s) (m.now.set i s)) ∧ Hid (Blk wr w.heap.size 33 (secL s)) ∧ Hid (Kept L.foot w wr))
    (fun j _ => m.pending.length - (intOf j).toNat)
  case atStart => exact ⟨0, by omega, rfl, Lib.hid (by rw [rotTo_zero]; exact hm2.out), hs2, q2⟩
  case round =>
    clear c2 hm2 hs2 q2
    obtain ⟨k, hk, rfl, hm, hs, hkp⟩ := hrel
    by_cases hlt : k < m.pending.length
    · obtain ⟨g, rfl, hgo, hgl⟩ := hg.out (by omega)
      have hlt' : k < (rotTo m.pending i s k).length := by rw [rotTo_length]; exact hlt
      have r1 := hm.out.peRange hv.out (k := k) hlt'
      have hat := rotTo_at m.pending i s k hlt
      have cp : wr.cell? ⟨g, k * 129, none⟩ = some (.int .i64 (m.pending[k].1 : Int)) := by
        have := r1 0 (.int .i64 (m.pending[k].1 : Int)) (by show (wrL (rotTo m.pending i s k)[k])[0]? = _; rw [hat]; rfl)
        simpa using this
      have c2 := hm.out.c2
      rw [hv.out] at c2
      have hpe := hm.out.pe
      have hll : (rotTo m.pending i s k).length = m.pending.length := rotTo_length _ _ _ _
      have hpe : wr.ownsRow 0 62 129 L.pv m.pending.length (rowsL wrL (rotTo m.pending i s k)) := by
        have h0 : wr.ownsRow 0 62 129 L.pv (rotTo m.pending i s k).length (rowsL wrL (rotTo m.pending i s k)) := hm.out.pe
        rw [hll] at h0
        exact h0
      rw [hv.out] at hpe
      have hpe := Lib.hid (owns_kept (F := fun _ => False) hpe (Kept.refl _ wr).drew fun _ _ => id)
      have hat := Lib.hid hat
      have hll := Lib.hid hll
      have r1 := Lib.hid r1
      have k1 : (k : Int) < (m.pending.length : Int) := by omega
      have k2 : (0 : Int) ≤ (k : Int) := by omega
      by_cases he : m.pending[k].1 = i
      · have e1 : ((m.pending[k].1 : Int) == (i : Int)) = true := by simp; omega
        have he := Lib.hid he
        go_wp2
        refine inO_region [(3, fun w' => w'.cell? ⟨L.d, 2, none⟩ = some (.slice (some ⟨g, 0, none⟩) m.pending.length cap)), (5, fun w' => w'.rangeAt (w.heap.size) (0) (secL s))] (by kernel_rfl) (Owed.cons (c2) (Owed.cons ((hs.out.drew.range fun j v hv => by simpa using hv)) (Owed.nil _ _))) ?_
        refine inO_take 0 ⟨_, _, _, _, _, _⟩ (.pointer (some ⟨L.d, 0, none⟩)) rfl (by kernel_rfl) (by kernel_rfl) (by kernel_rfl) (fun _ _ _ h => h) rfl (fun ww => exec_move (by rfl) (by rfl) ww) ?_
        simp only [Act.put, List.setIfInBounds_toArray, List.set_cons_zero, List.set_cons_succ]
        refine inO_take 1 ⟨_, _, _, _, _, _⟩ (.pointer (some ⟨L.d, 0, none⟩)) rfl (by kernel_rfl) (by kernel_rfl) (by kernel_rfl) (fun _ _ _ h => h) rfl (fun ww => exec_nilCheck (by rfl) (by rfl) ww) ?_
        simp only [Act.put, List.setIfInBounds_toArray, List.set_cons_zero, List.set_cons_succ]
        refine inO_take 2 ⟨_, _, _, _, _, _⟩ (.pointer (some ⟨L.d, 2, none⟩)) rfl (by kernel_rfl) (by kernel_rfl) (by kernel_rfl) (fun _ _ _ h => h) rfl (fun ww => by go_simp) ?_
        simp only [Act.put, List.setIfInBounds_toArray, List.set_cons_zero, List.set_cons_succ]
        refine inO_load 3 ⟨_, _, _, _, _, _⟩ (.slice (some ⟨g, 0, none⟩) m.pending.length cap) (fun w' => w'.cell? ⟨L.d, 2, none⟩ = some (.slice (some ⟨g, 0, none⟩) m.pending.length cap)) rfl (by kernel_rfl) (by kernel_rfl) (by kernel_rfl) (fun _ _ _ h => h) rfl (.head _) (fun ww hw => by go_simp) ?_
        simp only [Act.put, List.setIfInBounds_toArray, List.set_cons_zero, List.set_cons_succ]
        refine inO_take 4 ⟨_, _, _, _, _, _⟩ (.int .i64 (k : Int)) rfl (by kernel_rfl) (by kernel_rfl) (by kernel_rfl) (fun _ _ _ h => h) rfl (fun ww => exec_move (by rfl) (by rfl) ww) ?_
        simp only [Act.put, List.setIfInBounds_toArray, List.set_cons_zero, List.set_cons_succ]
        refine inO_load 5 ⟨_, _, _, _, _, _⟩ (.agg (secL s).toArray) (fun w' => w'.rangeAt (w.heap.size) (0) (secL s)) rfl (by kernel_rfl) (by kernel_rfl) (by kernel_rfl) (fun _ _ _ h => h) rfl (.tail _ (.head _)) (fun ww hw => exec_load_mid _ _ (by rfl) _ _ (by rfl) _ _ hw Try.underlying33 rfl (infoSecL _)) ?_
        simp only [Act.put, List.setIfInBounds_toArray, List.set_cons_zero, List.set_cons_succ]
        refine inO_take 6 ⟨_, _, _, _, _, _⟩ (.pointer (some ⟨g, k * 129, none⟩)) rfl (by kernel_rfl) (by kernel_rfl) (by kernel_rfl) (fun _ _ _ h => h) rfl (fun ww => by go_simp) ?_
        simp only [Act.put, List.setIfInBounds_toArray, List.set_cons_zero, List.set_cons_succ]
        refine inO_take 7 ⟨_, _, _, _, _, _⟩ (.pointer (some ⟨g, k * 129 + 1, none⟩)) rfl (by kernel_rfl) (by kernel_rfl) (by kernel_rfl) (fun _ _ _ h => h) rfl (fun ww => by go_simp) ?_
        simp only [Act.put, List.setIfInBounds_toArray, List.set_cons_zero, List.set_cons_succ]
        refine inO_step 8 ⟨_, _, _, _, _, _⟩ rfl (by kernel_rfl) rfl (fun K hK => ?_)
        refine wp_store_own 33 _ _ rfl g (k * 129 + 1) m.pending.length cap 0 129 62 (rowsL wrL (rotTo m.pending i s k)) (rowsL wrL ((rotTo m.pending i s k).set k (((rotTo m.pending i s k)[k]'(by rw [rotTo_length]; exact hlt)).1, s))) rfl (secL s) rfl hpe.out (by rw [secL_length]; omega) (secL_one _) (infoSecL _) (wr_splice _ k (by rw [rotTo_length]; exact hlt) s) ?_
        intro w3 ho3 k3
        refine hK _ _ (Keeps.late (by kernel_rfl) (Keeps.late (by kernel_rfl) (Keeps.nil _ _ _))) ?_
        clear hK K
        simp only [Act.put]
        refine inO_done (by kernel_rfl) ?_
        go_wp2
        go_roundw
        case rel =>
          refine ⟨k + 1, by omega, by go_num, Lib.hid ?_, Lib.hid (hs.out.drew.kept k3 (fun e => hbx.out (.inr (.inr (.inr (by rw [hgo, e])))))), Lib.hid (hkp.out.drew.then k3 fun i _ e => .inr (.inr (.inr (by rw [hgo, e]))))⟩
          rw [hat.out] at ho3
          rw [rotTo_succ _ _ _ _ hlt, if_pos he.out]
          rw [← hv.out] at ho3
          have hq := hm.out.drew.putPe hv.out (p' := (rotTo m.pending i s k).set k (m.pending[k].1, s)) (by simp) (by show w3.ownsRow 0 _ 129 L.pv (rotTo m.pending i s k).length _; rw [hll.out]; exact ho3) k3
          exact hq
        case measure => simp [intOf] <;> omega
      · have e1 : ((m.pending[k].1 : Int) == (i : Int)) = false := by simp; omega
        have he := Lib.hid he
        go_wp2
        go_roundw
        case rel => exact ⟨k + 1, by omega, by go_num, Lib.hid (by rw [rotTo_pass _ _ _ _ hlt he.out]; exact hm.out), hs, hkp⟩
        case measure => simp [intOf] <;> omega
    · obtain rfl : k = m.pending.length := by omega
      rw [rotTo_all] at hm
      go_wp2
      go_ret
      have hf := h.out.fits
      refine ⟨rfl, L.pv, ⟨?_, hm.out.st, ?_, hm.out.pe, hm.out.ne, ⟨hf.ops, hf.left, ?_, ?_⟩⟩, hkp.out, .inl rfl⟩
      · have e1 : (m.stable.set i s).length = m.stable.length := List.length_set ..
        have := hm.out.base
        rw [← e1] at this
        exact this
      · have e1 : DevM.now { m with stable := m.stable.set i s, pending := m.pending.map fun x => (x.1, if x.1 = i then s else x.2) } = m.now.set i s := rot_now _ _ _ _
        rw [e1]
        exact hm.out.nw
      · rw [List.length_set]; exact hf.len
      · intro p hp
        obtain ⟨q, hq, rfl⟩ := List.mem_map.1 hp
        rw [List.length_set]
        exact hf.at_ q hq

set_option maxHeartbeats 1000000 in
theorem Rot_out (L : DevL) (m : DevM) (i : Int) (hi : I64 i) (s : Sec) (w : World) (h : DevAt w L m) (hh : m.has i = false) :
    Calls Try.prog 23 #[.pointer (some ⟨L.d, 0, none⟩), .int .i64 i, .agg (secL s).toArray] w fun e w' => e = .returned (.int .i64 41) ∧ DevStep w L m w' := by
  have h := Lib.hid h
  go_enter Try.func23, Try.ntmps23
  go_wp2_with (first
    | ((with_reducible refine (has_any L m _ _ (h.out.alloc _) hi).mono ?_); rintro e w' ⟨rfl, rfl⟩; rw [hh]))
  go_ret
  exact ⟨rfl, DevStep.of (F := L.foot) (h.out.alloc _) (Kept.of_alloc _ w _) (fun _ => id)⟩

theorem Rot_any (L : DevL) (m : DevM) (i : Int) (hi : I64 i) (s : Sec) (w : World) (h : DevAt w L m) (hp : m.pending.length ≤ 1000000000) :
    Calls Try.prog 23 #[.pointer (some ⟨L.d, 0, none⟩), .int .i64 i, .agg (secL s).toArray] w fun e w' => e = .returned (.int .i64 (m.rot i s).2) ∧ DevStep w L (m.rot i s).1 w' := by
  cases hh : m.has i
  · refine (Rot_out L m i hi s w h hh).mono ?_
    rintro e w' ⟨rfl, hs⟩
    exact ⟨by simp [DevM.rot, hh], by simpa [DevM.rot, hh] using hs⟩
  · obtain ⟨k, rfl, hk⟩ := has_nat hh
    refine (Rot_in L m k s w h hk hp).mono ?_
    rintro e w' ⟨rfl, hs⟩
    exact ⟨by simp [DevM.rot, hh], by simpa [DevM.rot, hh] using hs⟩
end Go.Proofs.Ytfpacnokecfhmaa
