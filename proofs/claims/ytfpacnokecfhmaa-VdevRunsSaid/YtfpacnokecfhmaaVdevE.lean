/- A device: Write. -/
import Derived.Test.YtfpacnokecfhmaaVdevD
import Derived.Test.YtfpacnokecfhmaaOrdL
namespace Go.Proofs.Ytfpacnokecfhmaa
open Go.ChangeShapes Go.WideShapes Go.ChangeAt Go.RowKit
set_option linter.unusedVariables false

theorem infoWr : (Try.prog.info? 62).map (fun i => (i.zero, i.size, i.bytes)) = some (some (.agg (wrL (0, sec0)).toArray), 129, 136) := by kernel_rfl
theorem infoWrL (p : Nat × Sec) : (Try.prog.info? 62).map (·.size) = some (wrL p).length := by
  rw [wrL_length]; kernel_rfl
theorem zeroWrL (p : Nat × Sec) : ((Try.prog.info? 62).bind (·.zero)).map (·.cells.size) = some (wrL p).length := by
  rw [wrL_length]; kernel_rfl
theorem infoSlWr : (Try.prog.info? 56).map (·.size) = some 1 := by kernel_rfl
theorem built_wr (i : Nat) (s : Sec) : Try.prog.built 62 [(0, .int .i64 (i : Int)), (1, .agg (secL s).toArray)] = some (wrL (i, s)).toArray := by
  have h1 : Try.prog.built 62 [(0, .int .i64 (i : Int)), (1, .agg (secL s).toArray)] = Instr.fill (#[(0, 1), (1, 128)][·]?) (wrL (0, sec0)).toArray [(0, .int .i64 (i : Int)), (1, .agg (secL s).toArray)] := by kernel_rfl
  rw [h1, fill_cons _ _ 0 _ _ 0 [.int .i64 (i : Int)] rfl rfl (by simp [wrL_length]), fill_cons _ _ 1 _ _ 1 (secL s) (by simp [secL_length]) rfl (by simp [wrL, secL_length]), fill_nil]
  simp [wrL, secL_length]
theorem one_of_owns {w : World} {base e size n : Nat} {v : Value} {xs : List Value} (h : w.ownsRow base e size v n xs) : v.oneCell' = true := by
  obtain ⟨ao, cap, rfl, _⟩ := owns_form h
  rfl

set_option maxHeartbeats 1000000 in
theorem Write_ok (L : DevL) (m m2 : DevM) (i : Nat) (s : Sec) (w : World) (h : DevAt w L m) (hi : i < m.stable.length) (hla : m.lasts = true) (hm2 : Hid (m2 = m.tick.spend)) (hp : m.pending.length ≤ 1000000000) :
    Calls Try.prog 15 #[.pointer (some ⟨L.d, 0, none⟩), .int .i64 (i : Int), .agg (secL s).toArray] w fun e w' => e = .returned (.int .i64 0) ∧
      ∃ pv', DevAt w' { L with pv := pv' } { m2 with pending := m2.pending ++ [(i, s)] } ∧ Kept L.foot w w' ∧ (pv'.ownBlock = L.pv.ownBlock ∨ ∃ g, pv'.ownBlock = some g ∧ w.heap.size ≤ g) := by
  obtain ⟨i0, hi0, hz0, hz1, hz2⟩ := info_parts infoWr
  have hl := h.fits.len
  have hh : m.tick.has (i : Int) = true := by simp [DevM.has, DevM.tick]; omega
  have hla' : m.tick.lasts = true := hla
  have hlt := h.base.lt
  have hp2 : m2.pending.length ≤ 1000000000 := by rw [hm2.out, DevM.spend_pending]; exact hp
  have h := Lib.hid h
  go_enter Try.func15, Try.ntmps15
  go_wp2_with (first
    | ((with_reducible refine (count_any L m _ (h.out.alloc _)).mono ?_)
       rintro e w1 ⟨rfl, h1, k1, z1⟩
       have hs1 := Lib.hid ((Blk.new w 33 (secL s)).kept k1 (by omega))
       have z1 : w1.heap.size = w.heap.size + 1 := by simpa using z1.symm
       have h1 := Lib.hid h1
       have k1 := Lib.hid k1)
    | ((with_reducible refine (has_any L m.tick _ _ h1.out (by unfold I64; omega)).mono ?_); rintro e w' ⟨rfl, rfl⟩; rw [hh])
    | ((with_reducible refine (lasts_any L m.tick _ h1.out).mono ?_)
       rintro e w2 ⟨rfl, h2, k2, z2⟩
       rw [hla']
       rw [← hm2.out] at h2
       have hs2 := Lib.hid (hs1.out.kept k2 (by omega))
       have z2 : w2.heap.size = w.heap.size + 1 := by omega
       have hlt2 := h2.base.lt
       have h2 := Lib.hid h2
       have k2 := Lib.hid k2))
  refine inO_region [(4, fun w' => w'.cell? ⟨L.d, 2, none⟩ = some (L.pv)), (6, fun w' => w'.rangeAt (w.heap.size) (0) (secL s))] (by kernel_rfl) (Owed.cons (h2.out.c2) (Owed.cons ((hs2.out.range fun j v hv => by simpa using hv)) (Owed.nil _ _))) ?_
  refine inO_take 0 ⟨_, _, _, _, _, _⟩ (.pointer (some ⟨L.d, 0, none⟩)) rfl (by kernel_rfl) (by kernel_rfl) (by kernel_rfl) (fun _ _ _ h => h) rfl (fun ww => exec_move (by rfl) (by rfl) ww) ?_
  simp only [Act.put, List.setIfInBounds_toArray, List.set_cons_zero, List.set_cons_succ]
  refine inO_take 1 ⟨_, _, _, _, _, _⟩ (.pointer (some ⟨L.d, 0, none⟩)) rfl (by kernel_rfl) (by kernel_rfl) (by kernel_rfl) (fun _ _ _ h => h) rfl (fun ww => exec_move (by rfl) (by rfl) ww) ?_
  simp only [Act.put, List.setIfInBounds_toArray, List.set_cons_zero, List.set_cons_succ]
  refine inO_take 2 ⟨_, _, _, _, _, _⟩ (.pointer (some ⟨L.d, 0, none⟩)) rfl (by kernel_rfl) (by kernel_rfl) (by kernel_rfl) (fun _ _ _ h => h) rfl (fun ww => exec_nilCheck (by rfl) (by rfl) ww) ?_
  simp only [Act.put, List.setIfInBounds_toArray, List.set_cons_zero, List.set_cons_succ]
  refine inO_take 3 ⟨_, _, _, _, _, _⟩ (.pointer (some ⟨L.d, 2, none⟩)) rfl (by kernel_rfl) (by kernel_rfl) (by kernel_rfl) (fun _ _ _ h => h) rfl (fun ww => by go_simp) ?_
  simp only [Act.put, List.setIfInBounds_toArray, List.set_cons_zero, List.set_cons_succ]
  refine inO_load 4 ⟨_, _, _, _, _, _⟩ (L.pv) (fun w' => w'.cell? ⟨L.d, 2, none⟩ = some (L.pv)) rfl (by kernel_rfl) (by kernel_rfl) (by kernel_rfl) (fun _ _ _ h => h) rfl (.head _) (fun ww hw => by go_simp) ?_
  simp only [Act.put, List.setIfInBounds_toArray, List.set_cons_zero, List.set_cons_succ]
  refine inO_take 5 ⟨_, _, _, _, _, _⟩ (.int .i64 (i : Int)) rfl (by kernel_rfl) (by kernel_rfl) (by kernel_rfl) (fun _ _ _ h => h) rfl (fun ww => exec_move (by rfl) (by rfl) ww) ?_
  simp only [Act.put, List.setIfInBounds_toArray, List.set_cons_zero, List.set_cons_succ]
  refine inO_load 6 ⟨_, _, _, _, _, _⟩ (.agg (secL s).toArray) (fun w' => w'.rangeAt (w.heap.size) (0) (secL s)) rfl (by kernel_rfl) (by kernel_rfl) (by kernel_rfl) (fun _ _ _ h => h) rfl (.tail _ (.head _)) (fun ww hw => exec_load_mid _ _ (by rfl) _ _ (by rfl) _ _ hw Try.underlying33 rfl (infoSecL _)) ?_
  simp only [Act.put, List.setIfInBounds_toArray, List.set_cons_zero, List.set_cons_succ]
  refine inO_take 7 ⟨_, _, _, _, _, _⟩ (.agg (wrL (i, s)).toArray) rfl (by kernel_rfl) (by kernel_rfl) (by kernel_rfl) (fun _ _ _ h => h) rfl (fun ww => exec_build _ _ (by rfl) _ _ (by rfl) (built_wr i s) ww) ?_
  simp only [Act.put, List.setIfInBounds_toArray, List.set_cons_zero, List.set_cons_succ]
  refine inO_step 8 ⟨_, _, _, _, _, _⟩ rfl (by kernel_rfl) rfl (fun K hK => ?_)
  refine wp_buildOne 56 62 _ rfl (wrL (i, s)) rfl Try.underlying56 (infoWrL _) (zeroWrL _) (by rw [wrL_length]; omega) (by rw [wrL_length]; decide) ?_
  refine hK _ _ (Keeps.cons (fun hh => cell_alloc hh _) (Keeps.late (by kernel_rfl) (Keeps.nil _ _ _))) ?_
  clear hK K
  simp only [Act.put, List.setIfInBounds_toArray, List.set_cons_zero, List.set_cons_succ]
  refine inO_step 9 ⟨_, _, _, _, _, _⟩ rfl (by kernel_rfl) rfl (fun K hK => ?_)
  refine wp_push _ _ 56 rfl 0 62 i0 _ 129 136 Try.underlying56 hi0 hz0 hz1 hz2 (List.size_toArray.trans (wrL_length _)) (by omega) L.pv m2.pending.length (rowsL wrL m2.pending) rfl (World.ownsRow.alloc h2.out.drew.pe _) w2.heap.size 1 (wrL (i, s)) rfl (Blk.new _ _ _) (wrL_length _) (wrL_one _) (by unfold maxLen; omega) (by omega) (Nat.zero_le _) ?_
  intro v' w4 ho4 hg4 hat4
  refine hK _ _ (Keeps.late (by kernel_rfl) (Keeps.late (by kernel_rfl) (Keeps.nil _ _ _))) ?_
  clear hK K
  simp only [Act.put, List.setIfInBounds_toArray, List.set_cons_zero, List.set_cons_succ]
  refine inO_take 10 ⟨_, _, _, _, _, _⟩ (.pointer (some ⟨L.d, 0, none⟩)) rfl (by kernel_rfl) (by kernel_rfl) (by kernel_rfl) (fun _ _ _ h => h) rfl (fun ww => exec_nilCheck (by rfl) (by rfl) ww) ?_
  simp only [Act.put, List.setIfInBounds_toArray, List.set_cons_zero, List.set_cons_succ]
  refine inO_take 11 ⟨_, _, _, _, _, _⟩ (.pointer (some ⟨L.d, 2, none⟩)) rfl (by kernel_rfl) (by kernel_rfl) (by kernel_rfl) (fun _ _ _ h => h) rfl (fun ww => by go_simp) ?_
  simp only [Act.put, List.setIfInBounds_toArray, List.set_cons_zero, List.set_cons_succ]
  refine inO_step 12 ⟨_, _, _, _, _, _⟩ rfl (by kernel_rfl) rfl (fun K hK => ?_)
  refine wp_store_cell 56 _ _ rfl ⟨L.d, 2, none⟩ rfl v' L.pv rfl (one_of_owns ho4) infoSlWr (by rw [Kept.cell (Kept.of_grown (F := fun k => L.pv.ownBlock = some k) hg4 (fun k hk _ => hk)) (by simp; exact Nat.lt_succ_of_lt hlt2) h2.out.dp]; exact (h2.out.drew.alloc _).c2) (by rw [Kept.frozen (Kept.of_grown (F := fun k => L.pv.ownBlock = some k) hg4 (fun k hk _ => hk)) (by simp; exact Nat.lt_succ_of_lt hlt2) h2.out.dp]; exact (h2.out.drew.alloc _).fz 2) ?_
  refine hK _ _ (Keeps.late (by kernel_rfl) (Keeps.late (by kernel_rfl) (Keeps.nil _ _ _))) ?_
  clear hK K
  simp only [Act.put]
  refine inO_done (by kernel_rfl) ?_
  obtain ⟨w5, hw5⟩ : ∃ w5 : World, w5 = w4.setCell ⟨L.d, 2, none⟩ v' := ⟨_, rfl⟩
  have k4 : Kept (fun k => L.pv.ownBlock = some k) (w2.drew.alloc (.cells (wrL (i, s)).toArray 62)) w4 := Kept.of_grown hg4 (fun k hk _ => hk)
  have k5 : Kept (· = L.d) w4 w5 := by rw [hw5]; exact Kept.cellAt w4 _ _ _
  have hz4 := hg4.size
  have hsz4 : w2.heap.size + 1 ≤ w4.heap.size := by simpa using hz4
  have hsz5 := k5.size
  have hb4 : Blk w4 L.d 58 _ := (h2.out.drew.alloc _).base.kept k4 h2.out.dp
  have hb5 := hb4.set 2 v'
  rw [← hw5] at hb5 ⊢
  have c15 : w5.cell? ⟨L.d, 1, none⟩ = some (.slice (some ⟨L.nb, 0, none⟩) m2.stable.length m2.stable.length) := by rw [hb5.cell]; rfl
  have hn5 := Lib.hid (((h2.out.drew.alloc (.cells (wrL (i, s)).toArray 62)).nw.kept k4 h2.out.np).kept k5 h2.out.dn.symm)
  have ht5 := Lib.hid (((h2.out.drew.alloc (.cells (wrL (i, s)).toArray 62)).st.kept k4 h2.out.sp).kept k5 h2.out.ds.symm)
  have hvd : v'.ownBlock ≠ some L.d := by
    rcases hat4 with e | e <;> rw [e]
    · exact h2.out.dp
    · intro e'; injection e' with e'; simp at e'; omega
  have hp5 := Lib.hid (owns_kept ho4 k5 (fun g hg e => hvd (e ▸ hg)))
  have hpb : L.pv.ownBlock ≠ some w.heap.size := fun e => by have := h.out.lt _ (.inr (.inr (.inr e))); omega
  have hs5 := Lib.hid (((hs2.out.drew.alloc (.cells (wrL (i, s)).toArray 62)).kept k4 hpb).kept k5 (by omega))
  have hin : i < m2.now.length := by rw [DevM.now_length, hm2.out, DevM.spend_stable]; exact hi
  have hin2 : (i : Int) < (m2.stable.length : Int) := by rw [DevM.now_length] at hin; omega
  have hi2 : (0 : Int) ≤ (i : Int) := by omega
  have hb5 := Lib.hid hb5
  have k4 := Lib.hid k4
  have k5 := Lib.hid k5
  have hat4 := Lib.hid hat4
  have hg4 := Lib.hid hg4
  have ho4 := Lib.hid ho4
  clear hw5 hb4 hvd
  go_wp2
  refine inO_region [(3, fun w' => w'.cell? ⟨L.d, 1, none⟩ = some (.slice (some ⟨L.nb, 0, none⟩) m2.stable.length m2.stable.length)), (5, fun w' => w'.rangeAt (w.heap.size) (0) (secL s))] (by kernel_rfl) (Owed.cons (c15) (Owed.cons ((hs5.out.range fun j v hv => by simpa using hv)) (Owed.nil _ _))) ?_
  refine inO_take 0 ⟨_, _, _, _, _, _⟩ (.pointer (some ⟨L.d, 0, none⟩)) rfl (by kernel_rfl) (by kernel_rfl) (by kernel_rfl) (fun _ _ _ h => h) rfl (fun ww => exec_move (by rfl) (by rfl) ww) ?_
  simp only [Act.put, List.setIfInBounds_toArray, List.set_cons_zero, List.set_cons_succ]
  refine inO_take 1 ⟨_, _, _, _, _, _⟩ (.pointer (some ⟨L.d, 0, none⟩)) rfl (by kernel_rfl) (by kernel_rfl) (by kernel_rfl) (fun _ _ _ h => h) rfl (fun ww => exec_nilCheck (by rfl) (by rfl) ww) ?_
  simp only [Act.put, List.setIfInBounds_toArray, List.set_cons_zero, List.set_cons_succ]
  refine inO_take 2 ⟨_, _, _, _, _, _⟩ (.pointer (some ⟨L.d, 1, none⟩)) rfl (by kernel_rfl) (by kernel_rfl) (by kernel_rfl) (fun _ _ _ h => h) rfl (fun ww => by go_simp) ?_
  simp only [Act.put, List.setIfInBounds_toArray, List.set_cons_zero, List.set_cons_succ]
  refine inO_load 3 ⟨_, _, _, _, _, _⟩ (.slice (some ⟨L.nb, 0, none⟩) m2.stable.length m2.stable.length) (fun w' => w'.cell? ⟨L.d, 1, none⟩ = some (.slice (some ⟨L.nb, 0, none⟩) m2.stable.length m2.stable.length)) rfl (by kernel_rfl) (by kernel_rfl) (by kernel_rfl) (fun _ _ _ h => h) rfl (.head _) (fun ww hw => by go_simp) ?_
  simp only [Act.put, List.setIfInBounds_toArray, List.set_cons_zero, List.set_cons_succ]
  refine inO_take 4 ⟨_, _, _, _, _, _⟩ (.int .i64 (i : Int)) rfl (by kernel_rfl) (by kernel_rfl) (by kernel_rfl) (fun _ _ _ h => h) rfl (fun ww => exec_move (by rfl) (by rfl) ww) ?_
  simp only [Act.put, List.setIfInBounds_toArray, List.set_cons_zero, List.set_cons_succ]
  refine inO_load 5 ⟨_, _, _, _, _, _⟩ (.agg (secL s).toArray) (fun w' => w'.rangeAt (w.heap.size) (0) (secL s)) rfl (by kernel_rfl) (by kernel_rfl) (by kernel_rfl) (fun _ _ _ h => h) rfl (.tail _ (.head _)) (fun ww hw => exec_load_mid _ _ (by rfl) _ _ (by rfl) _ _ hw Try.underlying33 rfl (infoSecL _)) ?_
  simp only [Act.put, List.setIfInBounds_toArray, List.set_cons_zero, List.set_cons_succ]
  refine inO_take 6 ⟨_, _, _, _, _, _⟩ (.pointer (some ⟨L.nb, i * 128, none⟩)) rfl (by kernel_rfl) (by kernel_rfl) (by kernel_rfl) (fun _ _ _ h => h) rfl (fun ww => by go_simp) ?_
  simp only [Act.put, List.setIfInBounds_toArray, List.set_cons_zero, List.set_cons_succ]
  refine inO_step 7 ⟨_, _, _, _, _, _⟩ rfl (by kernel_rfl) rfl (fun K hK => ?_)
  refine wp_store_blk 33 _ _ rfl L.nb (i * 128) rfl (secL s) rfl _ (rowsL secL m2.now) (rowsL secL (m2.now.set i s)) hn5.out.drew (by rw [rowsL_length secL_length, secL_length]; omega) (secL_one _) (infoSecL _) (by rw [rowsL_set secL_length _ _ hin, secL_length]) ?_
  intro w6 hn6 k6 z6
  refine hK _ _ (Keeps.late (by kernel_rfl) (Keeps.late (by kernel_rfl) (Keeps.nil _ _ _))) ?_
  clear hK K
  simp only [Act.put]
  refine inO_done (by kernel_rfl) ?_
  go_wp2
  go_ret
  have hnb := h2.out.ne
  refine ⟨rfl, v', ⟨?_, ht5.out.drew.kept k6 hnb, ?_, ?_, hnb, ?_⟩, ?_, ?_⟩
  · have := hb5.out.drew.kept k6 h2.out.dn
    simpa using this
  · have : (DevM.now { m2 with pending := m2.pending ++ [(i, s)] }) = m2.now.set i s := putAll_snoc _ _ _
    rw [this]
    exact hn6
  · have h1 : (m2.pending ++ [(i, s)]).length = m2.pending.length + 1 := by simp
    rw [h1, rowsL_append, rowsL_one]
    refine owns_kept (owns_kept (F := fun _ => False) hp5.out (Kept.refl _ w5).drew fun _ _ => id) k6 fun g hg e => ?_
    subst e
    rcases hat4.out with e' | e' <;> rw [e'] at hg
    · exact h2.out.np hg
    · injection hg with hg; simp at hg; have := h2.out.nw.lt; omega
  · have hf := h2.out.fits
    refine ⟨hf.ops, hf.left, hf.len, fun p hp => ?_⟩
    rcases List.mem_append.1 hp with hp | hp
    · exact hf.at_ p hp
    · simp at hp; subst hp; rw [DevM.now_length] at hin; exact hin
  · have q1 : Kept L.foot w w2 := ((Kept.of_alloc L.foot w _).then k1.out fun i _ e => .inl e).then k2.out fun i _ e => .inl e
    have q2 : Kept L.foot w (w2.drew.alloc (.cells (wrL (i, s)).toArray 62)) := q1.drew.alloc _
    exact ((q2.then k4.out fun i _ e => .inr (.inr (.inr e))).then k5.out fun i _ e => .inl e).drew.then k6 fun i _ e => .inr (.inr (.inl e))
  · rcases hat4.out with e | e
    · exact .inl e
    · exact .inr ⟨_, e, by simp; omega⟩
end Go.Proofs.Ytfpacnokecfhmaa
