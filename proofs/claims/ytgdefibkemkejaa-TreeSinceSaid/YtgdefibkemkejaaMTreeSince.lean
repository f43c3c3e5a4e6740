/- TreeSince, for every input: the law returns true and each argument reads behind the call as before. No condition. -/
import Derived.Test.YtgdefibkemkejaaGTreeF
namespace Go.Proofs.Ytgdefibkemkejaa.lawTreeSince
open Go.ChangeShapes Go.WideShapes Go.ChangeAt Go.RowKit Go.Deep
set_option linter.unusedVariables false
set_option maxRecDepth 20000

set_option maxRecDepth 100000 in
set_option maxHeartbeats 8000000 in
theorem walkC (C : TreeC) (ao : Option Addr) (as_ : List Act3) (cap : Nat) (sa sb : Nat) (w : World) (hacts : Acts3 w ao as_) (hl : as_.length ≤ 140737488351232) (hnil : ao = none → cap = 0) (hsa : sa < 18446744073709551616) (hsb : sb < 18446744073709551616) :
    Calls Try.prog 7 #[.slice ao as_.length cap, .int .u64 (sa : Int), .int .u64 (sb : Int)] w fun e w' => e = .returned (.bool true) ∧ Below w.heap.size w w' := by
  obtain ⟨i0, hi, hz0, hz1, hz2⟩ := info_parts infoU8
  obtain ⟨j0, hj, hy0, hy1, hy2⟩ := info_parts infoPtr4
  have hacts := Lib.hid hacts
  have C := Lib.hid C
  obtain ⟨N, hN⟩ : ∃ N, Hid (as_.length = N) := ⟨_, Lib.hid rfl⟩
  rw [hN.out] at hl ⊢
  clear hnil
  obtain ⟨lo, hi2, hlo, hhi, hle, hmin, hmax⟩ : ∃ lo hi2 : Nat, lo < 18446744073709551616 ∧ hi2 < 18446744073709551616 ∧ lo ≤ hi2 ∧ (∀ (ts : Array TypeId) (t : TypeId) (W : World), Sem.run Try.prog (Builtin.min_ ts t #[.int .u64 (sa : Int), .int .u64 (sb : Int)]) W = .ok (.int .u64 (lo : Int)) W) ∧ (∀ (ts : Array TypeId) (t : TypeId) (W : World), Sem.run Try.prog (Builtin.max_ ts t #[.int .u64 (sa : Int), .int .u64 (sb : Int)]) W = .ok (.int .u64 (hi2 : Int)) W) := by
    rcases Nat.lt_trichotomy sb sa with h | h | h
    · refine ⟨sb, sa, hsb, hsa, by omega, fun ts t W => ?_, fun ts t W => ?_⟩
      · rw [run_min_int2, if_pos (by omega)]
      · rw [run_max_int2, if_neg (by omega)]
    · subst h
      refine ⟨sb, sb, hsb, hsb, Nat.le_refl _, fun ts t W => ?_, fun ts t W => ?_⟩
      · rw [run_min_int2, if_neg (by omega)]
      · rw [run_max_int2, if_neg (by omega)]
    · refine ⟨sa, sb, hsa, hsb, by omega, fun ts t W => ?_, fun ts t W => ?_⟩
      · rw [run_min_int2, if_neg (by omega)]
      · rw [run_max_int2, if_pos (by omega)]
  go_enter Try.func7, Try.ntmps7
  go_wp2_with fail
  refine (treeAlive_any C.out _).mono ?_
  rintro e w1 ⟨rfl, b1⟩
  have q1 := Lib.hid b1
  clear b1
  by_cases h25 : N > 30
  · go_wp2
    go_ret
    exact ⟨rfl, q1.out⟩
  go_wp2_with fail
  refine (made11_any 400 (by unfold I64; omega) w1).mono ?_
  rintro e w2 ⟨g, d, B, F, rfl, hP⟩
  have hP := hP.later q1.out
  rw [show DevM.newLen 400 = 400 from rfl] at hP
  obtain ⟨m0, hm0⟩ : ∃ m, Hid (m = (⟨DevM.fresh 400, newS 400, 1, 0⟩ : PileM)) := ⟨_, Lib.hid rfl⟩
  rw [← hm0.out] at hP
  have tp0 : Hid (TP m0 400 0 396) := Lib.hid (by rw [hm0.out]; exact newS_first (n := 400) (by decide) 1 0 (by decide) (by decide) count400)
  have st0 : m0.stamp ≤ 1 + 0 := by rw [hm0.out]; exact Nat.le_refl _
  have ok0 : Hid (TreeOk m0 400 tree0 fun _ => sec0) := Lib.hid (tree0_ok m0 400)
  have T1 := Lib.hid ((show TL w w2 g d B F m0 [] from ⟨hP, Side.nil _ _ _⟩).box 32 (p3L tree0.root))
  clear hP q1 hm0
  go_wp2
  go_loopw [32] (fun i wr => ∃ (k : Nat) (F : Nat → Prop) (m : PileM) (t : Tree) (f : Nat → Sec) (kk c : Nat), k ≤ N ∧ i = .int .i64 k ∧ Hid (TL w wr g d B F m [(w2.heap.size, 32, p3L t.root)]) ∧ Hid (TP m 400 kk c) ∧ kk ≤ 3 * k ∧ 396 ≤ c + 3 * k ∧ m.stamp ≤ 1 + k ∧ Hid (TreeOk m 400 t f))
    (fun i _ => N - (intOf i).toNat)
  case atStart => exact ⟨0, F, m0, tree0, _, 0, 396, by omega, rfl, T1, tp0, by omega, by omega, st0, ok0⟩
  case round =>
    clear T1 tp0 ok0 st0
    obtain ⟨k, F, m, t, f, kk, c, hk, rfl, T1, tp, hkk3, hc3', hst, ok⟩ := hrel
    by_cases hlt : k < N
    · have hA0 := hacts.out.each (as_[k]'(by rw [hN.out]; exact hlt)) (List.getElem_mem _)
      obtain ⟨ab, aoff, rfl, hab, a0, a1, a2⟩ := (hacts.out.below T1.out.p.q).at_ (k := k) (by rw [hN.out]; exact hlt)
      generalize as_[k]'(by rw [hN.out]; exact hlt) = A at *
      obtain ⟨kd, nm, dao, dcap, data⟩ := A
      dsimp only at a0 a1 a2
      have hA := Lib.hid hA0
      clear hA0
      have hkk : kk ≤ 100000 := by omega
      have hc3 : 3 ≤ c := by omega
      have T := Lib.hid (show TL w (wr.alloc (.cells #[.int .i64 kd, .int .i64 nm, .slice dao data.length dcap] 41)) g d B F m [(wr.heap.size, 41, act3L ⟨kd, nm, dao, dcap, data⟩), (w2.heap.size, 32, p3L t.root)] from T1.out.box 41 (act3L ⟨kd, nm, dao, dcap, data⟩))
      by_cases h5 : kd = 5
      · subst h5
        go_wp2_with fail
        refine (oNext T.out.p.at_ (by omega)).mono ?_
        rintro e w4 ⟨rfl, F4, S4⟩
        have T4 := Lib.hid (T.out.turn S4).tail
        have tp4 := Lib.hid (tp.out.next (by omega))
        have ok4 := Lib.hid ok.out.next
        clear S4
        go_wp2
        go_roundw
        case rel => exact ⟨k + 1, F4, m.next, t, f, kk, c, by omega, by go_num, T4, tp4, by omega, by omega, (by show m.stamp + 1 ≤ _; omega), ok4⟩
        case measure => simp [intOf] <;> omega
      · have h5b : (kd == 5) = false := by simpa using h5
        go_wp2
        generalize wr.alloc (.cells #[.int .i64 kd, .int .i64 nm, .slice dao data.length dcap] 41) = Wn at *
        clear a0 a1 a2 hab h5b
        have T := Lib.hid T.out.drew
        refine inO_region [(1, fun w' => w'.rangeAt (w2.heap.size) (0) (p3L t.root)), (3, fun w' => w'.cell? ⟨wr.heap.size, 1, none⟩ = some (.int .i64 nm)), (6, fun w' => w'.cell? ⟨wr.heap.size, 2, none⟩ = some (.slice dao data.length dcap))] (by kernel_rfl) (Owed.cons (rangeB T.out.b1) (Owed.cons (T.out.b0.cell 1) (Owed.cons (T.out.b0.cell 2) (Owed.nil _ _)))) ?_
        generalize Wn.drew = V0 at *
        refine inO_take 0 ⟨_, _, _, _, _, _⟩ (.pointer (some ⟨g, 0, none⟩)) rfl (by kernel_rfl) (by kernel_rfl) (by kernel_rfl) (fun _ _ _ h => h) rfl (fun ww => exec_move (by rfl) (by rfl) ww) ?_
        simp only [Act.put, List.setIfInBounds_toArray, List.set_cons_zero, List.set_cons_succ]
        refine inO_load 1 ⟨_, _, _, _, _, _⟩ (.agg (p3L t.root).toArray) (fun w' => w'.rangeAt (w2.heap.size) (0) (p3L t.root)) rfl (by kernel_rfl) (by kernel_rfl) (by kernel_rfl) (fun _ _ _ h => h) rfl (.head _) (fun ww hw => exec_load_mid _ _ (by rfl) _ _ (by rfl) _ _ hw Try.underlying32 rfl (infoPtr _)) ?_
        simp only [Act.put, List.setIfInBounds_toArray, List.set_cons_zero, List.set_cons_succ]
        refine inO_take 2 ⟨_, _, _, _, _, _⟩ (.pointer (some ⟨wr.heap.size, 1, none⟩)) rfl (by kernel_rfl) (by kernel_rfl) (by kernel_rfl) (fun _ _ _ h => h) rfl (fun ww => by go_simp) ?_
        simp only [Act.put, List.setIfInBounds_toArray, List.set_cons_zero, List.set_cons_succ]
        refine inO_load 3 ⟨_, _, _, _, _, _⟩ (.int .i64 nm) (fun w' => w'.cell? ⟨wr.heap.size, 1, none⟩ = some (.int .i64 nm)) rfl (by kernel_rfl) (by kernel_rfl) (by kernel_rfl) (fun _ _ _ h => h) rfl (.tail _ (.head _)) (fun ww hw => by go_simp) ?_
        simp only [Act.put, List.setIfInBounds_toArray, List.set_cons_zero, List.set_cons_succ]
        refine inO_take 5 ⟨_, _, _, _, _, _⟩ (.pointer (some ⟨wr.heap.size, 2, none⟩)) rfl (by kernel_rfl) (by kernel_rfl) (by kernel_rfl) (fun _ _ _ h => h) rfl (fun ww => by go_simp) ?_
        simp only [Act.put, List.setIfInBounds_toArray, List.set_cons_zero, List.set_cons_succ]
        refine inO_load 6 ⟨_, _, _, _, _, _⟩ (.slice dao data.length dcap) (fun w' => w'.cell? ⟨wr.heap.size, 2, none⟩ = some (.slice dao data.length dcap)) rfl (by kernel_rfl) (by kernel_rfl) (by kernel_rfl) (fun _ _ _ h => h) rfl (.tail _ (.tail _ (.head _))) (fun ww hw => by go_simp) ?_
        simp only [Act.put, List.setIfInBounds_toArray, List.set_cons_zero, List.set_cons_succ]
        refine inO_two 4 13 ⟨_, _, _, _, _, _⟩ ⟨_, _, _, _, _, _⟩ rfl rfl (by kernel_rfl) rfl rfl (fun K hK => ?_) (fun K hK => ?_)
        · refine wp_noBytes rfl ?_
          have T1 := Lib.hid (T.out.box 5 [])
          refine hK _ _ (Keeps.cons (fun hh j v hv => cell_alloc (hh j v hv) _) (Keeps.cons (fun hh => cell_alloc hh _) (Keeps.cons (fun hh => cell_alloc hh _) (Keeps.nil _ _ _)))) ?_
          clear hK K
          simp only [Act.put, List.setIfInBounds_toArray, List.set_cons_zero, List.set_cons_succ]
          obtain ⟨V1, hV1⟩ : ∃ V, V = V0.alloc (.cells ([] : List Value).toArray 5) := ⟨_, rfl⟩
          rw [← hV1] at T1 ⊢
          clear hV1
          refine inO_two 7 13 ⟨_, _, _, _, _, _⟩ ⟨_, _, _, _, _, _⟩ rfl rfl (by kernel_rfl) rfl rfl (fun K hK => ?_) (fun K hK => ?_)
          · refine wp_own_app (.tmp 46) (.tmp 48) 39 rfl (V0.heap.size) 5 i0 (.int .u8 0) 1 Try.underlying39 hi hz0 hz1 hz2 rfl (.slice (some ⟨V0.heap.size, 0, none⟩) 0 0) [] (by rfl) (Own.of_none T1.out.b0) dao data.length dcap (bytesV data) (by rfl) hA.out.nil (by rw [bytesV_length]) (Reads.below hA.out.data T1.out.p.q) (bytesV_one _) (by have := hA.out.cap; dsimp only at this; simp; omega) (by have := hA.out.cap; dsimp only at this; simp; omega) (Nat.le_of_lt T1.out.b0.lt) fun v7 w7 ho7 hg7 => ?_
            have T2 := Lib.hid (TL.grow T1.out.tail (Own.of_none T1.out.b0) hg7 (fun k hk => by cases hk; exact ⟨(T1.out.l _ (.head _)).2.1, (T1.out.l _ (.head _)).2.2, fun y hy => Nat.ne_of_lt (T.out.l y hy).1.lt⟩))
            obtain ⟨co, cc, rfl, hc1, hc2, hc4, hrd, hc5⟩ := Own.shapeN ho7 (n := data.length) (by simp [bytesV_length])
            have rd2 : Hid (Bytes w7 co data) := Lib.hid hrd
            have hnF : Hid (∀ a, co = some a → ¬ F a.block) := Lib.hid (fun a ha hf => by have h1 := (hc5 a ha).1; have h2 := T.out.p.at_.lt _ hf; omega)
            refine hK _ _ (Keeps.cons (fun _ => rangeB T2.out.b1) (Keeps.cons (fun _ => T2.out.b0.cell 1) (Keeps.late (by kernel_rfl) (Keeps.nil _ _ _)))) ?_
            clear hK K hrd hc5 ho7 hg7
            simp only [Act.put, List.setIfInBounds_toArray, List.set_cons_zero, List.set_cons_succ]
            refine inO_two 8 13 ⟨_, _, _, _, _, _⟩ ⟨_, _, _, _, _, _⟩ rfl rfl (by kernel_rfl) rfl rfl (fun K hK => ?_) (fun K hK => ?_)
            · refine wp_call Try.func12 (by kernel_rfl) rfl _ _ rfl _ rfl _ (C.out.put T2.out.p.at_ tp.out hkk ok.out nm hA.out.num co data cc rd2.out hc1 hc2 hc4 hnF.out hc3) fun e w8 R => ?_
              obtain ⟨m', t', v8, F', er, c', L', rfl, an, tp', hc', S', lp⟩ := R
              have T3 := Lib.hid (T2.out.turn S')
              obtain ⟨lo, lc, rfl, _⟩ := lp
              refine ⟨_, rfl, ?_⟩
              refine hK _ _ (Keeps.late (by kernel_rfl) (Keeps.late (by kernel_rfl) (Keeps.late (by kernel_rfl) (Keeps.nil _ _ _)))) ?_
              clear hK K S'
              simp only [Act.put, List.setIfInBounds_toArray, List.set_cons_zero, List.set_cons_succ]
              refine inO_take 9 ⟨_, _, _, _, _, _⟩ ((.tuple #[.agg (p3L t'.root).toArray, .slice lo L'.length lc, .int .i64 er])) rfl (by kernel_rfl) (by kernel_rfl) (by kernel_rfl) (fun _ _ _ h => h) rfl (fun ww => exec_move (by rfl) (by rfl) ww) ?_
              simp only [Act.put, List.setIfInBounds_toArray, List.set_cons_zero, List.set_cons_succ]
              refine inO_take 10 ⟨_, _, _, _, _, _⟩ (.agg (p3L t'.root).toArray) rfl (by kernel_rfl) (by kernel_rfl) (by kernel_rfl) (fun _ _ _ h => h) rfl (fun ww => by go_simp) ?_
              simp only [Act.put, List.setIfInBounds_toArray, List.set_cons_zero, List.set_cons_succ]
              refine inO_take 11 ⟨_, _, _, _, _, _⟩ (.slice lo L'.length lc) rfl (by kernel_rfl) (by kernel_rfl) (by kernel_rfl) (fun _ _ _ h => h) rfl (fun ww => by go_simp) ?_
              simp only [Act.put, List.setIfInBounds_toArray, List.set_cons_zero, List.set_cons_succ]
              refine inO_take 12 ⟨_, _, _, _, _, _⟩ (.int .i64 er) rfl (by kernel_rfl) (by kernel_rfl) (by kernel_rfl) (fun _ _ _ h => h) rfl (fun ww => by go_simp) ?_
              simp only [Act.put, List.setIfInBounds_toArray, List.set_cons_zero, List.set_cons_succ]
              refine inO_step 13 ⟨_, _, _, _, _, _⟩ rfl (by kernel_rfl) rfl (fun K hK => ?_)
              refine wp_newPtr rfl ?_
              have T4 := Lib.hid (T3.out.box 32 (p3L p3z))
              refine hK _ _ (Keeps.cons (fun hh j v hv => cell_alloc (hh j v hv) _) (Keeps.cons (fun hh => cell_alloc hh _) (Keeps.cons (fun hh => cell_alloc hh _) (Keeps.nil _ _ _)))) ?_
              clear hK K
              simp only [Act.put, List.setIfInBounds_toArray, List.set_cons_zero, List.set_cons_succ]
              obtain ⟨V4, hV4⟩ : ∃ V, V = w8.alloc (.cells (p3L p3z).toArray 32) := ⟨_, rfl⟩
              rw [← hV4] at T4 ⊢
              clear hV4
              refine inO_step 14 ⟨_, _, _, _, _, _⟩ rfl (by kernel_rfl) rfl (fun K hK => ?_)
              refine wp_store_blk 32 _ _ rfl (w8.heap.size) 0 (by rfl) (p3L t'.root) (by rfl) 32 (p3L p3z) (p3L t'.root) T4.out.b0 (Nat.le_of_eq rfl) (p3L_one _) (infoPtr _) (whole_new rfl) fun w14 h14 k14 z14 => ?_
              have T5 := Lib.hid (T4.out.over (fun y hy => Nat.ne_of_lt (T3.out.l y (hy)).1.lt) k14 h14)
              refine hK _ _ (Keeps.late (by kernel_rfl) (Keeps.late (by kernel_rfl) (Keeps.late (by kernel_rfl) (Keeps.nil _ _ _)))) ?_
              clear hK K h14 k14 z14
              simp only [Act.put]
              refine inO_take 15 ⟨_, _, _, _, _, _⟩ (.slice lo L'.length lc) rfl (by kernel_rfl) (by kernel_rfl) (by kernel_rfl) (fun _ _ _ h => h) rfl (fun ww => by go_simp) ?_
              simp only [Act.put, List.setIfInBounds_toArray, List.set_cons_zero, List.set_cons_succ]
              refine inO_take 16 ⟨_, _, _, _, _, _⟩ (.int .i64 er) rfl (by kernel_rfl) (by kernel_rfl) (by kernel_rfl) (fun _ _ _ h => h) rfl (fun ww => by go_simp) ?_
              simp only [Act.put, List.setIfInBounds_toArray, List.set_cons_zero, List.set_cons_succ]
              refine inO_done (by kernel_rfl) ?_
              have TF := T5
              go_wp2_with (first
                | ((with_reducible refine n2Dst (some 54) (by rfl) ?_); refine wantList_load (by rfl) 32 _ rfl (w8.heap.size) 0 (by rfl) (p3L t'.root) _ (rangeB TF.out.b0) Try.underlying32 rfl (infoPtr _) ?_)
                | ((with_reducible refine guardList ?_)
                   refine wantList_store (by rfl) 32 _ _ rfl w2.heap.size 0 (by rfl) (p3L t'.root) (by rfl) _ (p3L t.root) (p3L t'.root) TF.out.b2 (Nat.le_of_eq rfl) (p3L_one _) (infoPtr _) (whole_new rfl) ?_
                   intro w15 h15 k15 z15
                   have TG := Lib.hid (TL.over (TF.out.sub (L' := [(w2.heap.size, 32, p3L t.root)]) (fun y hy => by rcases List.mem_cons.1 hy with rfl | hy; exact .tail _ (.tail _ (.head _)); cases hy)) (fun y hy => by cases hy) k15 h15)
                   clear h15 k15 z15))
              go_roundw
              case rel => exact ⟨k + 1, F', m', t', an.ok.choose, kk + 3, c', by omega, by go_num, TG, Lib.hid tp', by omega, by omega, by rw [an.stamp]; omega, Lib.hid an.ok.choose_spec⟩
              case measure => simp [intOf] <;> omega
            · refine wp_newPtr rfl ?_
              have T3 := Lib.hid (T2.out.box 32 (p3L p3z))
              refine hK _ _ (Keeps.cons (fun hh j v hv => cell_alloc (hh j v hv) _) (Keeps.cons (fun hh => cell_alloc hh _) (Keeps.cons (fun hh => cell_alloc hh _) (Keeps.nil _ _ _)))) ?_
              clear hK K
              simp only [Act.put, List.setIfInBounds_toArray, List.set_cons_zero, List.set_cons_succ]
              obtain ⟨V3, hV3⟩ : ∃ V, V = w7.alloc (.cells (p3L p3z).toArray 32) := ⟨_, rfl⟩
              have rd3 : Hid (Bytes V3 co data) := Lib.hid (by rw [hV3]; exact Reads.alloc rd2.out _)
              rw [← hV3] at T3 ⊢
              clear hV3
              refine inO_step 8 ⟨_, _, _, _, _, _⟩ rfl (by kernel_rfl) rfl (fun K hK => ?_)
              refine wp_call Try.func12 (by kernel_rfl) rfl _ _ rfl _ rfl _ (C.out.put T3.out.p.at_ tp.out hkk ok.out nm hA.out.num co data cc rd3.out hc1 hc2 hc4 hnF.out hc3) fun e w8 R => ?_
              obtain ⟨m', t', v8, F', er, c', L', rfl, an, tp', hc', S', lp⟩ := R
              have T4 := Lib.hid (T3.out.turn S')
              obtain ⟨lo, lc, rfl, _⟩ := lp
              refine ⟨_, rfl, ?_⟩
              refine hK _ _ (Keeps.late (by kernel_rfl) (Keeps.late (by kernel_rfl) (Keeps.late (by kernel_rfl) (Keeps.nil _ _ _)))) ?_
              clear hK K S'
              simp only [Act.put, List.setIfInBounds_toArray, List.set_cons_zero, List.set_cons_succ]
              refine inO_take 9 ⟨_, _, _, _, _, _⟩ ((.tuple #[.agg (p3L t'.root).toArray, .slice lo L'.length lc, .int .i64 er])) rfl (by kernel_rfl) (by kernel_rfl) (by kernel_rfl) (fun _ _ _ h => h) rfl (fun ww => exec_move (by rfl) (by rfl) ww) ?_
              simp only [Act.put, List.setIfInBounds_toArray, List.set_cons_zero, List.set_cons_succ]
              refine inO_take 10 ⟨_, _, _, _, _, _⟩ (.agg (p3L t'.root).toArray) rfl (by kernel_rfl) (by kernel_rfl) (by kernel_rfl) (fun _ _ _ h => h) rfl (fun ww => by go_simp) ?_
              simp only [Act.put, List.setIfInBounds_toArray, List.set_cons_zero, List.set_cons_succ]
              refine inO_take 11 ⟨_, _, _, _, _, _⟩ (.slice lo L'.length lc) rfl (by kernel_rfl) (by kernel_rfl) (by kernel_rfl) (fun _ _ _ h => h) rfl (fun ww => by go_simp) ?_
              simp only [Act.put, List.setIfInBounds_toArray, List.set_cons_zero, List.set_cons_succ]
              refine inO_take 12 ⟨_, _, _, _, _, _⟩ (.int .i64 er) rfl (by kernel_rfl) (by kernel_rfl) (by kernel_rfl) (fun _ _ _ h => h) rfl (fun ww => by go_simp) ?_
              simp only [Act.put, List.setIfInBounds_toArray, List.set_cons_zero, List.set_cons_succ]
              refine inO_step 14 ⟨_, _, _, _, _, _⟩ rfl (by kernel_rfl) rfl (fun K hK => ?_)
              refine wp_store_blk 32 _ _ rfl (w7.heap.size) 0 (by rfl) (p3L t'.root) (by rfl) 32 (p3L p3z) (p3L t'.root) T4.out.b0 (Nat.le_of_eq rfl) (p3L_one _) (infoPtr _) (whole_new rfl) fun w14 h14 k14 z14 => ?_
              have T5 := Lib.hid (T4.out.over (fun y hy => Nat.ne_of_lt (T2.out.l y (hy)).1.lt) k14 h14)
              refine hK _ _ (Keeps.late (by kernel_rfl) (Keeps.late (by kernel_rfl) (Keeps.late (by kernel_rfl) (Keeps.nil _ _ _)))) ?_
              clear hK K h14 k14 z14
              simp only [Act.put]
              refine inO_take 15 ⟨_, _, _, _, _, _⟩ (.slice lo L'.length lc) rfl (by kernel_rfl) (by kernel_rfl) (by kernel_rfl) (fun _ _ _ h => h) rfl (fun ww => by go_simp) ?_
              simp only [Act.put, List.setIfInBounds_toArray, List.set_cons_zero, List.set_cons_succ]
              refine inO_take 16 ⟨_, _, _, _, _, _⟩ (.int .i64 er) rfl (by kernel_rfl) (by kernel_rfl) (by kernel_rfl) (fun _ _ _ h => h) rfl (fun ww => by go_simp) ?_
              simp only [Act.put, List.setIfInBounds_toArray, List.set_cons_zero, List.set_cons_succ]
              refine inO_done (by kernel_rfl) ?_
              have TF := T5
              go_wp2_with (first
                | ((with_reducible refine n2Dst (some 54) (by rfl) ?_); refine wantList_load (by rfl) 32 _ rfl (w7.heap.size) 0 (by rfl) (p3L t'.root) _ (rangeB TF.out.b0) Try.underlying32 rfl (infoPtr _) ?_)
                | ((with_reducible refine guardList ?_)
                   refine wantList_store (by rfl) 32 _ _ rfl w2.heap.size 0 (by rfl) (p3L t'.root) (by rfl) _ (p3L t.root) (p3L t'.root) TF.out.b2 (Nat.le_of_eq rfl) (p3L_one _) (infoPtr _) (whole_new rfl) ?_
                   intro w15 h15 k15 z15
                   have TG := Lib.hid (TL.over (TF.out.sub (L' := [(w2.heap.size, 32, p3L t.root)]) (fun y hy => by rcases List.mem_cons.1 hy with rfl | hy; exact .tail _ (.tail _ (.head _)); cases hy)) (fun y hy => by cases hy) k15 h15)
                   clear h15 k15 z15))
              go_roundw
              case rel => exact ⟨k + 1, F', m', t', an.ok.choose, kk + 3, c', by omega, by go_num, TG, Lib.hid tp', by omega, by omega, by rw [an.stamp]; omega, Lib.hid an.ok.choose_spec⟩
              case measure => simp [intOf] <;> omega
          · refine wp_newPtr rfl ?_
            have T2 := Lib.hid (T1.out.box 32 (p3L p3z))
            refine hK _ _ (Keeps.cons (fun hh j v hv => cell_alloc (hh j v hv) _) (Keeps.cons (fun hh => cell_alloc hh _) (Keeps.cons (fun hh => cell_alloc hh _) (Keeps.nil _ _ _)))) ?_
            clear hK K
            simp only [Act.put, List.setIfInBounds_toArray, List.set_cons_zero, List.set_cons_succ]
            obtain ⟨V2, hV2⟩ : ∃ V, V = V1.alloc (.cells (p3L p3z).toArray 32) := ⟨_, rfl⟩
            rw [← hV2] at T2 ⊢
            clear hV2
            refine inO_step 7 ⟨_, _, _, _, _, _⟩ rfl (by kernel_rfl) rfl (fun K hK => ?_)
            refine wp_own_app (.tmp 46) (.tmp 48) 39 rfl (V0.heap.size) 5 i0 (.int .u8 0) 1 Try.underlying39 hi hz0 hz1 hz2 rfl (.slice (some ⟨V0.heap.size, 0, none⟩) 0 0) [] (by rfl) (Own.of_none T2.out.b1) dao data.length dcap (bytesV data) (by rfl) hA.out.nil (by rw [bytesV_length]) (Reads.below hA.out.data T2.out.p.q) (bytesV_one _) (by have := hA.out.cap; dsimp only at this; simp; omega) (by have := hA.out.cap; dsimp only at this; simp; omega) (Nat.le_of_lt T2.out.b1.lt) fun v7 w7 ho7 hg7 => ?_
            have T3 := Lib.hid (TL.grow (T2.out.sub (fun y hy => by rcases List.mem_cons.1 hy with rfl | hy; exact .head _; exact .tail _ (.tail _ hy))) (Own.of_none T2.out.b1) hg7 (fun k hk => by cases hk; exact ⟨(T2.out.l _ (.tail _ (.head _))).2.1, (T2.out.l _ (.tail _ (.head _))).2.2, fun y hy => by rcases List.mem_cons.1 hy with rfl | hy; exact Nat.ne_of_gt (show V0.heap.size < V1.heap.size from T1.out.b0.lt); exact Nat.ne_of_lt (T.out.l y hy).1.lt⟩))
            obtain ⟨co, cc, rfl, hc1, hc2, hc4, hrd, hc5⟩ := Own.shapeN ho7 (n := data.length) (by simp [bytesV_length])
            have rd3 : Hid (Bytes w7 co data) := Lib.hid hrd
            have hnF : Hid (∀ a, co = some a → ¬ F a.block) := Lib.hid (fun a ha hf => by have h1 := (hc5 a ha).1; have h2 := T.out.p.at_.lt _ hf; omega)
            refine hK _ _ (Keeps.cons (fun _ => rangeB T3.out.b2) (Keeps.cons (fun _ => T3.out.b1.cell 1) (Keeps.late (by kernel_rfl) (Keeps.nil _ _ _)))) ?_
            clear hK K hrd hc5 ho7 hg7
            simp only [Act.put, List.setIfInBounds_toArray, List.set_cons_zero, List.set_cons_succ]
            refine inO_step 8 ⟨_, _, _, _, _, _⟩ rfl (by kernel_rfl) rfl (fun K hK => ?_)
            refine wp_call Try.func12 (by kernel_rfl) rfl _ _ rfl _ rfl _ (C.out.put T3.out.p.at_ tp.out hkk ok.out nm hA.out.num co data cc rd3.out hc1 hc2 hc4 hnF.out hc3) fun e w8 R => ?_
            obtain ⟨m', t', v8, F', er, c', L', rfl, an, tp', hc', S', lp⟩ := R
            have T4 := Lib.hid (T3.out.turn S')
            obtain ⟨lo, lc, rfl, _⟩ := lp
            refine ⟨_, rfl, ?_⟩
            refine hK _ _ (Keeps.late (by kernel_rfl) (Keeps.late (by kernel_rfl) (Keeps.late (by kernel_rfl) (Keeps.nil _ _ _)))) ?_
            clear hK K S'
            simp only [Act.put, List.setIfInBounds_toArray, List.set_cons_zero, List.set_cons_succ]
            refine inO_take 9 ⟨_, _, _, _, _, _⟩ ((.tuple #[.agg (p3L t'.root).toArray, .slice lo L'.length lc, .int .i64 er])) rfl (by kernel_rfl) (by kernel_rfl) (by kernel_rfl) (fun _ _ _ h => h) rfl (fun ww => exec_move (by rfl) (by rfl) ww) ?_
            simp only [Act.put, List.setIfInBounds_toArray, List.set_cons_zero, List.set_cons_succ]
            refine inO_take 10 ⟨_, _, _, _, _, _⟩ (.agg (p3L t'.root).toArray) rfl (by kernel_rfl) (by kernel_rfl) (by kernel_rfl) (fun _ _ _ h => h) rfl (fun ww => by go_simp) ?_
            simp only [Act.put, List.setIfInBounds_toArray, List.set_cons_zero, List.set_cons_succ]
            refine inO_take 11 ⟨_, _, _, _, _, _⟩ (.slice lo L'.length lc) rfl (by kernel_rfl) (by kernel_rfl) (by kernel_rfl) (fun _ _ _ h => h) rfl (fun ww => by go_simp) ?_
            simp only [Act.put, List.setIfInBounds_toArray, List.set_cons_zero, List.set_cons_succ]
            refine inO_take 12 ⟨_, _, _, _, _, _⟩ (.int .i64 er) rfl (by kernel_rfl) (by kernel_rfl) (by kernel_rfl) (fun _ _ _ h => h) rfl (fun ww => by go_simp) ?_
            simp only [Act.put, List.setIfInBounds_toArray, List.set_cons_zero, List.set_cons_succ]
            refine inO_step 14 ⟨_, _, _, _, _, _⟩ rfl (by kernel_rfl) rfl (fun K hK => ?_)
            refine wp_store_blk 32 _ _ rfl (V1.heap.size) 0 (by rfl) (p3L t'.root) (by rfl) 32 (p3L p3z) (p3L t'.root) T4.out.b0 (Nat.le_of_eq rfl) (p3L_one _) (infoPtr _) (whole_new rfl) fun w14 h14 k14 z14 => ?_
            have T5 := Lib.hid (T4.out.over (fun y hy => Nat.ne_of_lt (T1.out.l y (.tail _ hy)).1.lt) k14 h14)
            refine hK _ _ (Keeps.late (by kernel_rfl) (Keeps.late (by kernel_rfl) (Keeps.late (by kernel_rfl) (Keeps.nil _ _ _)))) ?_
            clear hK K h14 k14 z14
            simp only [Act.put]
            refine inO_take 15 ⟨_, _, _, _, _, _⟩ (.slice lo L'.length lc) rfl (by kernel_rfl) (by kernel_rfl) (by kernel_rfl) (fun _ _ _ h => h) rfl (fun ww => by go_simp) ?_
            simp only [Act.put, List.setIfInBounds_toArray, List.set_cons_zero, List.set_cons_succ]
            refine inO_take 16 ⟨_, _, _, _, _, _⟩ (.int .i64 er) rfl (by kernel_rfl) (by kernel_rfl) (by kernel_rfl) (fun _ _ _ h => h) rfl (fun ww => by go_simp) ?_
            simp only [Act.put, List.setIfInBounds_toArray, List.set_cons_zero, List.set_cons_succ]
            refine inO_done (by kernel_rfl) ?_
            have TF := T5
            go_wp2_with (first
              | ((with_reducible refine n2Dst (some 54) (by rfl) ?_); refine wantList_load (by rfl) 32 _ rfl (V1.heap.size) 0 (by rfl) (p3L t'.root) _ (rangeB TF.out.b0) Try.underlying32 rfl (infoPtr _) ?_)
              | ((with_reducible refine guardList ?_)
                 refine wantList_store (by rfl) 32 _ _ rfl w2.heap.size 0 (by rfl) (p3L t'.root) (by rfl) _ (p3L t.root) (p3L t'.root) TF.out.b2 (Nat.le_of_eq rfl) (p3L_one _) (infoPtr _) (whole_new rfl) ?_
                 intro w15 h15 k15 z15
                 have TG := Lib.hid (TL.over (TF.out.sub (L' := [(w2.heap.size, 32, p3L t.root)]) (fun y hy => by rcases List.mem_cons.1 hy with rfl | hy; exact .tail _ (.tail _ (.head _)); cases hy)) (fun y hy => by cases hy) k15 h15)
                 clear h15 k15 z15))
            go_roundw
            case rel => exact ⟨k + 1, F', m', t', an.ok.choose, kk + 3, c', by omega, by go_num, TG, Lib.hid tp', by omega, by omega, by rw [an.stamp]; omega, Lib.hid an.ok.choose_spec⟩
            case measure => simp [intOf] <;> omega
        · refine wp_newPtr rfl ?_
          have T1 := Lib.hid (T.out.box 32 (p3L p3z))
          refine hK _ _ (Keeps.cons (fun hh j v hv => cell_alloc (hh j v hv) _) (Keeps.cons (fun hh => cell_alloc hh _) (Keeps.cons (fun hh => cell_alloc hh _) (Keeps.nil _ _ _)))) ?_
          clear hK K
          simp only [Act.put, List.setIfInBounds_toArray, List.set_cons_zero, List.set_cons_succ]
          obtain ⟨V1, hV1⟩ : ∃ V, V = V0.alloc (.cells (p3L p3z).toArray 32) := ⟨_, rfl⟩
          rw [← hV1] at T1 ⊢
          clear hV1
          refine inO_step 4 ⟨_, _, _, _, _, _⟩ rfl (by kernel_rfl) rfl (fun K hK => ?_)
          refine wp_noBytes rfl ?_
          have T2 := Lib.hid (T1.out.box 5 [])
          refine hK _ _ (Keeps.cons (fun hh j v hv => cell_alloc (hh j v hv) _) (Keeps.cons (fun hh => cell_alloc hh _) (Keeps.cons (fun hh => cell_alloc hh _) (Keeps.nil _ _ _)))) ?_
          clear hK K
          simp only [Act.put, List.setIfInBounds_toArray, List.set_cons_zero, List.set_cons_succ]
          obtain ⟨V2, hV2⟩ : ∃ V, V = V1.alloc (.cells ([] : List Value).toArray 5) := ⟨_, rfl⟩
          rw [← hV2] at T2 ⊢
          clear hV2
          refine inO_step 7 ⟨_, _, _, _, _, _⟩ rfl (by kernel_rfl) rfl (fun K hK => ?_)
          refine wp_own_app (.tmp 46) (.tmp 48) 39 rfl (V1.heap.size) 5 i0 (.int .u8 0) 1 Try.underlying39 hi hz0 hz1 hz2 rfl (.slice (some ⟨V1.heap.size, 0, none⟩) 0 0) [] (by rfl) (Own.of_none T2.out.b0) dao data.length dcap (bytesV data) (by rfl) hA.out.nil (by rw [bytesV_length]) (Reads.below hA.out.data T2.out.p.q) (bytesV_one _) (by have := hA.out.cap; dsimp only at this; simp; omega) (by have := hA.out.cap; dsimp only at this; simp; omega) (Nat.le_of_lt T2.out.b0.lt) fun v7 w7 ho7 hg7 => ?_
          have T3 := Lib.hid (TL.grow T2.out.tail (Own.of_none T2.out.b0) hg7 (fun k hk => by cases hk; exact ⟨(T2.out.l _ (.head _)).2.1, (T2.out.l _ (.head _)).2.2, fun y hy => Nat.ne_of_lt (T1.out.l y hy).1.lt⟩))
          obtain ⟨co, cc, rfl, hc1, hc2, hc4, hrd, hc5⟩ := Own.shapeN ho7 (n := data.length) (by simp [bytesV_length])
          have rd3 : Hid (Bytes w7 co data) := Lib.hid hrd
          have hnF : Hid (∀ a, co = some a → ¬ F a.block) := Lib.hid (fun a ha hf => by have h1 := (hc5 a ha).1; have h2 := T1.out.p.at_.lt _ hf; omega)
          refine hK _ _ (Keeps.cons (fun _ => rangeB T3.out.b2) (Keeps.cons (fun _ => T3.out.b1.cell 1) (Keeps.late (by kernel_rfl) (Keeps.nil _ _ _)))) ?_
          clear hK K hrd hc5 ho7 hg7
          simp only [Act.put, List.setIfInBounds_toArray, List.set_cons_zero, List.set_cons_succ]
          refine inO_step 8 ⟨_, _, _, _, _, _⟩ rfl (by kernel_rfl) rfl (fun K hK => ?_)
          refine wp_call Try.func12 (by kernel_rfl) rfl _ _ rfl _ rfl _ (C.out.put T3.out.p.at_ tp.out hkk ok.out nm hA.out.num co data cc rd3.out hc1 hc2 hc4 hnF.out hc3) fun e w8 R => ?_
          obtain ⟨m', t', v8, F', er, c', L', rfl, an, tp', hc', S', lp⟩ := R
          have T4 := Lib.hid (T3.out.turn S')
          obtain ⟨lo, lc, rfl, _⟩ := lp
          refine ⟨_, rfl, ?_⟩
          refine hK _ _ (Keeps.late (by kernel_rfl) (Keeps.late (by kernel_rfl) (Keeps.late (by kernel_rfl) (Keeps.nil _ _ _)))) ?_
          clear hK K S'
          simp only [Act.put, List.setIfInBounds_toArray, List.set_cons_zero, List.set_cons_succ]
          refine inO_take 9 ⟨_, _, _, _, _, _⟩ ((.tuple #[.agg (p3L t'.root).toArray, .slice lo L'.length lc, .int .i64 er])) rfl (by kernel_rfl) (by kernel_rfl) (by kernel_rfl) (fun _ _ _ h => h) rfl (fun ww => exec_move (by rfl) (by rfl) ww) ?_
          simp only [Act.put, List.setIfInBounds_toArray, List.set_cons_zero, List.set_cons_succ]
          refine inO_take 10 ⟨_, _, _, _, _, _⟩ (.agg (p3L t'.root).toArray) rfl (by kernel_rfl) (by kernel_rfl) (by kernel_rfl) (fun _ _ _ h => h) rfl (fun ww => by go_simp) ?_
          simp only [Act.put, List.setIfInBounds_toArray, List.set_cons_zero, List.set_cons_succ]
          refine inO_take 11 ⟨_, _, _, _, _, _⟩ (.slice lo L'.length lc) rfl (by kernel_rfl) (by kernel_rfl) (by kernel_rfl) (fun _ _ _ h => h) rfl (fun ww => by go_simp) ?_
          simp only [Act.put, List.setIfInBounds_toArray, List.set_cons_zero, List.set_cons_succ]
          refine inO_take 12 ⟨_, _, _, _, _, _⟩ (.int .i64 er) rfl (by kernel_rfl) (by kernel_rfl) (by kernel_rfl) (fun _ _ _ h => h) rfl (fun ww => by go_simp) ?_
          simp only [Act.put, List.setIfInBounds_toArray, List.set_cons_zero, List.set_cons_succ]
          refine inO_step 14 ⟨_, _, _, _, _, _⟩ rfl (by kernel_rfl) rfl (fun K hK => ?_)
          refine wp_store_blk 32 _ _ rfl (V0.heap.size) 0 (by rfl) (p3L t'.root) (by rfl) 32 (p3L p3z) (p3L t'.root) T4.out.b0 (Nat.le_of_eq rfl) (p3L_one _) (infoPtr _) (whole_new rfl) fun w14 h14 k14 z14 => ?_
          have T5 := Lib.hid (T4.out.over (fun y hy => Nat.ne_of_lt (T.out.l y (hy)).1.lt) k14 h14)
          refine hK _ _ (Keeps.late (by kernel_rfl) (Keeps.late (by kernel_rfl) (Keeps.late (by kernel_rfl) (Keeps.nil _ _ _)))) ?_
          clear hK K h14 k14 z14
          simp only [Act.put]
          refine inO_take 15 ⟨_, _, _, _, _, _⟩ (.slice lo L'.length lc) rfl (by kernel_rfl) (by kernel_rfl) (by kernel_rfl) (fun _ _ _ h => h) rfl (fun ww => by go_simp) ?_
          simp only [Act.put, List.setIfInBounds_toArray, List.set_cons_zero, List.set_cons_succ]
          refine inO_take 16 ⟨_, _, _, _, _, _⟩ (.int .i64 er) rfl (by kernel_rfl) (by kernel_rfl) (by kernel_rfl) (fun _ _ _ h => h) rfl (fun ww => by go_simp) ?_
          simp only [Act.put, List.setIfInBounds_toArray, List.set_cons_zero, List.set_cons_succ]
          refine inO_done (by kernel_rfl) ?_
          have TF := T5
          go_wp2_with (first
            | ((with_reducible refine n2Dst (some 54) (by rfl) ?_); refine wantList_load (by rfl) 32 _ rfl (V0.heap.size) 0 (by rfl) (p3L t'.root) _ (rangeB TF.out.b0) Try.underlying32 rfl (infoPtr _) ?_)
            | ((with_reducible refine guardList ?_)
               refine wantList_store (by rfl) 32 _ _ rfl w2.heap.size 0 (by rfl) (p3L t'.root) (by rfl) _ (p3L t.root) (p3L t'.root) TF.out.b2 (Nat.le_of_eq rfl) (p3L_one _) (infoPtr _) (whole_new rfl) ?_
               intro w15 h15 k15 z15
               have TG := Lib.hid (TL.over (TF.out.sub (L' := [(w2.heap.size, 32, p3L t.root)]) (fun y hy => by rcases List.mem_cons.1 hy with rfl | hy; exact .tail _ (.tail _ (.head _)); cases hy)) (fun y hy => by cases hy) k15 h15)
               clear h15 k15 z15))
          go_roundw
          case rel => exact ⟨k + 1, F', m', t', an.ok.choose, kk + 3, c', by omega, by go_num, TG, Lib.hid tp', by omega, by omega, by rw [an.stamp]; omega, Lib.hid an.ok.choose_spec⟩
          case measure => simp [intOf] <;> omega
    · obtain rfl : k = N := by omega
      obtain ⟨k0, rfl⟩ : ∃ k0, k0 = k := ⟨k, rfl⟩
      clear hlt hk
      have hx2 := T1.out.lt0
      have ha1 := C.out.all T1.out.p.at_ tp.out (by omega) ok.out lo hlo
      go_wp2_with ((with_reducible refine n2Dst (some 58) (by rfl) ?_); refine wantList_load (by rfl) 32 _ rfl w2.heap.size 0 (by rfl) (p3L t.root) _ (rangeB T1.out.b0) Try.underlying32 rfl (infoPtr _) ?_)
      refine ha1.mono ?_
      clear ha1
      rintro e w3 ⟨m3, v3, F3, rfl, tp3, al3, S3, lp3⟩
      have T3 := Lib.hid (T1.out.turn S3)
      have tp3 := Lib.hid tp3
      have ok3 := Lib.hid (ok.out.alike al3)
      obtain ⟨lao, lc, rfl, hlr, _, hll⟩ := lp3
      have l3 : Hid (Lst w3 F3 w2.heap.size lao (rowsL p3L (t.allL lo))) := Lib.hid ⟨hlr, fun a ha => ⟨(hll a ha).2.1, (hll a ha).2.2, Nat.lt_of_lt_of_le hx2 (hll a ha).1⟩⟩
      have hx3 : w2.heap.size < w3.heap.size := Nat.lt_of_lt_of_le hx2 S3.kept.size
      have st3 : m3.stamp = m.stamp := al3.stamp
      clear hlr hll S3 al3
      have ha2 := C.out.all T3.out.p.at_ tp3.out (by omega) ok3.out hi2 hhi
      go_wp2_with ((with_reducible refine n2Dst (some 67) (by rfl) ?_); refine wantList_load (by rfl) 32 _ rfl w2.heap.size 0 (by rfl) (p3L t.root) _ (rangeB T3.out.b0) Try.underlying32 rfl (infoPtr _) ?_)
      refine ha2.mono ?_
      clear ha2
      rintro e w5 ⟨m5, v5, F5, rfl, tp5, al5, S5, lp5⟩
      have T5 := Lib.hid (T3.out.turn S5)
      have l5 := Lib.hid (l3.out.turn S5.kept S5.grows)
      have tp5 := Lib.hid tp5
      have ok5 := Lib.hid (ok3.out.alike al5)
      obtain ⟨nao, nc, rfl, hnr, _, hnl⟩ := lp5
      have n5 : Hid (Lst w5 F5 w2.heap.size nao (rowsL p3L (t.allL hi2))) := Lib.hid ⟨hnr, fun a ha => ⟨(hnl a ha).2.1, (hnl a ha).2.2, Nat.lt_of_lt_of_le hx3 (hnl a ha).1⟩⟩
      clear hnr hnl S5 al5
      have hyoung : Hid (t.allL hi2 = (t.allL lo).filter fun q => decide (hi2 < q.b)) := Lib.hid (all_young ok5.out tp5.out lo hi2 hle)
      have ha3 : Hid (∀ (W : World), IsPile W g d B F5 m5 → Calls Try.prog 17 #[.pointer (some ⟨g, 0, none⟩), .agg (p3L t.root).toArray, .int .u64 (m5.stamp : Int)] W fun e w' => ∃ m' v F', e = .returned (.tuple #[v, .int .i64 0]) ∧ TP m' 400 kk c ∧ Alike m5 m' ∧ PStep W g d B F5 F' m' w' ∧ LP W w' F' v []) := Lib.hid (fun W hW => by
        have := C.out.all hW tp5.out (by omega) ok5.out m5.stamp (by have := tp5.out.st2; omega)
        rw [all_none ok5.out tp5.out] at this
        exact this)
      have hlen : (t.allL lo).length ≤ 73 := by
        rw [allL_eq ok5.out tp5.out]
        exact Nat.le_trans (List.length_filter_le _ _) (Nat.le_of_eq (Tree.flat_len t))
      have hlen2 : (t.allL hi2).length ≤ 73 := by
        rw [allL_eq ok5.out tp5.out]
        exact Nat.le_trans (List.length_filter_le _ _) (Nat.le_of_eq (Tree.flat_len t))
      obtain ⟨L1, hL1⟩ : ∃ L1, L1 = t.allL lo := ⟨_, rfl⟩
      obtain ⟨L2, hL2⟩ : ∃ L2, L2 = t.allL hi2 := ⟨_, rfl⟩
      rw [← hL1] at l5 hyoung hlen ⊢
      rw [← hL2] at n5 hyoung hlen2 ⊢
      clear hL1 hL2 l3
      obtain ⟨st, hst5⟩ : ∃ st, Hid (st = m5.stamp) := ⟨_, Lib.hid rfl⟩
      rw [← hst5.out] at ha3
      go_wp2
      refine inO_region [(1, fun w' => w'.rangeAt (w2.heap.size) (0) (p3L t.root))] (by kernel_rfl) (Owed.cons (rangeB T5.out.drew.b0) (Owed.nil _ _)) ?_
      refine inO_take 0 ⟨_, _, _, _, _, _⟩ (.pointer (some ⟨g, 0, none⟩)) rfl (by kernel_rfl) (by kernel_rfl) (by kernel_rfl) (fun _ _ _ h => h) rfl (fun ww => exec_move (by rfl) (by rfl) ww) ?_
      simp only [Act.put, List.setIfInBounds_toArray, List.set_cons_zero, List.set_cons_succ]
      refine inO_load 1 ⟨_, _, _, _, _, _⟩ (.agg (p3L t.root).toArray) (fun w' => w'.rangeAt (w2.heap.size) (0) (p3L t.root)) rfl (by kernel_rfl) (by kernel_rfl) (by kernel_rfl) (fun _ _ _ h => h) rfl (.head _) (fun ww hw => exec_load_mid _ _ (by rfl) _ _ (by rfl) _ _ hw Try.underlying32 rfl (infoPtr _)) ?_
      simp only [Act.put, List.setIfInBounds_toArray, List.set_cons_zero, List.set_cons_succ]
      refine inO_take 2 ⟨_, _, _, _, _, _⟩ (.pointer (some ⟨g, 0, none⟩)) rfl (by kernel_rfl) (by kernel_rfl) (by kernel_rfl) (fun _ _ _ h => h) rfl (fun ww => exec_move (by rfl) (by rfl) ww) ?_
      simp only [Act.put, List.setIfInBounds_toArray, List.set_cons_zero, List.set_cons_succ]
      refine inO_step 3 ⟨_, _, _, _, _, _⟩ rfl (by kernel_rfl) rfl (fun K hK => ?_)
      refine wp_call Try.func24 (by kernel_rfl) rfl _ _ rfl _ rfl _ (oStamp T5.out.drew.p.at_) fun e w6 R => ?_
      rw [← hst5.out] at R
      obtain ⟨rfl, rfl⟩ := R
      refine ⟨_, rfl, ?_⟩
      refine hK _ _ (Keeps.cons (fun h => h) (Keeps.nil _ _ _)) ?_
      clear hK K
      simp only [Act.put, List.setIfInBounds_toArray, List.set_cons_zero, List.set_cons_succ]
      refine inO_step 4 ⟨_, _, _, _, _, _⟩ rfl (by kernel_rfl) rfl (fun K hK => ?_)
      refine wp_call Try.func17 (by kernel_rfl) rfl _ _ rfl _ rfl _ (ha3.out _ T5.out.drew.p.at_) fun e w6 R => ?_
      obtain ⟨m6, v6, F6, rfl, tp6, al6, S6, lp6⟩ := R
      have T6 := Lib.hid (T5.out.drew.turn S6)
      have l6 := Lib.hid (l5.out.drew.turn S6.kept S6.grows)
      have n6 := Lib.hid (n5.out.drew.turn S6.kept S6.grows)
      obtain ⟨eo, ec, rfl, _⟩ := lp6
      clear S6 al6 tp6
      rw [show ([] : List P3).length = 0 from rfl]
      refine ⟨_, rfl, ?_⟩
      refine hK _ _ (Keeps.late (by kernel_rfl) (Keeps.nil _ _ _)) ?_
      clear hK K
      simp only [Act.put, List.setIfInBounds_toArray, List.set_cons_zero, List.set_cons_succ]
      refine inO_take 5 ⟨_, _, _, _, _, _⟩ (.tuple #[.slice eo 0 ec, .int .i64 0]) rfl (by kernel_rfl) (by kernel_rfl) (by kernel_rfl) (fun _ _ _ h => h) rfl (fun ww => by go_simp) ?_
      simp only [Act.put, List.setIfInBounds_toArray, List.set_cons_zero, List.set_cons_succ]
      refine inO_take 6 ⟨_, _, _, _, _, _⟩ (.slice eo 0 ec) rfl (by kernel_rfl) (by kernel_rfl) (by kernel_rfl) (fun _ _ _ h => h) rfl (fun ww => by go_simp) ?_
      simp only [Act.put, List.setIfInBounds_toArray, List.set_cons_zero, List.set_cons_succ]
      refine inO_take 7 ⟨_, _, _, _, _, _⟩ (.int .i64 0) rfl (by kernel_rfl) (by kernel_rfl) (by kernel_rfl) (fun _ _ _ h => h) rfl (fun ww => by go_simp) ?_
      simp only [Act.put, List.setIfInBounds_toArray, List.set_cons_zero, List.set_cons_succ]
      refine inO_take 8 ⟨_, _, _, _, _, _⟩ (.slice eo 0 ec) rfl (by kernel_rfl) (by kernel_rfl) (by kernel_rfl) (fun _ _ _ h => h) rfl (fun ww => by go_simp) ?_
      simp only [Act.put, List.setIfInBounds_toArray, List.set_cons_zero, List.set_cons_succ]
      refine inO_take 9 ⟨_, _, _, _, _, _⟩ (.int .i64 0) rfl (by kernel_rfl) (by kernel_rfl) (by kernel_rfl) (fun _ _ _ h => h) rfl (fun ww => by go_simp) ?_
      simp only [Act.put, List.setIfInBounds_toArray, List.set_cons_zero, List.set_cons_succ]
      refine inO_done (by kernel_rfl) ?_
      go_wp2
      clear ha3
      go_loopw [20, 100] (fun v i wr => ∃ (k : Nat) (ys : List P3), k ≤ L1.length ∧ i = .int .i64 k ∧ Hid (YL w6 wr v ys) ∧ Hid (ys = (L1.take k).filter fun q => decide (hi2 < q.b)))
        (fun _ i _ => L1.length - (intOf i).toNat)
      case atStart => exact ⟨0, [], by omega, rfl, Lib.hid (YL.first w6), Lib.hid rfl⟩
      case round =>
        obtain ⟨k, ys, hk, rfl, Y, hys⟩ := hrel
        by_cases hlt : k < L1.length
        · obtain ⟨b, off, rfl, hbb, c0, c1, c2⟩ := cellsP (l6.out.reads.below Y.out.q) hlt
          have hstep : (L1.take (k + 1)).filter (fun q => decide (hi2 < q.b)) = ys ++ if decide (hi2 < L1[k].b) = true then [L1[k]] else [] := by
            rw [hys.out, List.take_succ_eq_append_getElem hlt, List.filter_append]
            congr 1
            cases h : decide (hi2 < L1[k].b) <;> simp [h]
          generalize L1[k] = q at *
          obtain ⟨qa, qb, qs⟩ := q
          dsimp only at c0 c1 c2 hstep
          have hyl : ys.length ≤ 73 := by
            rw [hys.out]
            exact Nat.le_trans (List.length_filter_le _ _) (by rw [List.length_take]; omega)
          have hsz := Y.out.q.size
          by_cases hgt : hi2 < qb
          · have hs1 : Hid ((L1.take (k + 1)).filter (fun q => decide (hi2 < q.b)) = ys ++ [⟨qa, qb, qs⟩]) := Lib.hid (by rw [hstep, if_pos (decide_eq_true hgt)])
            clear hstep
            go_wp2_with (at_builtin
                         refine wpList_pushN rfl _ _ 37 rfl w6.heap.size 32 j0 _ 3 24 Try.underlying37 hj hy0 hy1 hy2 rfl (by decide) u20 _ _ (wr.alloc (.cells #[.int .i64 qa, .int .u64 (qb : Int), .int .u32 (qs : Int)] 32)) rfl (Y.out.alloc _).own 1 #[.int .i64 qa, .int .u64 (qb : Int), .int .u32 (qs : Int)] (by rw [World.size_alloc]; rfl) rfl (p3L_one ⟨qa, qb, qs⟩) (by omega) (by omega) (by simp; omega) ?_
                         intro v' w7 ho7 hg7 hv7
                         have Y7 := Lib.hid ((Y.out.alloc (.cells #[.int .i64 qa, .int .u64 (qb : Int), .int .u32 (qs : Int)] 32)).push ⟨qa, qb, qs⟩ ho7 hg7)
                         clear ho7 hg7 hv7)
            go_roundw
            case rel => first | exact ⟨k + 1, ys ++ [⟨qa, qb, qs⟩], by omega, by go_num, Y7, Lib.hid hs1.out.symm⟩ | ((repeat apply Exists.intro); exact ⟨⟨k + 1, ys ++ [⟨qa, qb, qs⟩], by omega, by go_num, Y7, Lib.hid hs1.out.symm⟩, rfl⟩)
            case measure => simp [intOf] <;> omega
          · have hs1 : Hid ((L1.take (k + 1)).filter (fun q => decide (hi2 < q.b)) = ys) := Lib.hid (by rw [hstep, if_neg (by simpa using hgt), List.append_nil])
            clear hstep
            go_wp2
            go_roundw
            case rel => exact ⟨k + 1, ys, by omega, by go_num, Lib.hid (Y.out.alloc _), Lib.hid hs1.out.symm⟩
            case measure => simp [intOf] <;> omega
        · obtain rfl : k = L1.length := by omega
          obtain rfl : ys = L2 := by rw [hys.out, hyoung.out, List.take_length]
          obtain ⟨yo, yc, rfl, hyr⟩ := Y.out.reads
          have hsame := Lib.hid (Same11_any nao yo nc yc ys (by omega) wr (n6.out.reads.below Y.out.q) hyr)
          clear hyr hys
          go_wp2_with fail
          refine hsame.out.mono ?_
          rintro e w8 ⟨rfl, b8⟩
          go_wp2
          go_ret
          exact ⟨rfl, (T6.out.p.q.trans (Y.out.q.mono T6.out.size)).trans (b8.mono (Nat.le_trans T6.out.size Y.out.q.size))⟩

theorem walk (ao : Option Addr) (as_ : List Act3) (cap : Nat) (sa sb : Nat) (w : World) (hacts : Acts3 w ao as_) (hl : as_.length ≤ 140737488351232) (hnil : ao = none → cap = 0) (hsa : sa < 18446744073709551616) (hsb : sb < 18446744073709551616) :
    Calls Try.prog 7 #[.slice ao as_.length cap, .int .u64 (sa : Int), .int .u64 (sb : Int)] w fun e w' => e = .returned (.bool true) ∧ Below w.heap.size w w' := walkC treeC ao as_ cap sa sb w hacts hl hnil hsa hsb

theorem own : ownKnob Try.prog.godebug = none := by kernel_rfl
theorem laidOut : laidOutB Try.prog = true := by kernel_rfl

set_option maxRecDepth 100000 in
theorem lifted (os : Os) (started : os.Started) (H : Type) (enc : TypeId × Value → H) :
    ReturnsInHanded {} Try.checked os 7 .any (Rows.treeSinceSpec.pre6 enc Try.prog Try.f7 Rows.treeSinceRow.domain false) (Rows.treeSinceSpec.post enc Try.prog Try.f7 false true false false) := by
  refine returnsInHanded_of_change_sized (C := Try.checked) own started (by kernel_rfl) Try.func7
    (ChangeSpec.witness6 (enc := enc) (C := Try.checked) false ⟨#[], #[.slice none 0 0, .int .u64 0, .int .u64 0], []⟩ 8 (by kernel_rfl) (by kernel_rfl) (by kernel_rfl) (by kernel_rfl)) ?_
  intro W base args ds gs before hval0 hW hcnd hsz0 _
  have hval : ∀ (j : Nat) t v, Try.f7.params[j]? = some t → args[j]? = some v → Value.okWide Try.prog W .any base t v := hval0
  have hsz : (DataW.weightsEach Try.prog (Try.f7.params.toList ++ Rows.treeSinceSpec.plain.varTypes Try.prog) (ds ++ gs)).all (· ≤ reachBytes) = true := hsz0
  have hW' := hW
  obtain ⟨p, q, hA0, hV, rfl, hfz, hnd⟩ := hW
  have hA : DataW.TrodAll enc Try.prog W 0 (fun _ => true) true Try.f7.params.toList args.toList ds p := hA0
  rw [Try.params7] at hA hval hsz
  obtain ⟨v0, vs0, d0, ds0, p0, q0, hargs, rfl, rfl, h0, r0⟩ := trodAll_cons hA
  obtain ⟨v1, vs1, d1, ds1, p1, q1, rfl, rfl, rfl, h1, r1⟩ := trodAll_cons r0
  obtain ⟨v2, vs2, d2, ds2, p2, q2, rfl, rfl, rfl, h2, r2⟩ := trodAll_cons r1
  obtain ⟨rfl, rfl, rfl⟩ := trodAll_nil r2
  obtain rfl : args = #[v0, v1, v2] := by cases args; simp_all
  obtain ⟨rfl, rfl⟩ := trodVars_none hV
  have k0 := h0
  have lt0 : ∀ x ∈ p0, x.block < W.heap.size := by obtain ⟨m, hm⟩ := k0; exact DataW.trod_lt m _ _ _ hm
  obtain ⟨ao0, a0, cap0, rfl, sp0, fi0, nl0⟩ := arg_acts11 h0 (hval 0 34 v0 rfl rfl) (light_arg hsz (j := 0) (t := 34) rfl rfl)
  obtain ⟨z1, rfl, rfl, rfl, wf1⟩ := open_int Try.underlying29 (hval 1 29 v1 rfl rfl) h1
  obtain ⟨a1, rfl, b1⟩ := nat_u64 wf1
  obtain ⟨z2, rfl, rfl, rfl, wf2⟩ := open_int Try.underlying29 (hval 2 29 v2 rfl rfl) h2
  obtain ⟨a2, rfl, b2⟩ := nat_u64 wf2
  clear hA0 hval0 hsz0
  refine (walk ao0 a0 cap0 a1 a2 W sp0 fi0 nl0 b1 b2).mono fun e W' ⟨he, bel⟩ => ?_
  subst he
  exact ⟨_, rfl, _, _, _, [], _, [], hW', trodAll_mk1 (shut_bool Try.underlying4 _), (trodAll_cons_mk (Below.trod laidOut (by kernel_rfl) (of_decide_eq_true (by kernel_rfl)) k0 bel lt0) (trodAll_cons_mk (shut_int Try.underlying29 wf1) (trodAll_cons_mk (shut_int Try.underlying29 wf2) trodAll_mk0))), rfl, bel.frame _, fun h => by cases h⟩

theorem proved : Rows.TreeSinceSaid :=
  OpenClaim.holds_of_wide 7 Try.f7 rfl rfl rfl rfl rfl rfl rfl ⟨rfl, rfl, rfl, rfl, rfl⟩ rfl rfl rfl rfl rfl (by kernel_rfl) Try.func7 (by kernel_rfl)
    (of_decide_eq_true (by kernel_rfl)) (by unfold Func.isWrapper; first | (rw [if_pos (by decide +kernel)]; kernel_rfl) | (rw [if_neg (by decide +kernel)]; exact ⟨rfl, rfl⟩))
    (fun os started H enc _ => lifted os started H enc)
end Go.Proofs.Ytgdefibkemkejaa.lawTreeSince
