/- TreeTrims, for every input: the law returns true and each argument reads behind the call as before. No condition. -/
import Derived.Test.YtgdefibkemkejaaGTreeF
namespace Go.Proofs.Ytgdefibkemkejaa.lawTreeTrims
open Go.ChangeShapes Go.WideShapes Go.ChangeAt Go.RowKit Go.Deep
set_option linter.unusedVariables false
set_option maxRecDepth 20000

set_option maxRecDepth 100000 in
set_option maxHeartbeats 8000000 in
theorem walkC (C : TreeC) (ao : Option Addr) (as_ : List Act3) (cap : Nat) (from_ : Int) (w : World) (hacts : Acts3 w ao as_) (hl : as_.length ≤ 140737488351232) (hnil : ao = none → cap = 0) (hfr : I64 from_) :
    Calls Try.prog 6 #[.slice ao as_.length cap, .int .i64 from_] w fun e w' => e = .returned (.bool true) ∧ Below w.heap.size w w' := by
  obtain ⟨i0, hi, hz0, hz1, hz2⟩ := info_parts infoU8
  have hacts := Lib.hid hacts
  have C := Lib.hid C
  obtain ⟨N, hN⟩ : ∃ N, Hid (as_.length = N) := ⟨_, Lib.hid rfl⟩
  rw [hN.out] at hl ⊢
  have hfr := Lib.hid hfr
  clear hnil
  go_enter Try.func6, Try.ntmps6
  go_wp2_with fail
  refine (treeAlive_any C.out _).mono ?_
  rintro e w1 ⟨rfl, b1⟩
  have q1 := Lib.hid b1
  clear b1
  by_cases h25 : N > 25
  · go_wp2
    go_ret
    exact ⟨rfl, q1.out⟩
  by_cases h0 : from_ < 0
  · go_wp2
    go_ret
    exact ⟨rfl, q1.out⟩
  go_wp2_with fail
  refine (made11_any 400 (by unfold I64; omega) w1).mono ?_
  rintro e w2 ⟨g, d, B, F, rfl, hP⟩
  have hP := hP.later q1.out
  rw [show DevM.newLen 400 = 400 from rfl] at hP
  obtain ⟨m0, hm0⟩ : ∃ m, Hid (m = (⟨DevM.fresh 400, newS 400, 1, 0⟩ : PileM)) := ⟨_, Lib.hid rfl⟩
  rw [← hm0.out] at hP
  have tp0 : Hid (TP m0 400 0 396) := Lib.hid (by rw [hm0.out]; exact newS_first (n := 400) (by decide) 1 0 (by decide) (by decide) count400)
  have ok0 : Hid (TreeOk m0 400 tree0 fun _ => sec0) := Lib.hid (tree0_ok m0 400)
  have T1 := Lib.hid ((show TL w w2 g d B F m0 [] from ⟨hP, Side.nil _ _ _⟩).box 32 (p3L tree0.root))
  have hn0 : Hid ((nh tree0.flat).length = 0) := Lib.hid (by rw [flat0]; rfl)
  clear hP q1
  go_wp2
  go_loopw [7, 34] (fun o i wr => ∃ (k : Nat) (F : Nat → Prop) (m : PileM) (t : Tree) (f : Nat → Sec) (kk c old : Nat), k ≤ N ∧ i = .int .i64 k ∧ o = .int .i64 old ∧ Hid (TL w wr g d B F m [(w2.heap.size, 32, p3L t.root)]) ∧ Hid (TP m 400 kk c) ∧ kk ≤ 3 * k ∧ 396 ≤ c + 3 * k ∧ Hid (TreeOk m 400 t f) ∧ (nh t.flat).length + old + c = 396)
    (fun _ i _ => N - (intOf i).toNat)
  case atStart => exact ⟨0, F, m0, tree0, _, 0, 396, 0, by omega, rfl, rfl, T1, tp0, by omega, by omega, ok0, by rw [hn0.out]⟩
  case round =>
    clear T1 tp0 ok0 hn0
    obtain ⟨k, F, m, t, f, kk, c, old, hk, rfl, rfl, T1, tp, hkk3, hc3', ok, hinv⟩ := hrel
    by_cases hlt : k < N
    · have hA0 := hacts.out.each (as_[k]'(by rw [hN.out]; exact hlt)) (List.getElem_mem _)
      obtain ⟨ab, aoff, rfl, hab, a0, a1, a2⟩ := (hacts.out.below T1.out.p.q).at_ (k := k) (by rw [hN.out]; exact hlt)
      generalize as_[k]'(by rw [hN.out]; exact hlt) = A at *
      obtain ⟨kd, nm, dao, dcap, data⟩ := A
      dsimp only at a0 a1 a2
      have hA := Lib.hid hA0
      clear hA0
      have hkk : kk ≤ 100000 := by omega
      have hc3 : 3 ≤ c := by omega
      have T := Lib.hid (show TL w (wr.alloc (.cells #[.int .i64 kd, .int .i64 nm, .slice dao data.length dcap] 41)) g d B F m [(wr.heap.size, 41, act3L ⟨kd, nm, dao, dcap, data⟩), (w2.heap.size, 32, p3L t.root)] from T1.out.box 41 (act3L ⟨kd, nm, dao, dcap, data⟩))
      go_wp2
      generalize wr.alloc (.cells #[.int .i64 kd, .int .i64 nm, .slice dao data.length dcap] 41) = Wn at *
      clear a0 a1 a2 hab
      have T := Lib.hid T.out.drew
      refine inO_region [(1, fun w' => w'.rangeAt (w2.heap.size) (0) (p3L t.root)), (3, fun w' => w'.cell? ⟨wr.heap.size, 1, none⟩ = some (.int .i64 nm)), (6, fun w' => w'.cell? ⟨wr.heap.size, 2, none⟩ = some (.slice dao data.length dcap))] (by kernel_rfl) (Owed.cons (rangeB T.out.b1) (Owed.cons (T.out.b0.cell 1) (Owed.cons (T.out.b0.cell 2) (Owed.nil _ _)))) ?_
      generalize Wn.drew = V0 at *
      refine inO_take 0 ⟨_, _, _, _, _, _⟩ (.pointer (some ⟨g, 0, none⟩)) rfl (by kernel_rfl) (by kernel_rfl) (by kernel_rfl) (fun _ _ _ h => h) rfl (fun ww => exec_move (by rfl) (by rfl) ww) ?_
      simp only [Act.put, List.setIfInBounds_toArray, List.set_cons_zero, List.set_cons_succ]
      refine inO_load 1 ⟨_, _, _, _, _, _⟩ (.agg (p3L t.root).toArray) (fun w' => w'.rangeAt (w2.heap.size) (0) (p3L t.root)) rfl (by kernel_rfl) (by kernel_rfl) (by kernel_rfl) (fun _ _ _ h => h) rfl (.head _) (fun ww hw => exec_load_mid _ _ (by rfl) _ _ (by rfl) _ _ hw Try.underlying32 rfl (infoPtr _)) ?_
      simp only [Act.put, List.setIfInBounds_toArray, List.set_cons_zero, List.set_cons_succ]
      refine inO_take 2 ⟨_, _, _, _, _, _⟩ (.pointer (some ⟨wr.heap.size, 1, none⟩)) rfl (by kernel_rfl) (by kernel_rfl) (by kernel_rfl) (fun _ _ _ h => h) rfl (fun ww => by go_simp) ?_
      simp only [Act.put, List.setIfInBounds_toArray, List.set_cons_zero, List.set_cons_succ]
      refine inO_load 3 ⟨_, _, _, _, _, _⟩ (.int .i64 nm) (fun w' => w'.cell? ⟨wr.heap.size, 1, none⟩ = some (.int .i64 nm)) rfl (by kernel_rfl) (by kernel_rfl) (by kernel_rfl) (fun _ _ _ h => h) rfl (.tail _ (.head _)) (fun ww hw => by go_simp) ?_
      simp only [Act.put, List.setIfInBounds_toArray, List.set_cons_zero, List.set_cons_succ]
      refine inO_take 5 ⟨_, _, _, _, _, _⟩ (.pointer (some ⟨wr.heap.size, 2, none⟩)) rfl (by kernel_rfl) (by kernel_rfl) (by kernel_rfl) (fun _ _ _ h => h) rfl (fun ww => by go_simp) ?_
      simp only [Act.put, List.setIfInBounds_toArray, List.set_cons_zero, List.set_cons_succ]
      refine inO_load 6 ⟨_, _, _, _, _, _⟩ (.slice dao data.length dcap) (fun w' => w'.cell? ⟨wr.heap.size, 2, none⟩ = some (.slice dao data.length dcap)) rfl (by kernel_rfl) (by kernel_rfl) (by kernel_rfl) (fun _ _ _ h => h) rfl (.tail _ (.tail _ (.head _))) (fun ww hw => by go_simp) ?_
      simp only [Act.put, List.setIfInBounds_toArray, List.set_cons_zero, List.set_cons_succ]
      refine inO_two 4 13 ⟨_, _, _, _, _, _⟩ ⟨_, _, _, _, _, _⟩ rfl rfl (by kernel_rfl) rfl rfl (fun K hK => ?_) (fun K hK => ?_)
      · refine wp_noBytes rfl ?_
        have T1 := Lib.hid (T.out.box 5 [])
        refine hK _ _ (Keeps.cons (fun hh j v hv => cell_alloc (hh j v hv) _) (Keeps.cons (fun hh => cell_alloc hh _) (Keeps.cons (fun hh => cell_alloc hh _) (Keeps.nil _ _ _)))) ?_
        clear hK K
        simp only [Act.put, List.setIfInBounds_toArray, List.set_cons_zero, List.set_cons_succ]
        obtain ⟨V1, hV1⟩ : ∃ V, V = V0.alloc (.cells ([] : List Value).toArray 5) := ⟨_, rfl⟩
        rw [← hV1] at T1 ⊢
        clear hV1
        refine inO_two 7 13 ⟨_, _, _, _, _, _⟩ ⟨_, _, _, _, _, _⟩ rfl rfl (by kernel_rfl) rfl rfl (fun K hK => ?_) (fun K hK => ?_)
        · refine wp_own_app (.tmp 43) (.tmp 45) 39 rfl (V0.heap.size) 5 i0 (.int .u8 0) 1 Try.underlying39 hi hz0 hz1 hz2 rfl (.slice (some ⟨V0.heap.size, 0, none⟩) 0 0) [] (by rfl) (Own.of_none T1.out.b0) dao data.length dcap (bytesV data) (by rfl) hA.out.nil (by rw [bytesV_length]) (Reads.below hA.out.data T1.out.p.q) (bytesV_one _) (by have := hA.out.cap; dsimp only at this; simp; omega) (by have := hA.out.cap; dsimp only at this; simp; omega) (Nat.le_of_lt T1.out.b0.lt) fun v7 w7 ho7 hg7 => ?_
          have T2 := Lib.hid (TL.grow T1.out.tail (Own.of_none T1.out.b0) hg7 (fun k hk => by cases hk; exact ⟨(T1.out.l _ (.head _)).2.1, (T1.out.l _ (.head _)).2.2, fun y hy => Nat.ne_of_lt (T.out.l y hy).1.lt⟩))
          obtain ⟨co, cc, rfl, hc1, hc2, hc4, hrd, hc5⟩ := Own.shapeN ho7 (n := data.length) (by simp [bytesV_length])
          have rd2 : Hid (Bytes w7 co data) := Lib.hid hrd
          have hnF : Hid (∀ a, co = some a → ¬ F a.block) := Lib.hid (fun a ha hf => by have h1 := (hc5 a ha).1; have h2 := T.out.p.at_.lt _ hf; omega)
          refine hK _ _ (Keeps.cons (fun _ => rangeB T2.out.b1) (Keeps.cons (fun _ => T2.out.b0.cell 1) (Keeps.late (by kernel_rfl) (Keeps.nil _ _ _)))) ?_
          clear hK K hrd hc5 ho7 hg7
          simp only [Act.put, List.setIfInBounds_toArray, List.set_cons_zero, List.set_cons_succ]
          refine inO_two 8 13 ⟨_, _, _, _, _, _⟩ ⟨_, _, _, _, _, _⟩ rfl rfl (by kernel_rfl) rfl rfl (fun K hK => ?_) (fun K hK => ?_)
          · refine wp_call Try.func12 (by kernel_rfl) rfl _ _ rfl _ rfl _ (C.out.put T2.out.p.at_ tp.out hkk ok.out nm hA.out.num co data cc rd2.out hc1 hc2 hc4 hnF.out hc3) fun e w8 R => ?_
            obtain ⟨m', t', v8, F', er, c', L', rfl, an, tp', hc', S', lp⟩ := R
            have T3 := Lib.hid (T2.out.turn S')
            obtain ⟨lo, lc, rfl, _⟩ := lp
            refine ⟨_, rfl, ?_⟩
            refine hK _ _ (Keeps.late (by kernel_rfl) (Keeps.late (by kernel_rfl) (Keeps.late (by kernel_rfl) (Keeps.nil _ _ _)))) ?_
            clear hK K S'
            simp only [Act.put, List.setIfInBounds_toArray, List.set_cons_zero, List.set_cons_succ]
            refine inO_take 9 ⟨_, _, _, _, _, _⟩ ((.tuple #[.agg (p3L t'.root).toArray, .slice lo L'.length lc, .int .i64 er])) rfl (by kernel_rfl) (by kernel_rfl) (by kernel_rfl) (fun _ _ _ h => h) rfl (fun ww => exec_move (by rfl) (by rfl) ww) ?_
            simp only [Act.put, List.setIfInBounds_toArray, List.set_cons_zero, List.set_cons_succ]
            refine inO_take 10 ⟨_, _, _, _, _, _⟩ (.agg (p3L t'.root).toArray) rfl (by kernel_rfl) (by kernel_rfl) (by kernel_rfl) (fun _ _ _ h => h) rfl (fun ww => by go_simp) ?_
            simp only [Act.put, List.setIfInBounds_toArray, List.set_cons_zero, List.set_cons_succ]
            refine inO_take 11 ⟨_, _, _, _, _, _⟩ (.slice lo L'.length lc) rfl (by kernel_rfl) (by kernel_rfl) (by kernel_rfl) (fun _ _ _ h => h) rfl (fun ww => by go_simp) ?_
            simp only [Act.put, List.setIfInBounds_toArray, List.set_cons_zero, List.set_cons_succ]
            refine inO_take 12 ⟨_, _, _, _, _, _⟩ (.int .i64 er) rfl (by kernel_rfl) (by kernel_rfl) (by kernel_rfl) (fun _ _ _ h => h) rfl (fun ww => by go_simp) ?_
            simp only [Act.put, List.setIfInBounds_toArray, List.set_cons_zero, List.set_cons_succ]
            refine inO_step 13 ⟨_, _, _, _, _, _⟩ rfl (by kernel_rfl) rfl (fun K hK => ?_)
            refine wp_newPtr rfl ?_
            have T4 := Lib.hid (T3.out.box 32 (p3L p3z))
            refine hK _ _ (Keeps.cons (fun hh j v hv => cell_alloc (hh j v hv) _) (Keeps.cons (fun hh => cell_alloc hh _) (Keeps.cons (fun hh => cell_alloc hh _) (Keeps.nil _ _ _)))) ?_
            clear hK K
            simp only [Act.put, List.setIfInBounds_toArray, List.set_cons_zero, List.set_cons_succ]
            obtain ⟨V4, hV4⟩ : ∃ V, V = w8.alloc (.cells (p3L p3z).toArray 32) := ⟨_, rfl⟩
            rw [← hV4] at T4 ⊢
            clear hV4
            refine inO_step 14 ⟨_, _, _, _, _, _⟩ rfl (by kernel_rfl) rfl (fun K hK => ?_)
            refine wp_store_blk 32 _ _ rfl (w8.heap.size) 0 (by rfl) (p3L t'.root) (by rfl) 32 (p3L p3z) (p3L t'.root) T4.out.b0 (Nat.le_of_eq rfl) (p3L_one _) (infoPtr _) (whole_new rfl) fun w14 h14 k14 z14 => ?_
            have T5 := Lib.hid (T4.out.over (fun y hy => Nat.ne_of_lt (T3.out.l y (hy)).1.lt) k14 h14)
            refine hK _ _ (Keeps.late (by kernel_rfl) (Keeps.late (by kernel_rfl) (Keeps.late (by kernel_rfl) (Keeps.nil _ _ _)))) ?_
            clear hK K h14 k14 z14
            simp only [Act.put]
            refine inO_take 15 ⟨_, _, _, _, _, _⟩ (.slice lo L'.length lc) rfl (by kernel_rfl) (by kernel_rfl) (by kernel_rfl) (fun _ _ _ h => h) rfl (fun ww => by go_simp) ?_
            simp only [Act.put, List.setIfInBounds_toArray, List.set_cons_zero, List.set_cons_succ]
            refine inO_take 16 ⟨_, _, _, _, _, _⟩ (.int .i64 er) rfl (by kernel_rfl) (by kernel_rfl) (by kernel_rfl) (fun _ _ _ h => h) rfl (fun ww => by go_simp) ?_
            simp only [Act.put, List.setIfInBounds_toArray, List.set_cons_zero, List.set_cons_succ]
            refine inO_done (by kernel_rfl) ?_
            have TF := T5
            have hold := an.len
            have hinv2 : (nh t'.flat).length + (old + L'.length) + c' = 396 := by omega
            clear hold
            go_wp2_with (first
              | ((with_reducible refine n2Dst (some 51) (by rfl) ?_); refine wantList_load (by rfl) 32 _ rfl (w8.heap.size) 0 (by rfl) (p3L t'.root) _ (rangeB TF.out.b0) Try.underlying32 rfl (infoPtr _) ?_)
              | ((with_reducible refine guardList ?_)
                 refine wantList_store (by rfl) 32 _ _ rfl w2.heap.size 0 (by rfl) (p3L t'.root) (by rfl) _ (p3L t.root) (p3L t'.root) TF.out.b2 (Nat.le_of_eq rfl) (p3L_one _) (infoPtr _) (whole_new rfl) ?_
                 intro w15 h15 k15 z15
                 have TG := Lib.hid (TL.over (TF.out.sub (L' := [(w2.heap.size, 32, p3L t.root)]) (fun y hy => by rcases List.mem_cons.1 hy with rfl | hy; exact .tail _ (.tail _ (.head _)); cases hy)) (fun y hy => by cases hy) k15 h15)
                 clear h15 k15 z15))
            go_roundw
            case rel => exact ⟨k + 1, F', m', t', an.ok.choose, kk + 3, c', old + L'.length, by omega, by go_num, by go_num, TG, Lib.hid tp', by omega, by omega, Lib.hid an.ok.choose_spec, hinv2⟩
            case measure => simp [intOf] <;> omega
          · refine wp_newPtr rfl ?_
            have T3 := Lib.hid (T2.out.box 32 (p3L p3z))
            refine hK _ _ (Keeps.cons (fun hh j v hv => cell_alloc (hh j v hv) _) (Keeps.cons (fun hh => cell_alloc hh _) (Keeps.cons (fun hh => cell_alloc hh _) (Keeps.nil _ _ _)))) ?_
            clear hK K
            simp only [Act.put, List.setIfInBounds_toArray, List.set_cons_zero, List.set_cons_succ]
            obtain ⟨V3, hV3⟩ : ∃ V, V = w7.alloc (.cells (p3L p3z).toArray 32) := ⟨_, rfl⟩
            have rd3 : Hid (Bytes V3 co data) := Lib.hid (by rw [hV3]; exact Reads.alloc rd2.out _)
            rw [← hV3] at T3 ⊢
            clear hV3
            refine inO_step 8 ⟨_, _, _, _, _, _⟩ rfl (by kernel_rfl) rfl (fun K hK => ?_)
            refine wp_call Try.func12 (by kernel_rfl) rfl _ _ rfl _ rfl _ (C.out.put T3.out.p.at_ tp.out hkk ok.out nm hA.out.num co data cc rd3.out hc1 hc2 hc4 hnF.out hc3) fun e w8 R => ?_
            obtain ⟨m', t', v8, F', er, c', L', rfl, an, tp', hc', S', lp⟩ := R
            have T4 := Lib.hid (T3.out.turn S')
            obtain ⟨lo, lc, rfl, _⟩ := lp
            refine ⟨_, rfl, ?_⟩
            refine hK _ _ (Keeps.late (by kernel_rfl) (Keeps.late (by kernel_rfl) (Keeps.late (by kernel_rfl) (Keeps.nil _ _ _)))) ?_
            clear hK K S'
            simp only [Act.put, List.setIfInBounds_toArray, List.set_cons_zero, List.set_cons_succ]
            refine inO_take 9 ⟨_, _, _, _, _, _⟩ ((.tuple #[.agg (p3L t'.root).toArray, .slice lo L'.length lc, .int .i64 er])) rfl (by kernel_rfl) (by kernel_rfl) (by kernel_rfl) (fun _ _ _ h => h) rfl (fun ww => exec_move (by rfl) (by rfl) ww) ?_
            simp only [Act.put, List.setIfInBounds_toArray, List.set_cons_zero, List.set_cons_succ]
            refine inO_take 10 ⟨_, _, _, _, _, _⟩ (.agg (p3L t'.root).toArray) rfl (by kernel_rfl) (by kernel_rfl) (by kernel_rfl) (fun _ _ _ h => h) rfl (fun ww => by go_simp) ?_
            simp only [Act.put, List.setIfInBounds_toArray, List.set_cons_zero, List.set_cons_succ]
            refine inO_take 11 ⟨_, _, _, _, _, _⟩ (.slice lo L'.length lc) rfl (by kernel_rfl) (by kernel_rfl) (by kernel_rfl) (fun _ _ _ h => h) rfl (fun ww => by go_simp) ?_
            simp only [Act.put, List.setIfInBounds_toArray, List.set_cons_zero, List.set_cons_succ]
            refine inO_take 12 ⟨_, _, _, _, _, _⟩ (.int .i64 er) rfl (by kernel_rfl) (by kernel_rfl) (by kernel_rfl) (fun _ _ _ h => h) rfl (fun ww => by go_simp) ?_
            simp only [Act.put, List.setIfInBounds_toArray, List.set_cons_zero, List.set_cons_succ]
            refine inO_step 14 ⟨_, _, _, _, _, _⟩ rfl (by kernel_rfl) rfl (fun K hK => ?_)
            refine wp_store_blk 32 _ _ rfl (w7.heap.size) 0 (by rfl) (p3L t'.root) (by rfl) 32 (p3L p3z) (p3L t'.root) T4.out.b0 (Nat.le_of_eq rfl) (p3L_one _) (infoPtr _) (whole_new rfl) fun w14 h14 k14 z14 => ?_
            have T5 := Lib.hid (T4.out.over (fun y hy => Nat.ne_of_lt (T2.out.l y (hy)).1.lt) k14 h14)
            refine hK _ _ (Keeps.late (by kernel_rfl) (Keeps.late (by kernel_rfl) (Keeps.late (by kernel_rfl) (Keeps.nil _ _ _)))) ?_
            clear hK K h14 k14 z14
            simp only [Act.put]
            refine inO_take 15 ⟨_, _, _, _, _, _⟩ (.slice lo L'.length lc) rfl (by kernel_rfl) (by kernel_rfl) (by kernel_rfl) (fun _ _ _ h => h) rfl (fun ww => by go_simp) ?_
            simp only [Act.put, List.setIfInBounds_toArray, List.set_cons_zero, List.set_cons_succ]
            refine inO_take 16 ⟨_, _, _, _, _, _⟩ (.int .i64 er) rfl (by kernel_rfl) (by kernel_rfl) (by kernel_rfl) (fun _ _ _ h => h) rfl (fun ww => by go_simp) ?_
            simp only [Act.put, List.setIfInBounds_toArray, List.set_cons_zero, List.set_cons_succ]
            refine inO_done (by kernel_rfl) ?_
            have TF := T5
            have hold := an.len
            have hinv2 : (nh t'.flat).length + (old + L'.length) + c' = 396 := by omega
            clear hold
            go_wp2_with (first
              | ((with_reducible refine n2Dst (some 51) (by rfl) ?_); refine wantList_load (by rfl) 32 _ rfl (w7.heap.size) 0 (by rfl) (p3L t'.root) _ (rangeB TF.out.b0) Try.underlying32 rfl (infoPtr _) ?_)
              | ((with_reducible refine guardList ?_)
                 refine wantList_store (by rfl) 32 _ _ rfl w2.heap.size 0 (by rfl) (p3L t'.root) (by rfl) _ (p3L t.root) (p3L t'.root) TF.out.b2 (Nat.le_of_eq rfl) (p3L_one _) (infoPtr _) (whole_new rfl) ?_
                 intro w15 h15 k15 z15
                 have TG := Lib.hid (TL.over (TF.out.sub (L' := [(w2.heap.size, 32, p3L t.root)]) (fun y hy => by rcases List.mem_cons.1 hy with rfl | hy; exact .tail _ (.tail _ (.head _)); cases hy)) (fun y hy => by cases hy) k15 h15)
                 clear h15 k15 z15))
            go_roundw
            case rel => exact ⟨k + 1, F', m', t', an.ok.choose, kk + 3, c', old + L'.length, by omega, by go_num, by go_num, TG, Lib.hid tp', by omega, by omega, Lib.hid an.ok.choose_spec, hinv2⟩
            case measure => simp [intOf] <;> omega
        · refine wp_newPtr rfl ?_
          have T2 := Lib.hid (T1.out.box 32 (p3L p3z))
          refine hK _ _ (Keeps.cons (fun hh j v hv => cell_alloc (hh j v hv) _) (Keeps.cons (fun hh => cell_alloc hh _) (Keeps.cons (fun hh => cell_alloc hh _) (Keeps.nil _ _ _)))) ?_
          clear hK K
          simp only [Act.put, List.setIfInBounds_toArray, List.set_cons_zero, List.set_cons_succ]
          obtain ⟨V2, hV2⟩ : ∃ V, V = V1.alloc (.cells (p3L p3z).toArray 32) := ⟨_, rfl⟩
          rw [← hV2] at T2 ⊢
          clear hV2
          refine inO_step 7 ⟨_, _, _, _, _, _⟩ rfl (by kernel_rfl) rfl (fun K hK => ?_)
          refine wp_own_app (.tmp 43) (.tmp 45) 39 rfl (V0.heap.size) 5 i0 (.int .u8 0) 1 Try.underlying39 hi hz0 hz1 hz2 rfl (.slice (some ⟨V0.heap.size, 0, none⟩) 0 0) [] (by rfl) (Own.of_none T2.out.b1) dao data.length dcap (bytesV data) (by rfl) hA.out.nil (by rw [bytesV_length]) (Reads.below hA.out.data T2.out.p.q) (bytesV_one _) (by have := hA.out.cap; dsimp only at this; simp; omega) (by have := hA.out.cap; dsimp only at this; simp; omega) (Nat.le_of_lt T2.out.b1.lt) fun v7 w7 ho7 hg7 => ?_
          have T3 := Lib.hid (TL.grow (T2.out.sub (fun y hy => by rcases List.mem_cons.1 hy with rfl | hy; exact .head _; exact .tail _ (.tail _ hy))) (Own.of_none T2.out.b1) hg7 (fun k hk => by cases hk; exact ⟨(T2.out.l _ (.tail _ (.head _))).2.1, (T2.out.l _ (.tail _ (.head _))).2.2, fun y hy => by rcases List.mem_cons.1 hy with rfl | hy; exact Nat.ne_of_gt (show V0.heap.size < V1.heap.size from T1.out.b0.lt); exact Nat.ne_of_lt (T.out.l y hy).1.lt⟩))
          obtain ⟨co, cc, rfl, hc1, hc2, hc4, hrd, hc5⟩ := Own.shapeN ho7 (n := data.length) (by simp [bytesV_length])
          have rd3 : Hid (Bytes w7 co data) := Lib.hid hrd
          have hnF : Hid (∀ a, co = some a → ¬ F a.block) := Lib.hid (fun a ha hf => by have h1 := (hc5 a ha).1; have h2 := T.out.p.at_.lt _ hf; omega)
          refine hK _ _ (Keeps.cons (fun _ => rangeB T3.out.b2) (Keeps.cons (fun _ => T3.out.b1.cell 1) (Keeps.late (by kernel_rfl) (Keeps.nil _ _ _)))) ?_
          clear hK K hrd hc5 ho7 hg7
          simp only [Act.put, List.setIfInBounds_toArray, List.set_cons_zero, List.set_cons_succ]
          refine inO_step 8 ⟨_, _, _, _, _, _⟩ rfl (by kernel_rfl) rfl (fun K hK => ?_)
          refine wp_call Try.func12 (by kernel_rfl) rfl _ _ rfl _ rfl _ (C.out.put T3.out.p.at_ tp.out hkk ok.out nm hA.out.num co data cc rd3.out hc1 hc2 hc4 hnF.out hc3) fun e w8 R => ?_
          obtain ⟨m', t', v8, F', er, c', L', rfl, an, tp', hc', S', lp⟩ := R
          have T4 := Lib.hid (T3.out.turn S')
          obtain ⟨lo, lc, rfl, _⟩ := lp
          refine ⟨_, rfl, ?_⟩
          refine hK _ _ (Keeps.late (by kernel_rfl) (Keeps.late (by kernel_rfl) (Keeps.late (by kernel_rfl) (Keeps.nil _ _ _)))) ?_
          clear hK K S'
          simp only [Act.put, List.setIfInBounds_toArray, List.set_cons_zero, List.set_cons_succ]
          refine inO_take 9 ⟨_, _, _, _, _, _⟩ ((.tuple #[.agg (p3L t'.root).toArray, .slice lo L'.length lc, .int .i64 er])) rfl (by kernel_rfl) (by kernel_rfl) (by kernel_rfl) (fun _ _ _ h => h) rfl (fun ww => exec_move (by rfl) (by rfl) ww) ?_
          simp only [Act.put, List.setIfInBounds_toArray, List.set_cons_zero, List.set_cons_succ]
          refine inO_take 10 ⟨_, _, _, _, _, _⟩ (.agg (p3L t'.root).toArray) rfl (by kernel_rfl) (by kernel_rfl) (by kernel_rfl) (fun _ _ _ h => h) rfl (fun ww => by go_simp) ?_
          simp only [Act.put, List.setIfInBounds_toArray, List.set_cons_zero, List.set_cons_succ]
          refine inO_take 11 ⟨_, _, _, _, _, _⟩ (.slice lo L'.length lc) rfl (by kernel_rfl) (by kernel_rfl) (by kernel_rfl) (fun _ _ _ h => h) rfl (fun ww => by go_simp) ?_
          simp only [Act.put, List.setIfInBounds_toArray, List.set_cons_zero, List.set_cons_succ]
          refine inO_take 12 ⟨_, _, _, _, _, _⟩ (.int .i64 er) rfl (by kernel_rfl) (by kernel_rfl) (by kernel_rfl) (fun _ _ _ h => h) rfl (fun ww => by go_simp) ?_
          simp only [Act.put, List.setIfInBounds_toArray, List.set_cons_zero, List.set_cons_succ]
          refine inO_step 14 ⟨_, _, _, _, _, _⟩ rfl (by kernel_rfl) rfl (fun K hK => ?_)
          refine wp_store_blk 32 _ _ rfl (V1.heap.size) 0 (by rfl) (p3L t'.root) (by rfl) 32 (p3L p3z) (p3L t'.root) T4.out.b0 (Nat.le_of_eq rfl) (p3L_one _) (infoPtr _) (whole_new rfl) fun w14 h14 k14 z14 => ?_
          have T5 := Lib.hid (T4.out.over (fun y hy => Nat.ne_of_lt (T1.out.l y (.tail _ hy)).1.lt) k14 h14)
          refine hK _ _ (Keeps.late (by kernel_rfl) (Keeps.late (by kernel_rfl) (Keeps.late (by kernel_rfl) (Keeps.nil _ _ _)))) ?_
          clear hK K h14 k14 z14
          simp only [Act.put]
          refine inO_take 15 ⟨_, _, _, _, _, _⟩ (.slice lo L'.length lc) rfl (by kernel_rfl) (by kernel_rfl) (by kernel_rfl) (fun _ _ _ h => h) rfl (fun ww => by go_simp) ?_
          simp only [Act.put, List.setIfInBounds_toArray, List.set_cons_zero, List.set_cons_succ]
          refine inO_take 16 ⟨_, _, _, _, _, _⟩ (.int .i64 er) rfl (by kernel_rfl) (by kernel_rfl) (by kernel_rfl) (fun _ _ _ h => h) rfl (fun ww => by go_simp) ?_
          simp only [Act.put, List.setIfInBounds_toArray, List.set_cons_zero, List.set_cons_succ]
          refine inO_done (by kernel_rfl) ?_
          have TF := T5
          have hold := an.len
          have hinv2 : (nh t'.flat).length + (old + L'.length) + c' = 396 := by omega
          clear hold
          go_wp2_with (first
            | ((with_reducible refine n2Dst (some 51) (by rfl) ?_); refine wantList_load (by rfl) 32 _ rfl (V1.heap.size) 0 (by rfl) (p3L t'.root) _ (rangeB TF.out.b0) Try.underlying32 rfl (infoPtr _) ?_)
            | ((with_reducible refine guardList ?_)
               refine wantList_store (by rfl) 32 _ _ rfl w2.heap.size 0 (by rfl) (p3L t'.root) (by rfl) _ (p3L t.root) (p3L t'.root) TF.out.b2 (Nat.le_of_eq rfl) (p3L_one _) (infoPtr _) (whole_new rfl) ?_
               intro w15 h15 k15 z15
               have TG := Lib.hid (TL.over (TF.out.sub (L' := [(w2.heap.size, 32, p3L t.root)]) (fun y hy => by rcases List.mem_cons.1 hy with rfl | hy; exact .tail _ (.tail _ (.head _)); cases hy)) (fun y hy => by cases hy) k15 h15)
               clear h15 k15 z15))
          go_roundw
          case rel => exact ⟨k + 1, F', m', t', an.ok.choose, kk + 3, c', old + L'.length, by omega, by go_num, by go_num, TG, Lib.hid tp', by omega, by omega, Lib.hid an.ok.choose_spec, hinv2⟩
          case measure => simp [intOf] <;> omega
      · refine wp_newPtr rfl ?_
        have T1 := Lib.hid (T.out.box 32 (p3L p3z))
        refine hK _ _ (Keeps.cons (fun hh j v hv => cell_alloc (hh j v hv) _) (Keeps.cons (fun hh => cell_alloc hh _) (Keeps.cons (fun hh => cell_alloc hh _) (Keeps.nil _ _ _)))) ?_
        clear hK K
        simp only [Act.put, List.setIfInBounds_toArray, List.set_cons_zero, List.set_cons_succ]
        obtain ⟨V1, hV1⟩ : ∃ V, V = V0.alloc (.cells (p3L p3z).toArray 32) := ⟨_, rfl⟩
        rw [← hV1] at T1 ⊢
        clear hV1
        refine inO_step 4 ⟨_, _, _, _, _, _⟩ rfl (by kernel_rfl) rfl (fun K hK => ?_)
        refine wp_noBytes rfl ?_
        have T2 := Lib.hid (T1.out.box 5 [])
        refine hK _ _ (Keeps.cons (fun hh j v hv => cell_alloc (hh j v hv) _) (Keeps.cons (fun hh => cell_alloc hh _) (Keeps.cons (fun hh => cell_alloc hh _) (Keeps.nil _ _ _)))) ?_
        clear hK K
        simp only [Act.put, List.setIfInBounds_toArray, List.set_cons_zero, List.set_cons_succ]
        obtain ⟨V2, hV2⟩ : ∃ V, V = V1.alloc (.cells ([] : List Value).toArray 5) := ⟨_, rfl⟩
        rw [← hV2] at T2 ⊢
        clear hV2
        refine inO_step 7 ⟨_, _, _, _, _, _⟩ rfl (by kernel_rfl) rfl (fun K hK => ?_)
        refine wp_own_app (.tmp 43) (.tmp 45) 39 rfl (V1.heap.size) 5 i0 (.int .u8 0) 1 Try.underlying39 hi hz0 hz1 hz2 rfl (.slice (some ⟨V1.heap.size, 0, none⟩) 0 0) [] (by rfl) (Own.of_none T2.out.b0) dao data.length dcap (bytesV data) (by rfl) hA.out.nil (by rw [bytesV_length]) (Reads.below hA.out.data T2.out.p.q) (bytesV_one _) (by have := hA.out.cap; dsimp only at this; simp; omega) (by have := hA.out.cap; dsimp only at this; simp; omega) (Nat.le_of_lt T2.out.b0.lt) fun v7 w7 ho7 hg7 => ?_
        have T3 := Lib.hid (TL.grow T2.out.tail (Own.of_none T2.out.b0) hg7 (fun k hk => by cases hk; exact ⟨(T2.out.l _ (.head _)).2.1, (T2.out.l _ (.head _)).2.2, fun y hy => Nat.ne_of_lt (T1.out.l y hy).1.lt⟩))
        obtain ⟨co, cc, rfl, hc1, hc2, hc4, hrd, hc5⟩ := Own.shapeN ho7 (n := data.length) (by simp [bytesV_length])
        have rd3 : Hid (Bytes w7 co data) := Lib.hid hrd
        have hnF : Hid (∀ a, co = some a → ¬ F a.block) := Lib.hid (fun a ha hf => by have h1 := (hc5 a ha).1; have h2 := T1.out.p.at_.lt _ hf; omega)
        refine hK _ _ (Keeps.cons (fun _ => rangeB T3.out.b2) (Keeps.cons (fun _ => T3.out.b1.cell 1) (Keeps.late (by kernel_rfl) (Keeps.nil _ _ _)))) ?_
        clear hK K hrd hc5 ho7 hg7
        simp only [Act.put, List.setIfInBounds_toArray, List.set_cons_zero, List.set_cons_succ]
        refine inO_step 8 ⟨_, _, _, _, _, _⟩ rfl (by kernel_rfl) rfl (fun K hK => ?_)
        refine wp_call Try.func12 (by kernel_rfl) rfl _ _ rfl _ rfl _ (C.out.put T3.out.p.at_ tp.out hkk ok.out nm hA.out.num co data cc rd3.out hc1 hc2 hc4 hnF.out hc3) fun e w8 R => ?_
        obtain ⟨m', t', v8, F', er, c', L', rfl, an, tp', hc', S', lp⟩ := R
        have T4 := Lib.hid (T3.out.turn S')
        obtain ⟨lo, lc, rfl, _⟩ := lp
        refine ⟨_, rfl, ?_⟩
        refine hK _ _ (Keeps.late (by kernel_rfl) (Keeps.late (by kernel_rfl) (Keeps.late (by kernel_rfl) (Keeps.nil _ _ _)))) ?_
        clear hK K S'
        simp only [Act.put, List.setIfInBounds_toArray, List.set_cons_zero, List.set_cons_succ]
        refine inO_take 9 ⟨_, _, _, _, _, _⟩ ((.tuple #[.agg (p3L t'.root).toArray, .slice lo L'.length lc, .int .i64 er])) rfl (by kernel_rfl) (by kernel_rfl) (by kernel_rfl) (fun _ _ _ h => h) rfl (fun ww => exec_move (by rfl) (by rfl) ww) ?_
        simp only [Act.put, List.setIfInBounds_toArray, List.set_cons_zero, List.set_cons_succ]
        refine inO_take 10 ⟨_, _, _, _, _, _⟩ (.agg (p3L t'.root).toArray) rfl (by kernel_rfl) (by kernel_rfl) (by kernel_rfl) (fun _ _ _ h => h) rfl (fun ww => by go_simp) ?_
        simp only [Act.put, List.setIfInBounds_toArray, List.set_cons_zero, List.set_cons_succ]
        refine inO_take 11 ⟨_, _, _, _, _, _⟩ (.slice lo L'.length lc) rfl (by kernel_rfl) (by kernel_rfl) (by kernel_rfl) (fun _ _ _ h => h) rfl (fun ww => by go_simp) ?_
        simp only [Act.put, List.setIfInBounds_toArray, List.set_cons_zero, List.set_cons_succ]
        refine inO_take 12 ⟨_, _, _, _, _, _⟩ (.int .i64 er) rfl (by kernel_rfl) (by kernel_rfl) (by kernel_rfl) (fun _ _ _ h => h) rfl (fun ww => by go_simp) ?_
        simp only [Act.put, List.setIfInBounds_toArray, List.set_cons_zero, List.set_cons_succ]
        refine inO_step 14 ⟨_, _, _, _, _, _⟩ rfl (by kernel_rfl) rfl (fun K hK => ?_)
        refine wp_store_blk 32 _ _ rfl (V0.heap.size) 0 (by rfl) (p3L t'.root) (by rfl) 32 (p3L p3z) (p3L t'.root) T4.out.b0 (Nat.le_of_eq rfl) (p3L_one _) (infoPtr _) (whole_new rfl) fun w14 h14 k14 z14 => ?_
        have T5 := Lib.hid (T4.out.over (fun y hy => Nat.ne_of_lt (T.out.l y (hy)).1.lt) k14 h14)
        refine hK _ _ (Keeps.late (by kernel_rfl) (Keeps.late (by kernel_rfl) (Keeps.late (by kernel_rfl) (Keeps.nil _ _ _)))) ?_
        clear hK K h14 k14 z14
        simp only [Act.put]
        refine inO_take 15 ⟨_, _, _, _, _, _⟩ (.slice lo L'.length lc) rfl (by kernel_rfl) (by kernel_rfl) (by kernel_rfl) (fun _ _ _ h => h) rfl (fun ww => by go_simp) ?_
        simp only [Act.put, List.setIfInBounds_toArray, List.set_cons_zero, List.set_cons_succ]
        refine inO_take 16 ⟨_, _, _, _, _, _⟩ (.int .i64 er) rfl (by kernel_rfl) (by kernel_rfl) (by kernel_rfl) (fun _ _ _ h => h) rfl (fun ww => by go_simp) ?_
        simp only [Act.put, List.setIfInBounds_toArray, List.set_cons_zero, List.set_cons_succ]
        refine inO_done (by kernel_rfl) ?_
        have TF := T5
        have hold := an.len
        have hinv2 : (nh t'.flat).length + (old + L'.length) + c' = 396 := by omega
        clear hold
        go_wp2_with (first
          | ((with_reducible refine n2Dst (some 51) (by rfl) ?_); refine wantList_load (by rfl) 32 _ rfl (V0.heap.size) 0 (by rfl) (p3L t'.root) _ (rangeB TF.out.b0) Try.underlying32 rfl (infoPtr _) ?_)
          | ((with_reducible refine guardList ?_)
             refine wantList_store (by rfl) 32 _ _ rfl w2.heap.size 0 (by rfl) (p3L t'.root) (by rfl) _ (p3L t.root) (p3L t'.root) TF.out.b2 (Nat.le_of_eq rfl) (p3L_one _) (infoPtr _) (whole_new rfl) ?_
             intro w15 h15 k15 z15
             have TG := Lib.hid (TL.over (TF.out.sub (L' := [(w2.heap.size, 32, p3L t.root)]) (fun y hy => by rcases List.mem_cons.1 hy with rfl | hy; exact .tail _ (.tail _ (.head _)); cases hy)) (fun y hy => by cases hy) k15 h15)
             clear h15 k15 z15))
        go_roundw
        case rel => exact ⟨k + 1, F', m', t', an.ok.choose, kk + 3, c', old + L'.length, by omega, by go_num, by go_num, TG, Lib.hid tp', by omega, by omega, Lib.hid an.ok.choose_spec, hinv2⟩
        case measure => simp [intOf] <;> omega
    · obtain rfl : k = N := by omega
      obtain ⟨k0, rfl⟩ : ∃ k0, k0 = k := ⟨k, rfl⟩
      clear hlt hk
      have hbl := C.out.blocks T1.out.p.at_ tp.out (by omega) ok.out
      go_wp2_with ((with_reducible refine n2Dst (some 59) (by rfl) ?_); refine wantList_load (by rfl) 32 _ rfl w2.heap.size 0 (by rfl) (p3L t.root) _ (rangeB T1.out.b0) Try.underlying32 rfl (infoPtr _) ?_)
      refine hbl.mono ?_
      clear hbl
      rintro e w3 ⟨m1, v, F1, rfl, tp1, al1, S1, lp⟩
      have T3 := Lib.hid (T1.out.turn S1)
      have ok3 := Lib.hid (ok.out.alike al1)
      have tp3 := Lib.hid tp1
      have hx2 := T1.out.lt0
      obtain ⟨lao, lc, rfl, hlr, _, hll⟩ := lp
      have lst3 : Hid (Lst w3 F1 w2.heap.size lao (t.blocksL.map fun i : Nat => Value.int .i64 (i : Int))) := Lib.hid ⟨hlr, fun a ha => ⟨(hll a ha).2.1, (hll a ha).2.2, Nat.lt_of_lt_of_le hx2 (hll a ha).1⟩⟩
      have hbl64 := blocksL_length t
      have hleft0 := Lib.hid (fun fr => Left.first t fr)
      have hb64' : Hid (∀ y b, t.blocksL[y]? = some b → b < 64) := Lib.hid (fun y b h => blocks_lt h)
      obtain ⟨bl, hblq⟩ : ∃ bl, bl = t.blocksL := ⟨_, rfl⟩
      rw [← hblq] at lst3 hbl64 hleft0 hb64' ⊢
      clear hblq hlr hll S1 al1 tp1 hx2 T1 tp ok
      obtain ⟨fn, rfl⟩ : ∃ fn : Nat, from_ = (fn : Int) := ⟨from_.toNat, by omega⟩
      obtain ⟨fr, hfr1⟩ : ∃ fr : Nat, fr = fn % 1000 := ⟨_, rfl⟩
      have hfrl : fr < 1000 := by rw [hfr1]; exact Nat.mod_lt _ (by decide)
      have hq1 : Int.tmod (fn : Int) 1000 = (fr : Int) := by rw [Int.tmod_eq_emod_of_nonneg (by omega)]; omega
      clear hfr1 h0
      go_wp2
      go_loopw [7, 67] (fun o i wr => ∃ (k : Nat) (F : Nat → Prop) (m : PileM) (t : Tree) (f : Nat → Sec) (kk c old : Nat), k ≤ bl.length ∧ i = .int .i64 k ∧ o = .int .i64 old ∧ Hid (TL w wr g d B F m [(w2.heap.size, 32, p3L t.root)]) ∧ Hid (Lst wr F w2.heap.size lao (bl.map fun i : Nat => Value.int .i64 (i : Int))) ∧ Hid (TP m 400 kk c) ∧ kk ≤ 3 * k0 + 2 * k ∧ 396 ≤ c + 3 * k0 + 2 * k ∧ Hid (TreeOk m 400 t f) ∧ (nh t.flat).length + old + c = 396 ∧ Hid (Left t bl fr k))
        (fun _ i _ => bl.length - (intOf i).toNat)
      case atStart => exact ⟨0, F1, m1, t, f, kk, c, old, by omega, rfl, rfl, T3, lst3, tp3, by omega, by omega, ok3, hinv, Lib.hid (hleft0.out fr)⟩
      case round =>
        clear T3 lst3 tp3 ok3 hinv hleft0 hkk3 hc3'
        obtain ⟨k, F, m, t, f, kk, c, old, hk, rfl, rfl, T, lst, tp, hkk3, hc3', ok, hinv, hleft⟩ := hrel
        by_cases hlt : k < bl.length
        · obtain ⟨y, hy0⟩ : ∃ y, y = (fr + k) % bl.length := ⟨_, rfl⟩
          have hy : y < bl.length := by rw [hy0]; exact Nat.mod_lt _ (by omega)
          obtain ⟨lb, loff, rfl, hlb, hcb⟩ := lst.out.num hy
          obtain ⟨b, hbq⟩ : ∃ b, b = bl[y] := ⟨_, rfl⟩
          have hbk : bl[(fr + k) % bl.length]? = some b := by rw [← hy0, hbq]; exact List.getElem?_eq_getElem hy
          have hb1 := hb64'.out _ _ hbk
          rw [← hbq] at hcb
          have hbk := Lib.hid hbk
          have hb64 : I64 (b : Int) := by unfold I64; omega
          have hbin : 0 ≤ (b : Int) ∧ (b : Int) < 64 := by omega
          have hkk : kk ≤ 100000 := by omega
          have hc2 : 2 ≤ c := by omega
          have hq2 : Int.tmod ((fr + k : Nat) : Int) (bl.length : Int) = (y : Int) := by rw [Int.tmod_eq_emod_of_nonneg (by omega), hy0]; omega
          have hq3 : Int.tmod ((fr : Int) + (k : Int)) (bl.length : Int) = (y : Int) := by rw [← hq2]; congr 1
          have hne0 : ((bl.length : Int) == 0) = false := by simp; intro e; rw [e] at hlt; exact absurd hlt (Nat.not_lt_zero _)
          have hbne : ¬ bl = [] := fun e => by rw [e] at hlt; exact absurd hlt (Nat.not_lt_zero _)
          have hwf := IntWalk.i64_in ((fr : Int) + (k : Int)) (by omega)
          clear hbq hy0
          go_wp2
          have T := Lib.hid T.out.drew
          have lst := Lib.hid lst.out.drew
          have hcell : wr.drew.cell? ⟨lb, loff + y, none⟩ = some (.int .i64 (b : Int)) := hcb
          refine inO_region [(1, fun w' => w'.rangeAt (w2.heap.size) (0) (p3L t.root)), (11, fun w' => w'.cell? ⟨lb, loff + y, none⟩ = some (.int .i64 (b : Int)))] (by kernel_rfl) (Owed.cons (rangeB T.out.b0) (Owed.cons hcell (Owed.nil _ _))) ?_
          clear hcb
          generalize wr.drew = V0 at *
          refine inO_take 0 ⟨_, _, _, _, _, _⟩ (.pointer (some ⟨g, 0, none⟩)) rfl (by kernel_rfl) (by kernel_rfl) (by kernel_rfl) (fun _ _ _ h => h) rfl (fun ww => exec_move (by rfl) (by rfl) ww) ?_
          simp only [Act.put, List.setIfInBounds_toArray, List.set_cons_zero, List.set_cons_succ]
          refine inO_load 1 ⟨_, _, _, _, _, _⟩ (.agg (p3L t.root).toArray) (fun w' => w'.rangeAt (w2.heap.size) (0) (p3L t.root)) rfl (by kernel_rfl) (by kernel_rfl) (by kernel_rfl) (fun _ _ _ h => h) rfl (.head _) (fun ww hw => exec_load_mid _ _ (by rfl) _ _ (by rfl) _ _ hw Try.underlying32 rfl (infoPtr _)) ?_
          simp only [Act.put, List.setIfInBounds_toArray, List.set_cons_zero, List.set_cons_succ]
          refine inO_take 2 ⟨_, _, _, _, _, _⟩ (.slice (some ⟨lb, loff, none⟩) bl.length lc) rfl (by kernel_rfl) (by kernel_rfl) (by kernel_rfl) (fun _ _ _ h => h) rfl (fun ww => exec_move (by rfl) (by rfl) ww) ?_
          simp only [Act.put, List.setIfInBounds_toArray, List.set_cons_zero, List.set_cons_succ]
          refine inO_take 3 ⟨_, _, _, _, _, _⟩ (.int .i64 (fn : Int)) rfl (by kernel_rfl) (by kernel_rfl) (by kernel_rfl) (fun _ _ _ h => h) rfl (fun ww => exec_move (by rfl) (by rfl) ww) ?_
          simp only [Act.put, List.setIfInBounds_toArray, List.set_cons_zero, List.set_cons_succ]
          refine inO_take 4 ⟨_, _, _, _, _, _⟩ (.int .i64 (fr : Int)) rfl (by kernel_rfl) (by kernel_rfl) (by kernel_rfl) (fun _ _ _ h => h) rfl (fun ww => by go_simp) ?_
          simp only [Act.put, List.setIfInBounds_toArray, List.set_cons_zero, List.set_cons_succ]
          refine inO_take 5 ⟨_, _, _, _, _, _⟩ (.int .i64 (k : Int)) rfl (by kernel_rfl) (by kernel_rfl) (by kernel_rfl) (fun _ _ _ h => h) rfl (fun ww => exec_move (by rfl) (by rfl) ww) ?_
          simp only [Act.put, List.setIfInBounds_toArray, List.set_cons_zero, List.set_cons_succ]
          refine inO_take 6 ⟨_, _, _, _, _, _⟩ (.int .i64 ((fr + k : Nat) : Int)) rfl (by kernel_rfl) (by kernel_rfl) (by kernel_rfl) (fun _ _ _ h => h) rfl (fun ww => by go_simp) ?_
          simp only [Act.put, List.setIfInBounds_toArray, List.set_cons_zero, List.set_cons_succ]
          refine inO_take 7 ⟨_, _, _, _, _, _⟩ (.slice (some ⟨lb, loff, none⟩) bl.length lc) rfl (by kernel_rfl) (by kernel_rfl) (by kernel_rfl) (fun _ _ _ h => h) rfl (fun ww => exec_move (by rfl) (by rfl) ww) ?_
          simp only [Act.put, List.setIfInBounds_toArray, List.set_cons_zero, List.set_cons_succ]
          refine inO_take 8 ⟨_, _, _, _, _, _⟩ (.int .i64 (bl.length : Int)) rfl (by kernel_rfl) (by kernel_rfl) (by kernel_rfl) (fun _ _ _ h => h) rfl (fun ww => by go_simp) ?_
          simp only [Act.put, List.setIfInBounds_toArray, List.set_cons_zero, List.set_cons_succ]
          refine inO_take 9 ⟨_, _, _, _, _, _⟩ (.int .i64 (y : Int)) rfl (by kernel_rfl) (by kernel_rfl) (by kernel_rfl) (fun _ _ _ h => h) rfl (fun ww => by go_simp) ?_
          simp only [Act.put, List.setIfInBounds_toArray, List.set_cons_zero, List.set_cons_succ]
          refine inO_take 10 ⟨_, _, _, _, _, _⟩ (.pointer (some ⟨lb, loff + y, none⟩)) rfl (by kernel_rfl) (by kernel_rfl) (by kernel_rfl) (fun _ _ _ h => h) rfl (fun ww => by go_simp) ?_
          simp only [Act.put, List.setIfInBounds_toArray, List.set_cons_zero, List.set_cons_succ]
          refine inO_load 11 ⟨_, _, _, _, _, _⟩ (.int .i64 (b : Int)) (fun w' => w'.cell? ⟨lb, loff + y, none⟩ = some (.int .i64 (b : Int))) rfl (by kernel_rfl) (by kernel_rfl) (by kernel_rfl) (fun _ _ _ h => h) rfl (.tail _ (.head _)) (fun ww hw => by go_simp) ?_
          simp only [Act.put, List.setIfInBounds_toArray, List.set_cons_zero, List.set_cons_succ]
          refine inO_two 12 17 ⟨_, _, _, _, _, _⟩ ⟨_, _, _, _, _, _⟩ rfl rfl (by kernel_rfl) rfl rfl (fun K hK => ?_) (fun K hK => ?_)
          · refine wp_call Try.func11 (by kernel_rfl) rfl _ _ rfl _ rfl _ (C.out.cut T.out.p.at_ tp.out hkk ok.out (b : Int) hb64 hc2) fun e w8 R => ?_
            obtain ⟨m', t', v8, F', c', L', rfl, an, tp', hc', S', lp, hlf⟩ := R
            rw [if_pos hbin]
            have T1 := Lib.hid (T.out.turn S')
            have l1 := Lib.hid (lst.out.turn S'.kept S'.grows)
            obtain ⟨lo, lc', rfl, _⟩ := lp
            refine ⟨_, rfl, ?_⟩
            refine hK _ _ (Keeps.late (by kernel_rfl) (Keeps.late (by kernel_rfl) (Keeps.nil _ _ _))) ?_
            clear hK K S'
            simp only [Act.put, List.setIfInBounds_toArray, List.set_cons_zero, List.set_cons_succ]
            refine inO_take 13 ⟨_, _, _, _, _, _⟩ ((.tuple #[.agg (p3L t'.root).toArray, .slice lo L'.length lc', .int .i64 0])) rfl (by kernel_rfl) (by kernel_rfl) (by kernel_rfl) (fun _ _ _ h => h) rfl (fun ww => exec_move (by rfl) (by rfl) ww) ?_
            simp only [Act.put, List.setIfInBounds_toArray, List.set_cons_zero, List.set_cons_succ]
            refine inO_take 14 ⟨_, _, _, _, _, _⟩ (.agg (p3L t'.root).toArray) rfl (by kernel_rfl) (by kernel_rfl) (by kernel_rfl) (fun _ _ _ h => h) rfl (fun ww => by go_simp) ?_
            simp only [Act.put, List.setIfInBounds_toArray, List.set_cons_zero, List.set_cons_succ]
            refine inO_take 15 ⟨_, _, _, _, _, _⟩ (.slice lo L'.length lc') rfl (by kernel_rfl) (by kernel_rfl) (by kernel_rfl) (fun _ _ _ h => h) rfl (fun ww => by go_simp) ?_
            simp only [Act.put, List.setIfInBounds_toArray, List.set_cons_zero, List.set_cons_succ]
            refine inO_take 16 ⟨_, _, _, _, _, _⟩ (.int .i64 0) rfl (by kernel_rfl) (by kernel_rfl) (by kernel_rfl) (fun _ _ _ h => h) rfl (fun ww => by go_simp) ?_
            simp only [Act.put, List.setIfInBounds_toArray, List.set_cons_zero, List.set_cons_succ]
            refine inO_step 17 ⟨_, _, _, _, _, _⟩ rfl (by kernel_rfl) rfl (fun K hK => ?_)
            refine wp_newPtr rfl ?_
            have T2 := Lib.hid (T1.out.box 32 (p3L p3z))
            have l2 := Lib.hid (l1.out.alloc (.cells (p3L p3z).toArray 32))
            refine hK _ _ (Keeps.cons (fun hh j v hv => cell_alloc (hh j v hv) _) (Keeps.cons (fun hh => cell_alloc hh _) (Keeps.nil _ _ _))) ?_
            clear hK K
            simp only [Act.put, List.setIfInBounds_toArray, List.set_cons_zero, List.set_cons_succ]
            obtain ⟨V2, hV2⟩ : ∃ V, V = w8.alloc (.cells (p3L p3z).toArray 32) := ⟨_, rfl⟩
            rw [← hV2] at T2 l2 ⊢
            clear hV2
            refine inO_step 18 ⟨_, _, _, _, _, _⟩ rfl (by kernel_rfl) rfl (fun K hK => ?_)
            refine wp_store_blk 32 _ _ rfl (w8.heap.size) 0 (by rfl) (p3L t'.root) (by rfl) 32 (p3L p3z) (p3L t'.root) T2.out.b0 (Nat.le_of_eq rfl) (p3L_one _) (infoPtr _) (whole_new rfl) fun w14 h14 k14 z14 => ?_
            have T3 := Lib.hid (T2.out.over (fun y hy => Nat.ne_of_lt (T1.out.l y hy).1.lt) k14 h14)
            have l3 := Lib.hid (l2.out.over k14 (.inr (.inr fun a ha => Nat.ne_of_lt (l1.out.out a ha).1)))
            refine hK _ _ (Keeps.late (by kernel_rfl) (Keeps.late (by kernel_rfl) (Keeps.nil _ _ _))) ?_
            clear hK K h14 k14 z14
            simp only [Act.put]
            refine inO_take 19 ⟨_, _, _, _, _, _⟩ (.slice lo L'.length lc') rfl (by kernel_rfl) (by kernel_rfl) (by kernel_rfl) (fun _ _ _ h => h) rfl (fun ww => by go_simp) ?_
            simp only [Act.put, List.setIfInBounds_toArray, List.set_cons_zero, List.set_cons_succ]
            refine inO_take 20 ⟨_, _, _, _, _, _⟩ (.int .i64 0) rfl (by kernel_rfl) (by kernel_rfl) (by kernel_rfl) (fun _ _ _ h => h) rfl (fun ww => by go_simp) ?_
            simp only [Act.put, List.setIfInBounds_toArray, List.set_cons_zero, List.set_cons_succ]
            refine inO_done (by kernel_rfl) ?_
            have TF := T3
            have lF := l3
            have hlf2 : ∀ j, j < 64 → t'.leaf j = if j = b then p3z else t.leaf j := fun j hj => by rw [hlf j hj]; by_cases e : j = b; (rw [if_pos (by omega), if_pos e]); (rw [if_neg (by omega), if_neg e])
            have hbk := hbk.out
            have hold := an.len
            have hinv2 : (nh t'.flat).length + (old + L'.length) + c' = 396 := by omega
            clear hold
            go_wp2_with (first
              | ((with_reducible refine n2Dst (some 89) (by rfl) ?_); refine wantList_load (by rfl) 32 _ rfl (w8.heap.size) 0 (by rfl) (p3L t'.root) _ (rangeB TF.out.b0) Try.underlying32 rfl (infoPtr _) ?_)
              | ((with_reducible refine guardList ?_)
                 refine wantList_store (by rfl) 32 _ _ rfl w2.heap.size 0 (by rfl) (p3L t'.root) (by rfl) _ (p3L t.root) (p3L t'.root) TF.out.b1 (Nat.le_of_eq rfl) (p3L_one _) (infoPtr _) (whole_new rfl) ?_
                 intro w15 h15 k15 z15
                 have TG := Lib.hid (TL.over TF.out.tail (fun y hy => by cases hy) k15 h15)
                 have lG := Lib.hid (lF.out.over k15 (.inl (Nat.le_refl _)))
                 clear h15 k15 z15))
            go_roundw
            case rel => exact ⟨k + 1, F', m', t', an.ok.choose, kk + 2, c', old + L'.length, by omega, by go_num, by go_num, TG, lG, Lib.hid tp', by omega, by omega, Lib.hid an.ok.choose_spec, hinv2, Lib.hid (hleft.out.next hbk hlf2)⟩
            case measure => simp [intOf] <;> omega
          · refine wp_newPtr rfl ?_
            have T1 := Lib.hid (T.out.box 32 (p3L p3z))
            have l1 := Lib.hid (lst.out.alloc (.cells (p3L p3z).toArray 32))
            refine hK _ _ (Keeps.cons (fun hh j v hv => cell_alloc (hh j v hv) _) (Keeps.cons (fun hh => cell_alloc hh _) (Keeps.nil _ _ _))) ?_
            clear hK K
            simp only [Act.put, List.setIfInBounds_toArray, List.set_cons_zero, List.set_cons_succ]
            obtain ⟨V1, hV1⟩ : ∃ V, V = V0.alloc (.cells (p3L p3z).toArray 32) := ⟨_, rfl⟩
            rw [← hV1] at T1 l1 ⊢
            clear hV1
            refine inO_step 12 ⟨_, _, _, _, _, _⟩ rfl (by kernel_rfl) rfl (fun K hK => ?_)
            refine wp_call Try.func11 (by kernel_rfl) rfl _ _ rfl _ rfl _ (C.out.cut T1.out.p.at_ tp.out hkk ok.out (b : Int) hb64 hc2) fun e w8 R => ?_
            obtain ⟨m', t', v8, F', c', L', rfl, an, tp', hc', S', lp, hlf⟩ := R
            rw [if_pos hbin]
            have T2 := Lib.hid (T1.out.turn S')
            have l2 := Lib.hid (l1.out.turn S'.kept S'.grows)
            obtain ⟨lo, lc', rfl, _⟩ := lp
            refine ⟨_, rfl, ?_⟩
            refine hK _ _ (Keeps.late (by kernel_rfl) (Keeps.late (by kernel_rfl) (Keeps.nil _ _ _))) ?_
            clear hK K S'
            simp only [Act.put, List.setIfInBounds_toArray, List.set_cons_zero, List.set_cons_succ]
            refine inO_take 13 ⟨_, _, _, _, _, _⟩ ((.tuple #[.agg (p3L t'.root).toArray, .slice lo L'.length lc', .int .i64 0])) rfl (by kernel_rfl) (by kernel_rfl) (by kernel_rfl) (fun _ _ _ h => h) rfl (fun ww => exec_move (by rfl) (by rfl) ww) ?_
            simp only [Act.put, List.setIfInBounds_toArray, List.set_cons_zero, List.set_cons_succ]
            refine inO_take 14 ⟨_, _, _, _, _, _⟩ (.agg (p3L t'.root).toArray) rfl (by kernel_rfl) (by kernel_rfl) (by kernel_rfl) (fun _ _ _ h => h) rfl (fun ww => by go_simp) ?_
            simp only [Act.put, List.setIfInBounds_toArray, List.set_cons_zero, List.set_cons_succ]
            refine inO_take 15 ⟨_, _, _, _, _, _⟩ (.slice lo L'.length lc') rfl (by kernel_rfl) (by kernel_rfl) (by kernel_rfl) (fun _ _ _ h => h) rfl (fun ww => by go_simp) ?_
            simp only [Act.put, List.setIfInBounds_toArray, List.set_cons_zero, List.set_cons_succ]
            refine inO_take 16 ⟨_, _, _, _, _, _⟩ (.int .i64 0) rfl (by kernel_rfl) (by kernel_rfl) (by kernel_rfl) (fun _ _ _ h => h) rfl (fun ww => by go_simp) ?_
            simp only [Act.put, List.setIfInBounds_toArray, List.set_cons_zero, List.set_cons_succ]
            refine inO_step 18 ⟨_, _, _, _, _, _⟩ rfl (by kernel_rfl) rfl (fun K hK => ?_)
            refine wp_store_blk 32 _ _ rfl (V0.heap.size) 0 (by rfl) (p3L t'.root) (by rfl) 32 (p3L p3z) (p3L t'.root) T2.out.b0 (Nat.le_of_eq rfl) (p3L_one _) (infoPtr _) (whole_new rfl) fun w14 h14 k14 z14 => ?_
            have T3 := Lib.hid (T2.out.over (fun y hy => Nat.ne_of_lt (T.out.l y hy).1.lt) k14 h14)
            have l3 := Lib.hid (l2.out.over k14 (.inr (.inr fun a ha => Nat.ne_of_lt (lst.out.out a ha).1)))
            refine hK _ _ (Keeps.late (by kernel_rfl) (Keeps.late (by kernel_rfl) (Keeps.nil _ _ _))) ?_
            clear hK K h14 k14 z14
            simp only [Act.put]
            refine inO_take 19 ⟨_, _, _, _, _, _⟩ (.slice lo L'.length lc') rfl (by kernel_rfl) (by kernel_rfl) (by kernel_rfl) (fun _ _ _ h => h) rfl (fun ww => by go_simp) ?_
            simp only [Act.put, List.setIfInBounds_toArray, List.set_cons_zero, List.set_cons_succ]
            refine inO_take 20 ⟨_, _, _, _, _, _⟩ (.int .i64 0) rfl (by kernel_rfl) (by kernel_rfl) (by kernel_rfl) (fun _ _ _ h => h) rfl (fun ww => by go_simp) ?_
            simp only [Act.put, List.setIfInBounds_toArray, List.set_cons_zero, List.set_cons_succ]
            refine inO_done (by kernel_rfl) ?_
            have TF := T3
            have lF := l3
            have hlf2 : ∀ j, j < 64 → t'.leaf j = if j = b then p3z else t.leaf j := fun j hj => by rw [hlf j hj]; by_cases e : j = b; (rw [if_pos (by omega), if_pos e]); (rw [if_neg (by omega), if_neg e])
            have hbk := hbk.out
            have hold := an.len
            have hinv2 : (nh t'.flat).length + (old + L'.length) + c' = 396 := by omega
            clear hold
            go_wp2_with (first
              | ((with_reducible refine n2Dst (some 89) (by rfl) ?_); refine wantList_load (by rfl) 32 _ rfl (V0.heap.size) 0 (by rfl) (p3L t'.root) _ (rangeB TF.out.b0) Try.underlying32 rfl (infoPtr _) ?_)
              | ((with_reducible refine guardList ?_)
                 refine wantList_store (by rfl) 32 _ _ rfl w2.heap.size 0 (by rfl) (p3L t'.root) (by rfl) _ (p3L t.root) (p3L t'.root) TF.out.b1 (Nat.le_of_eq rfl) (p3L_one _) (infoPtr _) (whole_new rfl) ?_
                 intro w15 h15 k15 z15
                 have TG := Lib.hid (TL.over TF.out.tail (fun y hy => by cases hy) k15 h15)
                 have lG := Lib.hid (lF.out.over k15 (.inl (Nat.le_refl _)))
                 clear h15 k15 z15))
            go_roundw
            case rel => exact ⟨k + 1, F', m', t', an.ok.choose, kk + 2, c', old + L'.length, by omega, by go_num, by go_num, TG, lG, Lib.hid tp', by omega, by omega, Lib.hid an.ok.choose_spec, hinv2, Lib.hid (hleft.out.next hbk hlf2)⟩
            case measure => simp [intOf] <;> omega
        · obtain rfl : k = bl.length := by omega
          have hholes := hleft.out.last
          have hroot := all_holes ok.out hholes
          have hflat : (nh t.flat).length = 0 := by rw [flat_holes ok.out tp.out hholes]; rfl
          have hcnt : Hid (countN m.map = c) := Lib.hid tp.out.cnt
          have hbl := C.out.blocks T.out.p.at_ tp.out (by omega) ok.out
          rw [blocks_none hholes, hroot] at hbl
          have hbl := Lib.hid hbl
          have T := Lib.hid (show TL w wr g d B F m [(w2.heap.size, 32, p3L p3z)] from by have := T.out; rw [hroot] at this; exact this)
          have hold : old + c = 396 := by omega
          have hq3 : ∀ w : World, (Op.equalIn 10000 32 (.agg (p3L p3z).toArray) (.agg #[.int .i64 0, .int .u64 0, .int .u32 0])).run Try.prog w = .ok true w := fun w => eqPtr w p3z p3z
          clear hholes hroot hflat hinv
          go_wp2_with ((with_reducible refine n2Dst (some 97) (by rfl) ?_); refine wantList_load (by rfl) 32 _ rfl w2.heap.size 0 (by rfl) (p3L p3z) _ (rangeB T.out.b0) Try.underlying32 rfl (infoPtr _) ?_)
          refine hbl.out.mono ?_
          rintro e w4 ⟨m5, v, F5, rfl, tp5, al5, S5, lp5⟩
          have T5 := Lib.hid (T.out.turn S5)
          have hcnt5 : Hid (countN m5.map = c) := Lib.hid (by rw [al5.map]; exact hcnt.out)
          obtain ⟨lao5, lc5, rfl, _⟩ := lp5
          clear S5 al5 tp5
          go_wp2_with ((with_reducible refine n2Dst (some 109) (by rfl) ?_); refine wantList_load (by rfl) 32 _ rfl w2.heap.size 0 (by rfl) (p3L p3z) _ (rangeB T5.out.b0) Try.underlying32 rfl (infoPtr _) ?_)
          refine (oMap T5.out.p.at_).mono ?_
          rintro e w6 ⟨rfl, rfl⟩
          go_wp2_with fail
          refine (oCount T5.out.p.at_).mono ?_
          rw [hcnt5.out]
          rintro e w6 ⟨rfl, rfl⟩
          have hfin : ((old : Int) == 396 - (c : Int)) = true := by simp; omega
          go_wp2
          go_ret
          exact ⟨rfl, T5.out.p.q⟩

theorem walk (ao : Option Addr) (as_ : List Act3) (cap : Nat) (from_ : Int) (w : World) (hacts : Acts3 w ao as_) (hl : as_.length ≤ 140737488351232) (hnil : ao = none → cap = 0) (hfr : I64 from_) :
    Calls Try.prog 6 #[.slice ao as_.length cap, .int .i64 from_] w fun e w' => e = .returned (.bool true) ∧ Below w.heap.size w w' := walkC treeC ao as_ cap from_ w hacts hl hnil hfr

theorem own : ownKnob Try.prog.godebug = none := by kernel_rfl
theorem laidOut : laidOutB Try.prog = true := by kernel_rfl

set_option maxRecDepth 100000 in
theorem lifted (os : Os) (started : os.Started) (H : Type) (enc : TypeId × Value → H) :
    ReturnsInHanded {} Try.checked os 6 .any (Rows.treeTrimsSpec.pre6 enc Try.prog Try.f6 Rows.treeTrimsRow.domain false) (Rows.treeTrimsSpec.post enc Try.prog Try.f6 false true false false) := by
  refine returnsInHanded_of_change_sized (C := Try.checked) own started (by kernel_rfl) Try.func6
    (ChangeSpec.witness6 (enc := enc) (C := Try.checked) false ⟨#[], #[.slice none 0 0, .int .i64 0], []⟩ 8 (by kernel_rfl) (by kernel_rfl) (by kernel_rfl) (by kernel_rfl)) ?_
  intro W base args ds gs before hval0 hW hcnd hsz0 _
  have hval : ∀ (j : Nat) t v, Try.f6.params[j]? = some t → args[j]? = some v → Value.okWide Try.prog W .any base t v := hval0
  have hsz : (DataW.weightsEach Try.prog (Try.f6.params.toList ++ Rows.treeTrimsSpec.plain.varTypes Try.prog) (ds ++ gs)).all (· ≤ reachBytes) = true := hsz0
  have hW' := hW
  obtain ⟨p, q, hA0, hV, rfl, hfz, hnd⟩ := hW
  have hA : DataW.TrodAll enc Try.prog W 0 (fun _ => true) true Try.f6.params.toList args.toList ds p := hA0
  rw [Try.params6] at hA hval hsz
  obtain ⟨v0, vs0, d0, ds0, p0, q0, hargs, rfl, rfl, h0, r0⟩ := trodAll_cons hA
  obtain ⟨v1, vs1, d1, ds1, p1, q1, rfl, rfl, rfl, h1, r1⟩ := trodAll_cons r0
  obtain ⟨rfl, rfl, rfl⟩ := trodAll_nil r1
  obtain rfl : args = #[v0, v1] := by cases args; simp_all
  obtain ⟨rfl, rfl⟩ := trodVars_none hV
  have k0 := h0
  have lt0 : ∀ x ∈ p0, x.block < W.heap.size := by obtain ⟨m, hm⟩ := k0; exact DataW.trod_lt m _ _ _ hm
  obtain ⟨ao0, a0, cap0, rfl, sp0, fi0, nl0⟩ := arg_acts11 h0 (hval 0 34 v0 rfl rfl) (light_arg hsz (j := 0) (t := 34) rfl rfl)
  obtain ⟨a1, rfl, rfl, rfl, wf1⟩ := open_int Try.underlying3 (hval 1 3 v1 rfl rfl) h1
  clear hA0 hval0 hsz0
  refine (walk ao0 a0 cap0 a1 W sp0 fi0 nl0 (wf_i64 wf1)).mono fun e W' ⟨he, bel⟩ => ?_
  subst he
  exact ⟨_, rfl, _, _, _, [], _, [], hW', trodAll_mk1 (shut_bool Try.underlying4 _), (trodAll_cons_mk (Below.trod laidOut (by kernel_rfl) (of_decide_eq_true (by kernel_rfl)) k0 bel lt0) (trodAll_cons_mk (shut_int Try.underlying3 wf1) trodAll_mk0)), rfl, bel.frame _, fun h => by cases h⟩

theorem proved : Rows.TreeTrimsSaid :=
  OpenClaim.holds_of_wide 6 Try.f6 rfl rfl rfl rfl rfl rfl rfl ⟨rfl, rfl, rfl, rfl, rfl⟩ rfl rfl rfl rfl rfl (by kernel_rfl) Try.func6 (by kernel_rfl)
    (of_decide_eq_true (by kernel_rfl)) (by unfold Func.isWrapper; first | (rw [if_pos (by decide +kernel)]; kernel_rfl) | (rw [if_neg (by decide +kernel)]; exact ⟨rfl, rfl⟩))
    (fun os started H enc _ => lifted os started H enc)
end Go.Proofs.Ytgdefibkemkejaa.lawTreeTrims
