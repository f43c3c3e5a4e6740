/- TreeTold, for every input: the law returns true and each argument reads behind the call as before. No condition. -/
import Derived.Test.YtgdefibkemkejaaGTreeF
namespace Go.Proofs.Ytgdefibkemkejaa.lawTreeTold
open Go.ChangeShapes Go.WideShapes Go.ChangeAt Go.RowKit Go.Deep
set_option linter.unusedVariables false
set_option maxRecDepth 20000

set_option maxRecDepth 100000 in
set_option maxHeartbeats 8000000 in
theorem walkC (C : TreeC) (ao : Option Addr) (as_ : List Act3) (cap : Nat) (st : Nat) (w : World) (hacts : Acts3 w ao as_) (hl : as_.length ≤ 140737488351232) (hnil : ao = none → cap = 0) (hst : st < 18446744073709551616) :
    Calls Try.prog 5 #[.slice ao as_.length cap, .int .u64 (st : Int)] w fun e w' => e = .returned (.bool true) ∧ Below w.heap.size w w' := by
  obtain ⟨i0, hi, hz0, hz1, hz2⟩ := info_parts infoU8
  obtain ⟨j0, hj, hy0, hy1, hy2⟩ := info_parts infoPtr4
  have hacts := Lib.hid hacts
  have C := Lib.hid C
  obtain ⟨N, hN⟩ : ∃ N, Hid (as_.length = N) := ⟨_, Lib.hid rfl⟩
  rw [hN.out] at hl ⊢
  clear hnil
  go_enter Try.func5, Try.ntmps5
  go_wp2_with fail
  refine (treeAlive_any C.out _).mono ?_
  rintro e w1 ⟨rfl, b1⟩
  have q1 := Lib.hid b1
  clear b1
  by_cases h25 : N > 40
  · go_wp2
    go_ret
    exact ⟨rfl, q1.out⟩
  go_wp2_with fail
  refine (made11_any 200 (by unfold I64; omega) w1).mono ?_
  rintro e w2 ⟨g, d, B, F, rfl, hP⟩
  have hP := hP.later q1.out
  rw [show DevM.newLen 200 = 200 from rfl] at hP
  obtain ⟨m0, hm0⟩ : ∃ m, Hid (m = (⟨DevM.fresh 200, newS 200, 1, 0⟩ : PileM)) := ⟨_, Lib.hid rfl⟩
  rw [← hm0.out] at hP
  have tp0 : Hid (TP m0 200 0 196) := Lib.hid (by rw [hm0.out]; exact newS_first (n := 200) (by decide) 1 0 (by decide) (by decide) count200)
  have st0 : m0.stamp ≤ 1 + 0 := by rw [hm0.out]; exact Nat.le_refl _
  have hT0 : Hid (Told m0 200 (nh tree0.flat ++ [])) := Lib.hid (told0 (fun a _ => by rw [hm0.out]; exact newS_not2 200 a))
  have ok0 : Hid (TreeOk m0 200 tree0 fun _ => sec0) := Lib.hid (tree0_ok m0 200)
  have T1 := Lib.hid ((show TL w w2 g d B F m0 [] from ⟨hP, Side.nil _ _ _⟩).box 32 (p3L tree0.root))
  have O1 : Hid (OL w ((w2.alloc (.cells (p3L tree0.root).toArray 32)).alloc (.cells #[] 32)) F w2.heap.size (.slice (some ⟨w2.heap.size + 1, 0, none⟩) 0 0) []) := Lib.hid (by have h := OL.first w (w2.alloc (.cells (p3L tree0.root).toArray 32)) F w2.heap.size T1.out.size T1.out.p.at_.lt T1.out.lt0; rw [World.size_alloc] at h; exact h)
  have T1 := Lib.hid (T1.out.alloc (.cells #[] 32))
  have hn0 : Hid ((nh tree0.flat).length = 0) := Lib.hid (by rw [flat0]; rfl)
  clear hP q1 hm0
  go_wp2
  go_loopw [7, 31] (fun v i wr => ∃ (k : Nat) (F : Nat → Prop) (m : PileM) (t : Tree) (f : Nat → Sec) (kk c : Nat) (qs : List P3), k ≤ N ∧ i = .int .i64 k ∧ Hid (TL w wr g d B F m [(w2.heap.size, 32, p3L t.root)]) ∧ Hid (OL w wr F w2.heap.size v qs) ∧ Hid (TP m 200 kk c) ∧ kk ≤ 3 * k ∧ 196 ≤ c + 3 * k ∧ m.stamp ≤ 1 + k ∧ Hid (TreeOk m 200 t f) ∧ (nh t.flat).length + qs.length + c = 196 ∧ Hid (Told m 200 (nh t.flat ++ qs)))
    (fun _ i _ => N - (intOf i).toNat)
  case atStart => exact ⟨0, F, m0, tree0, _, 0, 196, [], by omega, rfl, T1, O1, tp0, by omega, by omega, st0, ok0, by rw [hn0.out]; rfl, hT0⟩
  case round =>
    clear T1 O1 tp0 ok0 st0 hT0 hn0
    obtain ⟨k, F, m, t, f, kk, c, qs, hk, rfl, T1, O, tp, hkk3, hc3', hst', ok, hinv0, hT⟩ := hrel
    have hinv := Lib.hid hinv0
    have hqs : qs.length ≤ 196 := by omega
    clear hinv0
    by_cases hlt : k < N
    · have hA0 := hacts.out.each (as_[k]'(by rw [hN.out]; exact hlt)) (List.getElem_mem _)
      obtain ⟨ab, aoff, rfl, hab, a0, a1, a2⟩ := (hacts.out.below T1.out.p.q).at_ (k := k) (by rw [hN.out]; exact hlt)
      generalize as_[k]'(by rw [hN.out]; exact hlt) = A at *
      obtain ⟨kd, nm, dao, dcap, data⟩ := A
      dsimp only at a0 a1 a2
      have hA := Lib.hid hA0
      clear hA0
      have hkk : kk ≤ 100000 := by omega
      have hc3 : 3 ≤ c := by omega
      have hc2 : 2 ≤ c := by omega
      have T := Lib.hid ((show TL w (wr.alloc (.cells #[.int .i64 kd, .int .i64 nm, .slice dao data.length dcap] 41)) g d B F m [(wr.heap.size, 41, act3L ⟨kd, nm, dao, dcap, data⟩), (w2.heap.size, 32, p3L t.root)] from T1.out.box 41 (act3L ⟨kd, nm, dao, dcap, data⟩)).alloc (.cells #[] 32))
      have O := Lib.hid ((O.out.alloc (.cells #[.int .i64 kd, .int .i64 nm, .slice dao data.length dcap] 41)).alloc (.cells #[] 32))
      by_cases h1 : kd = 1
      · subst h1
        go_wp2_with ((with_reducible refine n2Dst (some 55) (by rfl) ?_); refine wantList_load (by rfl) 32 _ rfl (w2.heap.size) 0 (by rfl) (p3L t.root) _ (rangeB T.out.b1) Try.underlying32 rfl (infoPtr _) ?_)
        refine (C.out.cut T.out.p.at_ tp.out hkk ok.out nm hA.out.num hc2).mono ?_
        rintro e w8 ⟨m', t', v8, F', c', L', rfl, an, tp', hc', S', lp, _⟩
        have TD := Lib.hid (T.out.turn S').tail
        have O := Lib.hid (O.out.turn S'.kept S'.grows)
        obtain ⟨lo, lc, rfl, hlr, hln, hll⟩ := lp
        have lst := Lib.hid (show Lst w8 F' w2.heap.size lo (rowsL p3L L') from ⟨hlr, fun a ha => ⟨(hll a ha).2.1, (hll a ha).2.2, Nat.lt_of_lt_of_le T.out.b1.lt (hll a ha).1⟩⟩)
        clear S' hll hlr
        have hlen9 := Lib.hid an.len
        have hinv2 := Lib.hid (show (nh t'.flat).length + (qs ++ L').length + c' = 196 by have := hlen9.out; have := hinv.out; rw [List.length_append]; omega)
        have hLs : L'.length ≤ 196 := by have := hinv2.out; rw [List.length_append] at this; omega
        go_wp2_with (first
          | ((with_reducible refine guardList ?_)
             refine wantList_store (by rfl) 32 _ _ rfl w2.heap.size 0 (by rfl) (p3L t'.root) (by rfl) _ (p3L t.root) (p3L t'.root) TD.out.b0 (Nat.le_of_eq rfl) (p3L_one _) (infoPtr _) (whole_new rfl) ?_
             intro w14 h14 k14 z14
             have TF := Lib.hid (TL.over TD.out (fun y hy => by cases hy) k14 h14)
             have O := Lib.hid (O.out.over k14 (.inl rfl))
             have lst := Lib.hid (lst.out.over k14 (.inl (Nat.le_refl _)))
             clear h14 k14 z14)
          | (at_builtin; refine wpList_appN rfl _ _ 37 rfl w.heap.size 32 j0 _ 3 24 Try.underlying37 hj hy0 hy1 hy2 rfl (by decide) (u7) qs.length (rowsL p3L qs) (w14) rfl O.out.own lo (L'.length) lc (rowsL p3L (L')) (by rfl) (fun e => ⟨by rw [LP.nil lst.out.reads e, List.length_nil], hln e⟩) (rowsL_length (f := p3L) (n := 3) (fun _ => rfl) _) (lst.out.reads) (rowsL_one_cell p3L_one _) (by omega) (by omega) (TF.out.size) ?_; intro v9 w9 ho9 hg9; have TG := Lib.hid (O.out.grow TF.out hg9); have O := Lib.hid (O.out.app TF.out.p.at_.lt TF.out.lt0 ho9 hg9); clear ho9 hg9))
        go_roundw
        case rel => exact ⟨k + 1, F', m', t', an.ok.choose, kk + 2, c', qs ++ L', by omega, by go_num, TG, O, Lib.hid tp', by omega, by omega, by rw [an.stamp]; omega, Lib.hid an.ok.choose_spec, hinv2.out, Lib.hid (an.told _ hT.out)⟩
        case measure => simp [intOf] <;> omega
      · have h1b : (kd == 1) = false := by simpa using h1
        by_cases h5 : kd = 5
        · subst h5
          go_wp2_with fail
          refine (oNext T.out.p.at_ (by omega)).mono ?_
          rintro e w4 ⟨rfl, F4, S4⟩
          have TF := Lib.hid (T.out.turn S4).tail
          have O := Lib.hid (O.out.turn S4.kept S4.grows)
          have tp4 := Lib.hid (tp.out.next (by omega))
          have ok4 := Lib.hid ok.out.next
          clear S4
          go_wp2_with (at_builtin; refine wpList_appN rfl _ _ 37 rfl w.heap.size 32 j0 _ 3 24 Try.underlying37 hj hy0 hy1 hy2 rfl (by decide) (u7) qs.length (rowsL p3L qs) (w4) rfl O.out.own (some ⟨wr.heap.size + 1, 0, none⟩) (0) 0 (rowsL p3L ([])) (by rfl) (fun e => by cases e) (rowsL_length (f := p3L) (n := 3) (fun _ => rfl) _) (Reads.nil _ _) (rowsL_one_cell p3L_one _) (by omega) (by omega) (TF.out.size) ?_; intro v9 w9 ho9 hg9; have TG := Lib.hid (O.out.grow TF.out hg9); have O := Lib.hid (O.out.app (L := []) TF.out.p.at_.lt TF.out.lt0 ho9 hg9); rw [List.append_nil] at O; clear ho9 hg9)
          go_roundw
          case rel => exact ⟨k + 1, F4, m.next, t, f, kk, c, qs, by omega, by go_num, TG, O, tp4, by omega, by omega, (by show m.stamp + 1 ≤ _; omega), ok4, hinv.out, Lib.hid hT.out.next⟩
          case measure => simp [intOf] <;> omega
        · have h5b : (kd == 5) = false := by simpa using h5
          go_wp2
          generalize (wr.alloc (.cells #[.int .i64 kd, .int .i64 nm, .slice dao data.length dcap] 41)).alloc (.cells #[] 32) = Wn at *
          clear a0 a1 a2 hab h5b h1b h5 h1
          have T := Lib.hid T.out.drew
          have O := Lib.hid O.out.drew
          refine inO_region [(1, fun w' => w'.rangeAt (w2.heap.size) (0) (p3L t.root)), (3, fun w' => w'.cell? ⟨wr.heap.size, 1, none⟩ = some (.int .i64 nm)), (6, fun w' => w'.cell? ⟨wr.heap.size, 2, none⟩ = some (.slice dao data.length dcap))] (by kernel_rfl) (Owed.cons (rangeB T.out.b1) (Owed.cons (T.out.b0.cell 1) (Owed.cons (T.out.b0.cell 2) (Owed.nil _ _)))) ?_
          generalize Wn.drew = V0 at *
          have hOlt : Hid (∀ b, u7.ownBlock = some b → b < V0.heap.size) := Lib.hid fun b hb => (O.out.lt b hb).2
          refine inO_take 0 ⟨_, _, _, _, _, _⟩ (.pointer (some ⟨g, 0, none⟩)) rfl (by kernel_rfl) (by kernel_rfl) (by kernel_rfl) (fun _ _ _ h => h) rfl (fun ww => exec_move (by rfl) (by rfl) ww) ?_
          simp only [Act.put, List.setIfInBounds_toArray, List.set_cons_zero, List.set_cons_succ]
          refine inO_load 1 ⟨_, _, _, _, _, _⟩ (.agg (p3L t.root).toArray) (fun w' => w'.rangeAt (w2.heap.size) (0) (p3L t.root)) rfl (by kernel_rfl) (by kernel_rfl) (by kernel_rfl) (fun _ _ _ h => h) rfl (.head _) (fun ww hw => exec_load_mid _ _ (by rfl) _ _ (by rfl) _ _ hw Try.underlying32 rfl (infoPtr _)) ?_
          simp only [Act.put, List.setIfInBounds_toArray, List.set_cons_zero, List.set_cons_succ]
          refine inO_take 2 ⟨_, _, _, _, _, _⟩ (.pointer (some ⟨wr.heap.size, 1, none⟩)) rfl (by kernel_rfl) (by kernel_rfl) (by kernel_rfl) (fun _ _ _ h => h) rfl (fun ww => by go_simp) ?_
          simp only [Act.put, List.setIfInBounds_toArray, List.set_cons_zero, List.set_cons_succ]
          refine inO_load 3 ⟨_, _, _, _, _, _⟩ (.int .i64 nm) (fun w' => w'.cell? ⟨wr.heap.size, 1, none⟩ = some (.int .i64 nm)) rfl (by kernel_rfl) (by kernel_rfl) (by kernel_rfl) (fun _ _ _ h => h) rfl (.tail _ (.head _)) (fun ww hw => by go_simp) ?_
          simp only [Act.put, List.setIfInBounds_toArray, List.set_cons_zero, List.set_cons_succ]
          refine inO_take 5 ⟨_, _, _, _, _, _⟩ (.pointer (some ⟨wr.heap.size, 2, none⟩)) rfl (by kernel_rfl) (by kernel_rfl) (by kernel_rfl) (fun _ _ _ h => h) rfl (fun ww => by go_simp) ?_
          simp only [Act.put, List.setIfInBounds_toArray, List.set_cons_zero, List.set_cons_succ]
          refine inO_load 6 ⟨_, _, _, _, _, _⟩ (.slice dao data.length dcap) (fun w' => w'.cell? ⟨wr.heap.size, 2, none⟩ = some (.slice dao data.length dcap)) rfl (by kernel_rfl) (by kernel_rfl) (by kernel_rfl) (fun _ _ _ h => h) rfl (.tail _ (.tail _ (.head _))) (fun ww hw => by go_simp) ?_
          simp only [Act.put, List.setIfInBounds_toArray, List.set_cons_zero, List.set_cons_succ]
          refine inO_step 4 ⟨_, _, _, _, _, _⟩ rfl (by kernel_rfl) rfl (fun K hK => ?_)
          refine wp_noBytes rfl ?_
          have TB := Lib.hid (T.out.box 5 [])
          have O := Lib.hid (O.out.alloc (.cells ([] : List Value).toArray 5))
          refine hK _ _ (Keeps.cons (fun hh j v hv => cell_alloc (hh j v hv) _) (Keeps.cons (fun hh => cell_alloc hh _) (Keeps.cons (fun hh => cell_alloc hh _) (Keeps.nil _ _ _)))) ?_
          clear hK K
          simp only [Act.put, List.setIfInBounds_toArray, List.set_cons_zero, List.set_cons_succ]
          obtain ⟨V1, hV1⟩ : ∃ V, V = V0.alloc (.cells ([] : List Value).toArray 5) := ⟨_, rfl⟩
          rw [← hV1] at TB O ⊢
          clear hV1
          refine inO_step 7 ⟨_, _, _, _, _, _⟩ rfl (by kernel_rfl) rfl (fun K hK => ?_)
          refine wp_own_app (.tmp 43) (.tmp 45) 39 rfl (V0.heap.size) 5 i0 (.int .u8 0) 1 Try.underlying39 hi hz0 hz1 hz2 rfl (.slice (some ⟨V0.heap.size, 0, none⟩) 0 0) [] (by rfl) (Own.of_none TB.out.b0) dao data.length dcap (bytesV data) (by rfl) hA.out.nil (by rw [bytesV_length]) (Reads.below hA.out.data TB.out.p.q) (bytesV_one _) (by have := hA.out.cap; dsimp only at this; simp; omega) (by have := hA.out.cap; dsimp only at this; simp; omega) (Nat.le_of_lt TB.out.b0.lt) fun v7 w7 ho7 hg7 => ?_
          have O := Lib.hid (O.out.other hg7 (fun k hk => .inr fun e => by cases hk; exact absurd (hOlt.out _ e) (Nat.lt_irrefl _)))
          have TC := Lib.hid (TL.grow TB.out.tail (Own.of_none TB.out.b0) hg7 (fun k hk => by cases hk; exact ⟨(TB.out.l _ (.head _)).2.1, (TB.out.l _ (.head _)).2.2, fun y hy => Nat.ne_of_lt (T.out.l y hy).1.lt⟩))
          obtain ⟨co, cc, rfl, hc1, hc2, hc4, hrd, hc5⟩ := Own.shapeN ho7 (n := data.length) (by simp [bytesV_length])
          have rd2 : Hid (Bytes w7 co data) := Lib.hid hrd
          have hnF : Hid (∀ a, co = some a → ¬ F a.block) := Lib.hid (fun a ha hf => by have h1 := (hc5 a ha).1; have h2 := T.out.p.at_.lt _ hf; omega)
          refine hK _ _ (Keeps.cons (fun _ => rangeB TC.out.b1) (Keeps.cons (fun _ => TC.out.b0.cell 1) (Keeps.late (by kernel_rfl) (Keeps.nil _ _ _)))) ?_
          clear hK K hrd hc5 ho7 hg7 TB
          simp only [Act.put, List.setIfInBounds_toArray, List.set_cons_zero, List.set_cons_succ]
          refine inO_step 8 ⟨_, _, _, _, _, _⟩ rfl (by kernel_rfl) rfl (fun K hK => ?_)
          refine wp_call Try.func12 (by kernel_rfl) rfl _ _ rfl _ rfl _ (C.out.put TC.out.p.at_ tp.out hkk ok.out nm hA.out.num co data cc rd2.out hc1 hc2 hc4 hnF.out hc3) fun e w8 R => ?_
          obtain ⟨m', t', v8, F', er, c', L', rfl, an, tp', hc', S', lp⟩ := R
          have TD := Lib.hid (TC.out.turn S')
          have O := Lib.hid (O.out.turn S'.kept S'.grows)
          obtain ⟨lo, lc, rfl, hlr, hln, hll⟩ := lp
          have lst := Lib.hid (show Lst w8 F' w2.heap.size lo (rowsL p3L L') from ⟨hlr, fun a ha => ⟨(hll a ha).2.1, (hll a ha).2.2, Nat.lt_of_lt_of_le TC.out.b1.lt (hll a ha).1⟩⟩)
          refine ⟨_, rfl, ?_⟩
          refine hK _ _ (Keeps.late (by kernel_rfl) (Keeps.late (by kernel_rfl) (Keeps.late (by kernel_rfl) (Keeps.nil _ _ _)))) ?_
          clear hK K S' hll hlr TC
          simp only [Act.put, List.setIfInBounds_toArray, List.set_cons_zero, List.set_cons_succ]
          refine inO_take 9 ⟨_, _, _, _, _, _⟩ ((.tuple #[.agg (p3L t'.root).toArray, .slice lo L'.length lc, .int .i64 er])) rfl (by kernel_rfl) (by kernel_rfl) (by kernel_rfl) (fun _ _ _ h => h) rfl (fun ww => exec_move (by rfl) (by rfl) ww) ?_
          simp only [Act.put, List.setIfInBounds_toArray, List.set_cons_zero, List.set_cons_succ]
          refine inO_take 10 ⟨_, _, _, _, _, _⟩ (.agg (p3L t'.root).toArray) rfl (by kernel_rfl) (by kernel_rfl) (by kernel_rfl) (fun _ _ _ h => h) rfl (fun ww => by go_simp) ?_
          simp only [Act.put, List.setIfInBounds_toArray, List.set_cons_zero, List.set_cons_succ]
          refine inO_take 11 ⟨_, _, _, _, _, _⟩ (.slice lo L'.length lc) rfl (by kernel_rfl) (by kernel_rfl) (by kernel_rfl) (fun _ _ _ h => h) rfl (fun ww => by go_simp) ?_
          simp only [Act.put, List.setIfInBounds_toArray, List.set_cons_zero, List.set_cons_succ]
          refine inO_take 12 ⟨_, _, _, _, _, _⟩ (.int .i64 er) rfl (by kernel_rfl) (by kernel_rfl) (by kernel_rfl) (fun _ _ _ h => h) rfl (fun ww => by go_simp) ?_
          simp only [Act.put, List.setIfInBounds_toArray, List.set_cons_zero, List.set_cons_succ]
          refine inO_step 13 ⟨_, _, _, _, _, _⟩ rfl (by kernel_rfl) rfl (fun K hK => ?_)
          refine wp_store_blk 32 _ _ rfl (w2.heap.size) 0 (by rfl) (p3L t'.root) (by rfl) 32 (p3L t.root) (p3L t'.root) TD.out.b1 (Nat.le_of_eq rfl) (p3L_one _) (infoPtr _) (whole_new rfl) fun w14 h14 k14 z14 => ?_
          have TF := Lib.hid (TL.over (TD.out.sub (L' := [(w2.heap.size, 32, p3L t.root)]) (fun y hy => by rcases List.mem_cons.1 hy with rfl | hy; exact .tail _ (.head _); cases hy)) (fun y hy => by cases hy) k14 h14)
          have O := Lib.hid (O.out.over k14 (.inl rfl))
          have lst := Lib.hid (lst.out.over k14 (.inl (Nat.le_refl _)))
          refine hK _ _ (Keeps.late (by kernel_rfl) (Keeps.late (by kernel_rfl) (Keeps.late (by kernel_rfl) (Keeps.nil _ _ _)))) ?_
          clear hK K h14 k14 z14 TD
          simp only [Act.put]
          refine inO_take 14 ⟨_, _, _, _, _, _⟩ (.slice lo L'.length lc) rfl (by kernel_rfl) (by kernel_rfl) (by kernel_rfl) (fun _ _ _ h => h) rfl (fun ww => by go_simp) ?_
          simp only [Act.put, List.setIfInBounds_toArray, List.set_cons_zero, List.set_cons_succ]
          refine inO_done (by kernel_rfl) ?_
          have hlen9 := Lib.hid an.len
          have hinv2 := Lib.hid (show (nh t'.flat).length + (qs ++ L').length + c' = 196 by have := hlen9.out; have := hinv.out; rw [List.length_append]; omega)
          have hLs : L'.length ≤ 196 := by have := hinv2.out; rw [List.length_append] at this; omega
          go_wp2_with (at_builtin; refine wpList_appN rfl _ _ 37 rfl w.heap.size 32 j0 _ 3 24 Try.underlying37 hj hy0 hy1 hy2 rfl (by decide) (u7) qs.length (rowsL p3L qs) (w14) rfl O.out.own lo (L'.length) lc (rowsL p3L (L')) (by rfl) (fun e => ⟨by rw [LP.nil lst.out.reads e, List.length_nil], hln e⟩) (rowsL_length (f := p3L) (n := 3) (fun _ => rfl) _) (lst.out.reads) (rowsL_one_cell p3L_one _) (by omega) (by omega) (TF.out.size) ?_; intro v9 w9 ho9 hg9; have TG := Lib.hid (O.out.grow TF.out hg9); have O := Lib.hid (O.out.app TF.out.p.at_.lt TF.out.lt0 ho9 hg9); clear ho9 hg9)
          go_roundw
          case rel => exact ⟨k + 1, F', m', t', an.ok.choose, kk + 3, c', qs ++ L', by omega, by go_num, TG, O, Lib.hid tp', by omega, by omega, by rw [an.stamp]; omega, Lib.hid an.ok.choose_spec, hinv2.out, Lib.hid (an.told _ hT.out)⟩
          case measure => simp [intOf] <;> omega
    · obtain rfl : k = N := by omega
      obtain ⟨k0, rfl⟩ : ∃ k0, k0 = k := ⟨k, rfl⟩
      clear hlt hk
      have hx2 := T1.out.lt0
      have ha0 := C.out.all T1.out.p.at_ tp.out (by omega) ok.out 0 (by decide)
      rw [all_zero ok.out tp.out, show ((0 : Nat) : Int) = 0 from rfl] at ha0
      have ha0 := Lib.hid ha0
      go_wp2_with ((with_reducible refine n2Dst (some 72) (by rfl) ?_); refine wantList_load (by rfl) 32 _ rfl (w2.heap.size) 0 (by rfl) (p3L t.root) _ (rangeB T1.out.b0) Try.underlying32 rfl (infoPtr _) ?_)
      refine ha0.out.mono ?_
      clear ha0
      rintro e w3 ⟨m3, v3, F3, rfl, tp3, al3, S3, lp3⟩
      have T3 := Lib.hid (T1.out.turn S3)
      have O3 := Lib.hid (O.out.turn S3.kept S3.grows)
      have tp3 := Lib.hid tp3
      have ok3 := Lib.hid (ok.out.alike al3)
      have hT3 := Lib.hid (hT.out.alike al3)
      obtain ⟨lao, lc, rfl, hlr, hln, hll⟩ := lp3
      have l3 : Hid (Lst w3 F3 w2.heap.size lao (rowsL p3L (nh t.flat))) := Lib.hid ⟨hlr, fun a ha => ⟨(hll a ha).2.1, (hll a ha).2.2, Nat.lt_of_lt_of_le hx2 (hll a ha).1⟩⟩
      have hx3 : w2.heap.size < w3.heap.size := Nat.lt_of_lt_of_le hx2 S3.kept.size
      clear hlr hll S3 al3
      have ha2 := Lib.hid (C.out.all T3.out.p.at_ tp3.out (by omega) ok3.out st hst)
      go_wp2_with ((with_reducible refine n2Dst (some 78) (by rfl) ?_); refine wantList_load (by rfl) 32 _ rfl (w2.heap.size) 0 (by rfl) (p3L t.root) _ (rangeB T3.out.b0) Try.underlying32 rfl (infoPtr _) ?_)
      refine ha2.out.mono ?_
      clear ha2
      rintro e w5 ⟨m5, v5, F5, rfl, tp5, al5, S5, lp5⟩
      have T5 := Lib.hid (T3.out.turn S5)
      have O5 := Lib.hid (O3.out.turn S5.kept S5.grows)
      have l5 := Lib.hid (l3.out.turn S5.kept S5.grows)
      have ok5 := Lib.hid (ok3.out.alike al5)
      have hT5 := Lib.hid (hT3.out.alike al5)
      have tp5 := Lib.hid tp5
      obtain ⟨nao, nc, rfl, hnr, hnn, hnl⟩ := lp5
      have n5 : Hid (Lst w5 F5 w2.heap.size nao (rowsL p3L (t.allL st))) := Lib.hid ⟨hnr, fun a ha => ⟨(hnl a ha).2.1, (hnl a ha).2.2, Nat.lt_of_lt_of_le hx3 (hnl a ha).1⟩⟩
      clear hnr hnl S5 al5
      have hyoung : Hid (t.allL st = (nh t.flat).filter fun q => decide (st < q.b)) := Lib.hid (by rw [← all_zero ok5.out tp5.out]; exact all_young ok5.out tp5.out 0 st (Nat.zero_le _))
      have hlen1 : (nh t.flat).length ≤ 196 := by have := hinv.out; omega
      have hlen2 : (t.allL st).length ≤ 196 := by
        rw [hyoung.out]
        exact Nat.le_trans (List.length_filter_le _ _) hlen1
      obtain ⟨L1, hL1⟩ : ∃ L1, L1 = nh t.flat := ⟨_, rfl⟩
      obtain ⟨L2, hL2⟩ : ∃ L2, L2 = t.allL st := ⟨_, rfl⟩
      rw [← hL1] at l5 hyoung hlen1 hT5 ⊢
      rw [← hL2] at n5 hyoung hlen2 ⊢
      have hnil1 : Hid (lao = none → L1.length = 0 ∧ lc = 0) := Lib.hid fun e => ⟨by rw [LP.nil l5.out.reads e, List.length_nil], hln e⟩
      have hinv5 : L1.length + qs.length ≤ 196 := by have := hinv.out; rw [hL1]; omega
      clear hL1 hL2 l3 hT3 hT ok3 tp3 T3 O3 T1 O hln hnn hx3
      obtain ⟨oao, oc, hov, hor, honil⟩ := O5.out.reads
      have hor := Lib.hid hor
      have honil := Lib.hid honil
      have hov := Lib.hid hov
      have hst0 := store_bools_new (P := Try.prog) w5 53 (fun _ => false) (fun _ => false)
      have hz53 := zero47
      have hbs := bools_size (fun _ => false)
      obtain ⟨Wb, hWb⟩ : ∃ W, W = w5.alloc (.cells (bools fun _ => false) 53) := ⟨_, rfl⟩
      have T6 : Hid (TL w Wb g d B F5 m5 [(w2.heap.size, 32, p3L t.root)]) := Lib.hid (by rw [hWb]; exact T5.out.alloc _)
      have l6 : Hid (Lst Wb F5 w2.heap.size lao (rowsL p3L L1)) := Lib.hid (by rw [hWb]; exact l5.out.alloc _)
      have n6 : Hid (Lst Wb F5 w2.heap.size nao (rowsL p3L L2)) := Lib.hid (by rw [hWb]; exact n5.out.alloc _)
      have hor6 : Hid (Reads Wb oao (rowsL p3L qs)) := Lib.hid (by rw [hWb]; exact hor.out.alloc _)
      have mk6 : Hid (Marked Wb w5.heap.size 53 (fun _ => false)) := Lib.hid (by rw [hWb]; exact Marked.new _ _ _)
      have Y0 := Lib.hid (YL.first Wb)
      have hzx : w2.heap.size ≠ w5.heap.size := Nat.ne_of_lt T5.out.lt0
      have hz0 : w.heap.size ≤ w5.heap.size := T5.out.size
      have hzf : Hid (¬ F5 w5.heap.size) := Lib.hid (fun h => Nat.lt_irrefl _ (T5.out.p.at_.lt _ h))
      have hzl : Hid (∀ a, lao = some a → a.block ≠ w5.heap.size) := Lib.hid (fun a ha => Nat.ne_of_lt (l5.out.out a ha).1)
      have hzn : Hid (∀ a, nao = some a → a.block ≠ w5.heap.size) := Lib.hid (fun a ha => Nat.ne_of_lt (n5.out.out a ha).1)
      have hWs : Hid (Wb.heap.size = w5.heap.size + 1) := Lib.hid (by rw [hWb, World.size_alloc])
      have hFb : Hid (∀ i, F5 i → i < Wb.heap.size) := Lib.hid (fun i hi => by have := T5.out.p.at_.lt _ hi; have := hWs.out; omega)
      have hxb : w2.heap.size < Wb.heap.size := by have := T5.out.lt0; have := hWs.out; omega
      clear T5 l5 n5 hor O5
      have hWb := Lib.hid hWb
      have hov := Lib.hid hov
      go_wp2_with (at_builtin; refine Hid.out ?_)
      rw [← hWb.out]
      apply Lib.hid
      refine wpList_appN rfl _ _ 37 rfl Wb.heap.size 32 j0 _ 3 24 Try.underlying37 hj hy0 hy1 hy2 rfl (by decide) (.slice (some ⟨Wb.heap.size, 0, none⟩) 0 0) ([] : List P3).length (rowsL p3L []) (Wb.alloc (.cells #[] 32)) (by rw [hWs.out]; rfl) Y0.out.own lao L1.length lc (rowsL p3L L1) (by rfl) hnil1.out (rowsL_length (f := p3L) (n := 3) (fun _ => rfl) _) (l6.out.reads.alloc _) (rowsL_one_cell p3L_one _) (by rw [List.length_nil]; omega) (by rw [List.length_nil]; omega) (Y0.out.q.size) ?_
      intro v7 w7 ho7 hg7
      have Y1 := Lib.hid (Y0.out.app ho7 hg7)
      rw [List.nil_append] at Y1
      clear ho7 hg7 Y0
      go_wp2_with (at_builtin; refine Hid.out ?_)
      apply Lib.hid
      refine wpList_appN rfl _ _ 37 rfl Wb.heap.size 32 j0 _ 3 24 Try.underlying37 hj hy0 hy1 hy2 rfl (by decide) v7 L1.length (rowsL p3L L1) w7 (by rfl) Y1.out.own oao qs.length oc (rowsL p3L qs) (by rfl) honil.out (rowsL_length (f := p3L) (n := 3) (fun _ => rfl) _) (hor6.out.below Y1.out.q) (rowsL_one_cell p3L_one _) (by omega) (by omega) (Y1.out.q.size) ?_
      intro v8 w8 ho8 hg8
      have Y2 := Lib.hid (Y1.out.app ho8 hg8)
      clear ho8 hg8 Y1
      obtain ⟨U, hU⟩ : ∃ U, Hid (U = L1 ++ qs) := ⟨_, Lib.hid rfl⟩
      rw [← hU.out] at Y2 hT5
      have hUl : U.length ≤ 196 := by rw [hU.out, List.length_append]; exact hinv5
      obtain ⟨uao, uc, rfl, hur, hub⟩ := Y2.out.at_
      have R0 : Hid (R2 w w8 g d B F5 m5 w2.heap.size w5.heap.size (p3L t.root) lao nao uao L1 L2 U (maskOf ((U.take 0).map (·.a)))) := Lib.hid ⟨T6.out.below Y2.out.q, l6.out.below Y2.out.q, n6.out.below Y2.out.q, ⟨hur, fun a ha => ⟨(hub a ha).2, fun hf => by have := hFb.out _ hf; have := (hub a ha).1; omega, by have := (hub a ha).1; omega⟩⟩, by
        have := mk6.out.below Y2.out.q (by have := hWs.out; omega)
        rw [List.take_zero, List.map_nil, show maskOf [] = (fun _ => false) from funext mask_nil]
        exact this, hzf.out, hzx, hz0, hzl.out, hzn.out, fun a ha => by have := (hub a ha).1; have := hWs.out; omega⟩
      clear Y2 T6 l6 n6 mk6 hor6 hur hub hzf hzl hzn hFb hst0 hz53 hbs
      go_wp2
      go_loopw [96] (fun i wr => ∃ k : Nat, k ≤ U.length ∧ i = .int .i64 k ∧ Hid (R2 w wr g d B F5 m5 w2.heap.size w5.heap.size (p3L t.root) lao nao uao L1 L2 U (maskOf ((U.take k).map (·.a)))))
        (fun i _ => U.length - (intOf i).toNat)
      case atStart => exact ⟨0, by omega, rfl, R0⟩
      case round =>
        clear R0
        obtain ⟨k, hk, rfl, R⟩ := hrel
        by_cases hlt : k < U.length
        · obtain ⟨b, off, rfl, hbb, c0, c1, c2⟩ := cellsP R.out.u.reads hlt
          obtain ⟨a, haq, ha4, ha2⟩ := hT5.out.rng U[k] (List.getElem_mem _)
          have hfr := hT5.out.fresh hlt
          have hstep : maskOf ((U.take (k + 1)).map (·.a)) = fun j => if j = a then true else maskOf ((U.take k).map (·.a)) j := by
            funext j
            rw [List.take_succ_eq_append_getElem hlt, List.map_append, List.map_cons, List.map_nil, haq]
            exact mask_in j
          have hno : maskOf ((U.take k).map (·.a)) a = false := by
            rw [haq] at hfr
            exact decide_eq_false hfr
          have hstep := Lib.hid hstep
          generalize U[k] = q at *
          obtain ⟨qa, qb, qs'⟩ := q
          dsimp only at c0 c1 c2 haq hfr
          subst haq
          clear hfr
          have R1 := Lib.hid (R.out.alloc (.cells #[.int .i64 (a : Int), .int .u64 (qb : Int), .int .u32 (qs' : Int)] 32))
          have cv := R1.out.mrk.cell (i := a) (by omega)
          rw [hno] at cv
          have fv := R1.out.mrk.frozen a
          have hzl := R.out.mrk.lt
          have g1 : decide ((a : Int) < 4) = false := by simp; omega
          have g2 : decide ((199 : Int) < (a : Int)) = false := by simp; omega
          clear hno
          go_wp2
          go_roundw
          case rel => exact ⟨k + 1, by omega, by go_num, Lib.hid (by rw [hstep.out]; exact (R.out.set a true).alloc _)⟩
          case measure => simp [intOf] <;> omega
        · obtain rfl : k = U.length := by omega
          rw [List.take_length] at R
          have hset := Lib.hid (hT5.out.taken (by decide))
          clear hT5 hU
          obtain ⟨wz, rfl⟩ : ∃ W, W = wr := ⟨_, rfl⟩
          go_wp2
          go_loopw [18, 121] (fun v i wq => ∃ (k : Nat) (ys : List P3), k ≤ L1.length ∧ i = .int .i64 k ∧ Hid (YL wz wq v ys) ∧ Hid (ys = (L1.take k).filter fun q => decide (st < q.b)))
            (fun _ i _ => L1.length - (intOf i).toNat)
          case atStart => exact ⟨0, [], by omega, rfl, Lib.hid (YL.first wz), Lib.hid rfl⟩
          case round =>
            obtain ⟨k, ys, hk, rfl, Y, hys⟩ := hrel
            by_cases hlt : k < L1.length
            · obtain ⟨b, off, rfl, hbb, c0, c1, c2⟩ := cellsP (R.out.l.reads.below Y.out.q) hlt
              have hstep : (L1.take (k + 1)).filter (fun q => decide (st < q.b)) = ys ++ if decide (st < L1[k].b) = true then [L1[k]] else [] := by
                rw [hys.out, List.take_succ_eq_append_getElem hlt, List.filter_append]
                congr 1
                cases h : decide (st < L1[k].b) <;> simp [h]
              generalize L1[k] = q at *
              obtain ⟨qa, qb, qs'⟩ := q
              dsimp only at c0 c1 c2 hstep
              have hyl : ys.length ≤ 196 := by
                rw [hys.out]
                exact Nat.le_trans (List.length_filter_le _ _) (by rw [List.length_take]; omega)
              have hsz := Y.out.q.size
              by_cases hgt : st < qb
              · have hs1 : Hid ((L1.take (k + 1)).filter (fun q => decide (st < q.b)) = ys ++ [⟨qa, qb, qs'⟩]) := Lib.hid (by rw [hstep, if_pos (decide_eq_true hgt)])
                clear hstep
                go_wp2_with (at_builtin; refine wpList_pushN rfl _ _ 37 rfl wz.heap.size 32 j0 _ 3 24 Try.underlying37 hj hy0 hy1 hy2 rfl (by decide) u18 _ _ (wr.alloc (.cells #[.int .i64 qa, .int .u64 (qb : Int), .int .u32 (qs' : Int)] 32)) rfl (Y.out.alloc _).own 1 #[.int .i64 qa, .int .u64 (qb : Int), .int .u32 (qs' : Int)] (by rw [World.size_alloc]; rfl) rfl (p3L_one ⟨qa, qb, qs'⟩) (by omega) (by omega) (by simp; omega) ?_; intro v' w7 ho7 hg7 hv7; have Y7 := Lib.hid ((Y.out.alloc (.cells #[.int .i64 qa, .int .u64 (qb : Int), .int .u32 (qs' : Int)] 32)).push ⟨qa, qb, qs'⟩ ho7 hg7); clear ho7 hg7 hv7)
                go_roundw
                case rel => first | exact ⟨k + 1, ys ++ [⟨qa, qb, qs'⟩], by omega, by go_num, Y7, Lib.hid hs1.out.symm⟩ | ((repeat apply Exists.intro); exact ⟨⟨k + 1, ys ++ [⟨qa, qb, qs'⟩], by omega, by go_num, Y7, Lib.hid hs1.out.symm⟩, rfl⟩)
                case measure => simp [intOf] <;> omega
              · have hs1 : Hid ((L1.take (k + 1)).filter (fun q => decide (st < q.b)) = ys) := Lib.hid (by rw [hstep, if_neg (by simpa using hgt), List.append_nil])
                clear hstep
                go_wp2
                go_roundw
                case rel => exact ⟨k + 1, ys, by omega, by go_num, Lib.hid (Y.out.alloc _), Lib.hid hs1.out.symm⟩
                case measure => simp [intOf] <;> omega
            · obtain rfl : k = L1.length := by omega
              obtain rfl : ys = L2 := by rw [hys.out, hyoung.out, List.take_length]
              obtain ⟨yo, yc, rfl, hyr⟩ := Y.out.reads
              have hyr := Lib.hid hyr
              have R9 := Lib.hid (R.out.below Y.out.q)
              have Yq := Lib.hid Y.out.q
              have hbq : Hid (Below w.heap.size w wr) := Lib.hid (R.out.below Y.out.q).T.p.q
              have nhr := Lib.hid (R.out.below Y.out.q).n.reads
              clear hys hyoung
              go_upto_region 39 with (fail)
              obtain ⟨fm, hfm⟩ : ∃ fm, Hid (fm = maskOf (U.map (·.a))) := ⟨_, Lib.hid rfl⟩
              have mk9 := Lib.hid (show Marked wr.drew w5.heap.size 53 fm from by rw [hfm.out]; exact R9.out.mrk)
              have T9 := Lib.hid R9.out.T.drew
              have n9 := Lib.hid (show Reads wr.drew nao (rowsL p3L ys) from nhr.out)
              have y9 := Lib.hid (show Reads wr.drew yo (rowsL p3L ys) from hyr.out)
              have hset9 : Hid (runs fm 4096 = setS m5.map 2) := Lib.hid (by rw [hfm.out]; exact hset.out)
              clear R9 nhr hyr Yq hbq
              refine inO_region [(3, fun w' => Marked w' w5.heap.size 53 fm)] (by kernel_rfl) (Owed.cons mk9.out (Owed.nil _ _)) ?_
              generalize wr.drew = V0 at *
              clear mk9
              refine inO_take 0 ⟨_, _, _, _, _, _⟩ (.pointer (some ⟨g, 0, none⟩)) rfl (by kernel_rfl) (by kernel_rfl) (by kernel_rfl) (fun _ _ _ h => h) rfl (fun ww => exec_move (by rfl) (by rfl) ww) ?_
              simp only [Act.put, List.setIfInBounds_toArray, List.set_cons_zero, List.set_cons_succ]
              refine inO_load 3 ⟨_, _, _, _, _, _⟩ (.agg (bools fm)) (fun w' => Marked w' w5.heap.size 53 fm) rfl (by kernel_rfl) (by kernel_rfl) (by kernel_rfl) (fun _ _ _ h => h) rfl (.head _) (fun ww hw => exec_load_arr _ _ (by rfl) _ (by rfl) _ _ _ hw Try.underlying53 rfl (info_bools _)) ?_
              simp only [Act.put, List.setIfInBounds_toArray, List.set_cons_zero, List.set_cons_succ]
              refine inO_step 1 ⟨_, _, _, _, _, _⟩ rfl (by kernel_rfl) rfl (fun K hK => ?_)
              refine wp_call Try.func19 (by kernel_rfl) rfl _ _ rfl _ rfl _ (oMap T9.out.p.at_) fun e w6 R => ?_
              obtain ⟨rfl, rfl⟩ := R
              refine ⟨_, rfl, ?_⟩
              refine hK _ _ (Keeps.cons (fun hh => hh) (Keeps.nil _ _ _)) ?_
              clear hK K
              simp only [Act.put, List.setIfInBounds_toArray, List.set_cons_zero, List.set_cons_succ]
              refine inO_step 2 ⟨_, _, _, _, _, _⟩ rfl (by kernel_rfl) rfl (fun K hK => ?_)
              refine wp_call Try.func20 (by kernel_rfl) rfl _ _ rfl _ rfl _ (Taken_set B m5.map _ T9.out.p.at_.map) fun e w7 R => ?_
              obtain ⟨ao7, c7, rfl, t7, _, b7⟩ := R
              rw [← hset9.out] at t7 ⊢
              have t7 := Lib.hid t7
              refine ⟨_, rfl, ?_⟩
              refine hK _ _ (Keeps.cons (fun hh => Marked.below hh b7 (Marked.lt hh)) (Keeps.nil _ _ _)) ?_
              clear hK K
              simp only [Act.put, List.setIfInBounds_toArray, List.set_cons_zero, List.set_cons_succ]
              have T9 := Lib.hid (T9.out.below b7)
              have n9 := Lib.hid (n9.out.below b7)
              have y9 := Lib.hid (y9.out.below b7)
              clear b7
              refine inO_step 4 ⟨_, _, _, _, _, _⟩ rfl (by kernel_rfl) rfl (fun K hK => ?_)
              refine wp_call Try.func21 (by kernel_rfl) rfl _ _ rfl _ rfl _ (refSet_spans fm _) fun e w8 R => ?_
              obtain ⟨ao8, c8, rfl, t8, b8⟩ := R
              have t8 := Lib.hid t8
              refine ⟨_, rfl, ?_⟩
              refine hK _ _ (Keeps.late (by kernel_rfl) (Keeps.nil _ _ _)) ?_
              clear hK K
              simp only [Act.put, List.setIfInBounds_toArray, List.set_cons_zero, List.set_cons_succ]
              have t7 := Lib.hid (t7.out.below b8)
              have T9 := Lib.hid (T9.out.below b8)
              have n9 := Lib.hid (n9.out.below b8)
              have y9 := Lib.hid (y9.out.below b8)
              clear b8
              refine inO_step 5 ⟨_, _, _, _, _, _⟩ rfl (by kernel_rfl) rfl (fun K hK => ?_)
              refine wp_call Try.func18 (by kernel_rfl) rfl _ _ rfl _ rfl _ (Same_any ao7 ao8 c7 c8 _ _ _ t7.out t8.out (runs_fits _) (runs_fits _)) fun e w9 R => ?_
              obtain ⟨rfl, b9⟩ := R
              rw [decide_eq_true rfl]
              refine ⟨_, rfl, ?_⟩
              refine hK _ _ (Keeps.late (by kernel_rfl) (Keeps.nil _ _ _)) ?_
              clear hK K
              simp only [Act.put, List.setIfInBounds_toArray, List.set_cons_zero, List.set_cons_succ]
              have T9 := Lib.hid (T9.out.below b9)
              have n9 := Lib.hid (n9.out.below b9)
              have y9 := Lib.hid (y9.out.below b9)
              clear b9 t7 t8
              refine inO_take 6 ⟨_, _, _, _, _, _⟩ (.bool true) rfl (by kernel_rfl) (by kernel_rfl) (by kernel_rfl) (fun _ _ _ h => h) rfl (fun ww => exec_move (by rfl) (by rfl) ww) ?_
              simp only [Act.put, List.setIfInBounds_toArray, List.set_cons_zero, List.set_cons_succ]
              refine inO_take 7 ⟨_, _, _, _, _, _⟩ (.slice nao ys.length nc) rfl (by kernel_rfl) (by kernel_rfl) (by kernel_rfl) (fun _ _ _ h => h) rfl (fun ww => exec_move (by rfl) (by rfl) ww) ?_
              simp only [Act.put, List.setIfInBounds_toArray, List.set_cons_zero, List.set_cons_succ]
              refine inO_take 8 ⟨_, _, _, _, _, _⟩ (.slice yo ys.length yc) rfl (by kernel_rfl) (by kernel_rfl) (by kernel_rfl) (fun _ _ _ h => h) rfl (fun ww => exec_move (by rfl) (by rfl) ww) ?_
              simp only [Act.put, List.setIfInBounds_toArray, List.set_cons_zero, List.set_cons_succ]
              refine inO_step 9 ⟨_, _, _, _, _, _⟩ rfl (by kernel_rfl) rfl (fun K hK => ?_)
              refine wp_call Try.func22 (by kernel_rfl) rfl _ _ rfl _ rfl _ (Same11_any nao yo nc yc ys (by omega) _ n9.out y9.out) fun e w10 R => ?_
              obtain ⟨rfl, b10⟩ := R
              refine ⟨_, rfl, ?_⟩
              refine hK _ _ (Keeps.late (by kernel_rfl) (Keeps.nil _ _ _)) ?_
              clear hK K
              simp only [Act.put, List.setIfInBounds_toArray, List.set_cons_zero, List.set_cons_succ]
              have T9 := Lib.hid (T9.out.below b10)
              clear b10
              refine inO_take 10 ⟨_, _, _, _, _, _⟩ (.bool true) rfl (by kernel_rfl) (by kernel_rfl) (by kernel_rfl) (fun _ _ _ h => h) rfl (fun ww => by go_simp) ?_
              simp only [Act.put, List.setIfInBounds_toArray, List.set_cons_zero, List.set_cons_succ]
              refine inO_take 11 ⟨_, _, _, _, _, _⟩ (.bool true) rfl (by kernel_rfl) (by kernel_rfl) (by kernel_rfl) (fun _ _ _ h => h) rfl (fun ww => by go_simp) ?_
              simp only [Act.put, List.setIfInBounds_toArray, List.set_cons_zero, List.set_cons_succ]
              refine inO_done (by kernel_rfl) ?_
              go_wp2
              go_ret
              exact ⟨rfl, T9.out.p.q⟩

theorem walk (ao : Option Addr) (as_ : List Act3) (cap : Nat) (st : Nat) (w : World) (hacts : Acts3 w ao as_) (hl : as_.length ≤ 140737488351232) (hnil : ao = none → cap = 0) (hst : st < 18446744073709551616) :
    Calls Try.prog 5 #[.slice ao as_.length cap, .int .u64 (st : Int)] w fun e w' => e = .returned (.bool true) ∧ Below w.heap.size w w' := walkC treeC ao as_ cap st w hacts hl hnil hst

theorem own : ownKnob Try.prog.godebug = none := by kernel_rfl
theorem laidOut : laidOutB Try.prog = true := by kernel_rfl

set_option maxRecDepth 100000 in
theorem lifted (os : Os) (started : os.Started) (H : Type) (enc : TypeId × Value → H) :
    ReturnsInHanded {} Try.checked os 5 .any (Rows.treeToldSpec.pre6 enc Try.prog Try.f5 Rows.treeToldRow.domain false) (Rows.treeToldSpec.post enc Try.prog Try.f5 false true false false) := by
  refine returnsInHanded_of_change_sized (C := Try.checked) own started (by kernel_rfl) Try.func5
    (ChangeSpec.witness6 (enc := enc) (C := Try.checked) false ⟨#[], #[.slice none 0 0, .int .u64 0], []⟩ 8 (by kernel_rfl) (by kernel_rfl) (by kernel_rfl) (by kernel_rfl)) ?_
  intro W base args ds gs before hval0 hW hcnd hsz0 _
  have hval : ∀ (j : Nat) t v, Try.f5.params[j]? = some t → args[j]? = some v → Value.okWide Try.prog W .any base t v := hval0
  have hsz : (DataW.weightsEach Try.prog (Try.f5.params.toList ++ Rows.treeToldSpec.plain.varTypes Try.prog) (ds ++ gs)).all (· ≤ reachBytes) = true := hsz0
  have hW' := hW
  obtain ⟨p, q, hA0, hV, rfl, hfz, hnd⟩ := hW
  have hA : DataW.TrodAll enc Try.prog W 0 (fun _ => true) true Try.f5.params.toList args.toList ds p := hA0
  rw [Try.params5] at hA hval hsz
  obtain ⟨v0, vs0, d0, ds0, p0, q0, hargs, rfl, rfl, h0, r0⟩ := trodAll_cons hA
  obtain ⟨v1, vs1, d1, ds1, p1, q1, rfl, rfl, rfl, h1, r1⟩ := trodAll_cons r0
  obtain ⟨rfl, rfl, rfl⟩ := trodAll_nil r1
  obtain rfl : args = #[v0, v1] := by cases args; simp_all
  obtain ⟨rfl, rfl⟩ := trodVars_none hV
  have k0 := h0
  have lt0 : ∀ x ∈ p0, x.block < W.heap.size := by obtain ⟨m, hm⟩ := k0; exact DataW.trod_lt m _ _ _ hm
  obtain ⟨ao0, a0, cap0, rfl, sp0, fi0, nl0⟩ := arg_acts11 h0 (hval 0 34 v0 rfl rfl) (light_arg hsz (j := 0) (t := 34) rfl rfl)
  obtain ⟨z1, rfl, rfl, rfl, wf1⟩ := open_int Try.underlying29 (hval 1 29 v1 rfl rfl) h1
  obtain ⟨a1, rfl, b1⟩ := nat_u64 wf1
  clear hA0 hval0 hsz0
  refine (walk ao0 a0 cap0 a1 W sp0 fi0 nl0 b1).mono fun e W' ⟨he, bel⟩ => ?_
  subst he
  exact ⟨_, rfl, _, _, _, [], _, [], hW', trodAll_mk1 (shut_bool Try.underlying4 _), (trodAll_cons_mk (Below.trod laidOut (by kernel_rfl) (of_decide_eq_true (by kernel_rfl)) k0 bel lt0) (trodAll_cons_mk (shut_int Try.underlying29 wf1) trodAll_mk0)), rfl, bel.frame _, fun h => by cases h⟩

theorem proved : Rows.TreeToldSaid :=
  OpenClaim.holds_of_wide 5 Try.f5 rfl rfl rfl rfl rfl rfl rfl ⟨rfl, rfl, rfl, rfl, rfl⟩ rfl rfl rfl rfl rfl (by kernel_rfl) Try.func5 (by kernel_rfl)
    (of_decide_eq_true (by kernel_rfl)) (by unfold Func.isWrapper; first | (rw [if_pos (by decide +kernel)]; kernel_rfl) | (rw [if_neg (by decide +kernel)]; exact ⟨rfl, rfl⟩))
    (fun os started H enc _ => lifted os started H enc)
end Go.Proofs.Ytgdefibkemkejaa.lawTreeTold
