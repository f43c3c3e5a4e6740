/- TreeHolds, for every input: the law returns true and each argument reads behind the call as before. No condition. -/
import Derived.Test.YtgdefibkemkejaaGTreeG
namespace Go.Proofs.Ytgdefibkemkejaa.lawTreeHolds
open Go.ChangeShapes Go.WideShapes Go.ChangeAt Go.RowKit Go.Deep
set_option linter.unusedVariables false
set_option maxRecDepth 20000

set_option maxRecDepth 100000 in
set_option maxHeartbeats 16000000 in
theorem walkC (C : TreeC) (ao : Option Addr) (as_ : List Act3) (cap : Nat) (at_ : Int) (w : World) (hacts : Acts3 w ao as_) (hl : as_.length ≤ 140737488351232) (hnil : ao = none → cap = 0) (hat : I64 at_) :
    Calls Try.prog 4 #[.slice ao as_.length cap, .int .i64 at_] w fun e w' => e = .returned (.bool true) ∧ Below w.heap.size w w' := by
  obtain ⟨i0, hi, hz0, hz1, hz2⟩ := info_parts infoU8
  obtain ⟨j0, hj, hy0, hy1, hy2⟩ := info_parts infoPtr4
  obtain ⟨s0, hs, hs0, hs1, hs2⟩ := info_parts infoSec4
  obtain ⟨l0, hli, hl0, hl1, hl2⟩ := info_parts infoInt4
  have hacts := Lib.hid hacts
  have C := Lib.hid C
  obtain ⟨N, hN⟩ : ∃ N, Hid (as_.length = N) := ⟨_, Lib.hid rfl⟩
  rw [hN.out] at hl ⊢
  clear hnil hat
  have hzN := zeroNow
  have hzI := zeroIn
  have hzS := zeroSec
  go_enter Try.func4, Try.ntmps4
  go_wp2_with fail
  refine (treeAlive_any C.out _).mono ?_
  rintro e w1 ⟨rfl, b1⟩
  have q1 := Lib.hid b1
  clear b1
  by_cases h40 : N > 40
  · go_wp2
    go_ret
    exact ⟨rfl, q1.out⟩
  by_cases h0 : at_ < 0
  · go_wp2
    go_ret
    exact ⟨rfl, q1.out⟩
  by_cases h63 : at_ > 63
  · go_wp2
    go_ret
    exact ⟨rfl, q1.out⟩
  obtain ⟨x, rfl⟩ : ∃ x : Nat, at_ = (x : Int) := ⟨at_.toNat, by omega⟩
  have hx : x < 64 := by omega
  clear h0 h63
  go_wp2_with fail
  refine (made11_any 200 (by unfold I64; omega) w1).mono ?_
  rintro e w2 ⟨g, d, B, F, rfl, hP⟩
  have hP := hP.later q1.out
  rw [show DevM.newLen 200 = 200 from rfl] at hP
  obtain ⟨m0, hm0⟩ : ∃ m, Hid (m = (⟨DevM.fresh 200, newS 200, 1, 0⟩ : PileM)) := ⟨_, Lib.hid rfl⟩
  rw [← hm0.out] at hP
  have tp0 : Hid (TP m0 200 0 196) := Lib.hid (by rw [hm0.out]; exact newS_first (n := 200) (by decide) 1 0 (by decide) (by decide) count200)
  have ok0 : Hid (TreeOk m0 200 tree0 fun _ => sec0) := Lib.hid (tree0_ok m0 200)
  have ol0 : Hid (Olds m0 200 [] [] x) := Lib.hid (Olds.nil m0 200 x)
  have T1 := Lib.hid ((show TL w w2 g d B F m0 [] from ⟨hP, Side.nil _ _ _⟩).box 32 (p3L tree0.root))
  have hN1 := Lib.hid (Blk.new (w2.alloc (.cells (p3L tree0.root).toArray 32)) 35 (nowL fun _ => sec0))
  have hxr : Hid (w2.heap.size < w2.heap.size + 1) := Lib.hid (Nat.lt_succ_self _)
  clear hP q1 hm0
  go_wp2_with (first
    | ((with_reducible refine n2Dst (some 38) (by rfl) ?_); refine wantList_build (by rfl) 35 [] rfl (nowL fun _ => sec0) _ (by rfl) built_now ?_)
    | ((with_reducible refine guardList ?_); refine tOper 7 (by rfl) ?_; refine wantList_store (by rfl) 35 _ _ rfl (w2.heap.size + 1) 0 (by rfl) (nowL fun _ => sec0) (by rfl) _ (nowL fun _ => sec0) (nowL fun _ => sec0) (by have h := hN1.out; rw [World.size_alloc] at h; exact h) (by simp only [nowL_length]; decide) (nowL_one _) (infoNow _) whole_now ?_; intro w3 hR kk zz; have T3 := Lib.hid (T1.out.lay (by rw [World.size_alloc]; exact kk) (by rw [World.size_alloc]; exact hR)); have hlt3 : w2.heap.size + 1 < w3.heap.size := hR.lt; have hN3 := Lib.hid (Blk.new w3 36 (inL inN)); clear zz kk hR)
    | ((with_reducible refine n2Dst (some 39) (by rfl) ?_); refine wantList_build (by rfl) 36 [] rfl (inL inN) _ (by rfl) built_in ?_)
    | ((with_reducible refine guardList ?_); refine tOper 8 (by rfl) ?_; refine wantList_store (by rfl) 36 _ _ rfl (w3.heap.size) 0 (by rfl) (inL inN) (by rfl) _ (inL inN) (inL inN) hN3.out (by simp only [inL_length]; decide) (inL_one _) (infoIn _) whole_in ?_; intro w4 hR kk zz; have T4 := Lib.hid (T3.out.lay kk hR); clear zz kk hR))
  have T4 : Hid (TL w w4 g d B F m0 [(w3.heap.size, 36, inL (isT (tree0))), (w2.heap.size + 1, 35, nowL (fun _ => sec0)), (w2.heap.size, 32, p3L (tree0).root)]) := Lib.hid (by have h := T4.out; rw [isT0, World.size_alloc] at h; exact h)
  have H0 := Lib.hid (HK.start T4.out (by simp; omega) 32 23 3 128)
  clear T1 T3 T4 hN1 hN3 hzN hzI
  go_loopw [9, 10, 44] (fun v u i wr => ∃ (k : Nat) (F : Nat → Prop) (m : PileM) (t : Tree) (f : Nat → Sec) (kk c : Nat) (qs : List P3) (ss : List Sec), k ≤ N ∧ i = .int .i64 k ∧ Hid (HK w wr g d B F m [(w3.heap.size, 36, inL (isT (t))), (w2.heap.size + 1, 35, nowL (f)), (w2.heap.size, 32, p3L (t).root)] v 32 3 qs.length (rowsL p3L qs) u 23 128 ss.length (rowsL secL ss)) ∧ Hid (TP m 200 kk c) ∧ kk ≤ 3 * k ∧ 196 ≤ c + 3 * k ∧ Hid (TreeOk m 200 t f) ∧ Hid (Olds m 200 qs ss x) ∧ qs.length ≤ k)
    (fun _ _ i _ => N - (intOf i).toNat)
  case atStart => exact ⟨0, F, m0, tree0, fun _ => sec0, 0, 196, [], [], by omega, rfl, H0, tp0, by omega, by omega, ok0, ol0, by simp⟩
  case round =>
    clear H0 tp0 ok0 ol0
    obtain ⟨k, F, m, t, f, kk, c, qs, ss, hk, rfl, H, tp, hkk3, hc3', ok, olds, hqk⟩ := hrel
    by_cases hlt : k < N
    · have hA0 := hacts.out.each (as_[k]'(by rw [hN.out]; exact hlt)) (List.getElem_mem _)
      obtain ⟨ab, aoff, rfl, hab, a0, a1, a2⟩ := (hacts.out.below H.out.T.p.q).at_ (k := k) (by rw [hN.out]; exact hlt)
      generalize as_[k]'(by rw [hN.out]; exact hlt) = A at *
      obtain ⟨kd, nm, dao, dcap, data⟩ := A
      dsimp only at a0 a1 a2
      have hA := Lib.hid hA0
      clear hA0
      have hkk : kk ≤ 100000 := by omega
      have hc3 : 3 ≤ c := by omega
      have hc2 : 2 ≤ c := by omega
      have Hb := Lib.hid (show HK w (wr.alloc (.cells #[.int .i64 kd, .int .i64 nm, .slice dao data.length dcap] 41)) g d B F m ((wr.heap.size, 41, act3L ⟨kd, nm, dao, dcap, data⟩) :: [(w3.heap.size, 36, inL (isT (t))), (w2.heap.size + 1, 35, nowL (f)), (w2.heap.size, 32, p3L (t).root)]) _ _ _ _ _ _ _ _ _ _ from H.out.box 41 (act3L ⟨kd, nm, dao, dcap, data⟩))
      have Hs := Lib.hid Hb.out.tail
      clear H
      by_cases n0 : nm < 0
      · go_wp2
        go_roundw
        case rel => exact ⟨k + 1, F, m, t, f, kk, c, qs, ss, by omega, by go_num, Hs, tp, by omega, by omega, ok, olds, by omega⟩
        case measure => simp [intOf] <;> omega
      by_cases n63 : nm > 63
      · go_wp2
        go_roundw
        case rel => exact ⟨k + 1, F, m, t, f, kk, c, qs, ss, by omega, by go_num, Hs, tp, by omega, by omega, ok, olds, by omega⟩
        case measure => simp [intOf] <;> omega
      by_cases hd : data.length > 128
      · go_wp2
        go_roundw
        case rel => exact ⟨k + 1, F, m, t, f, kk, c, qs, ss, by omega, by go_num, Hs, tp, by omega, by omega, ok, olds, by omega⟩
        case measure => simp [intOf] <;> omega
      clear Hs
      have hdl : data.length ≤ 128 := by omega
      obtain ⟨y, rfl⟩ : ∃ y : Nat, nm = (y : Int) := ⟨nm.toNat, by omega⟩
      have hy : y < 64 := by omega
      clear n0 n63 hd
      by_cases h1 : kd = 1
      · subst h1
        go_wp2_with (first
          | ((with_reducible refine n2Dst (some 67) (by rfl) ?_); refine wantList_load (by rfl) 32 _ rfl (w2.heap.size) (0) (by rfl) (p3L (t.root)) _ (rangeB Hb.out.T.b3) Try.underlying32 rfl (infoPtr _) ?_))
        refine (C.out.cutH Hb.out.T.p.at_ tp.out hkk ok.out y hy hc2).mono ?_
        rintro e w8 ⟨m', t', v', F', c', rfl, tp', hcc, ok', keep, his, S'⟩
        have H8 := Lib.hid (Hb.out.turn S')
        have olds' := Lib.hid (olds.out.keep keep)
        have tp' := Lib.hid tp'
        have ok' := Lib.hid ok'
        have his := Lib.hid his
        have hs8 : Hid (nowL (updS f y sec0) = (nowL f).take (y * 128) ++ secL sec0 ++ (nowL f).drop (y * 128 + (secL sec0).length)) := Lib.hid (nowL_set f hy sec0)
        clear S' keep Hb
        go_upto_region 19 with (first
          | ((with_reducible refine guardList ?_); refine tOper 6 (by rfl) ?_; refine wantList_store (by rfl) 32 _ _ rfl (w2.heap.size) 0 (by rfl) (p3L t'.root) (by rfl) _ (p3L t.root) (p3L t'.root) (H8.out.T.b3) (by simp only [p3L_length]; decide) (p3L_one _) (infoPtr _) (whole_new rfl) ?_; intro w9 hR kk zz; have H9 := Lib.hid (H8.out.over3 kk hR); have a1' : w9.cell? ⟨wr.heap.size, 1, none⟩ = some (.int .i64 (y : Int)) := H9.out.T.b0.cell 1; have hl9 := H9.out.T.b0.lt; clear zz kk hR)
          | ((with_reducible refine n2Dst (some 76) (by rfl) ?_); refine wantList_build (by rfl) 23 [] rfl (secL sec0) _ (by rfl) built_sec0 ?_)
          | ((with_reducible refine guardList ?_); refine tOper 77 (by rfl) ?_; refine wantList_store (by rfl) 23 _ _ rfl (w2.heap.size + 1) (y * 128) (by rfl) (secL (sec0)) (by rfl) _ (nowL (f)) (nowL (updS f y sec0)) (H9.out.T.b2) (by simp only [secL_length, nowL_length]; omega) (secL_one _) (infoSecL _) (hs8.out) ?_; intro w10 hR kk zz; have H10 := Lib.hid (H9.out.over2 kk hR); clear zz kk hR))
        clear a1' hl9
        have a1' : w10.cell? ⟨wr.heap.size, 1, none⟩ = some (.int .i64 (y : Int)) := H10.out.T.b0.cell 1
        have hl10 := H10.out.T.b0.lt
        have ci : w10.cell? ⟨w3.heap.size, y, none⟩ = some (.bool (isT t y)) := by rw [H10.out.T.b1.cell]; exact inL_get _ hy
        have fi : w10.frozen? ⟨w3.heap.size, y, none⟩ = false := H10.out.T.b1.frozen y
        have hl10' := H10.out.T.b1.lt
        go_upto_region 23 with (fail)
        have H11 : Hid (HK w (w10.setCell ⟨w3.heap.size, y, none⟩ (.bool false)) g d B F' m' _ _ _ _ _ _ _ _ _ _ _) := Lib.hid (H10.out.over1 (Kept.cellAt _ _ _ _) (H10.out.T.b1.set y (.bool false)))
        rw [← his.out] at H11
        clear a1' ci fi hl10 hl10' H8 H9 H10
        obtain ⟨w5, hw5⟩ : ∃ w5 : World, w5 = w10.setCell ⟨w3.heap.size, y, none⟩ (.bool false) := ⟨_, rfl⟩
        rw [← hw5] at H11 ⊢
        clear hw5
        have hql : qs.length ≤ 40 := by omega
        have hsl : ss.length ≤ 40 := by have := olds.out.1; omega
        have hlx := H11.out.T.b2.lt
        clear a0 a1 a2
        go_wp2_with (first
          | ((with_reducible refine n2Dst (some 106) (by rfl) ?_); refine wantList_load (by rfl) 32 _ rfl (w2.heap.size) 0 (by rfl) (p3L (t'.root)) _ (rangeB H11.out.T.b3) Try.underlying32 rfl (infoPtr _) ?_)
          | ((with_reducible refine n2Dst (some 107) (by rfl) ?_); refine wpList_bsP2 (by rfl) (.tmp 106) rfl (t'.root) (by rfl) ?_)
          | ((with_reducible refine n2Dst (some 108) (by rfl) ?_); refine wpList_pushN rfl (.tmp 105) (.tmp 107) 37 rfl w.heap.size 32 j0 _ 3 24 Try.underlying37 hj hy0 hy1 hy2 rfl (by decide) u9 _ _ (w5) (by rfl) H11.out.rv 1 (p3L (t'.root)).toArray (by rfl) (by rfl) (p3L_one _) (by omega) (by omega) H11.out.size ?_; intro v20 w20 ho hg hv; have H20 := Lib.hid (H11.out.pushV (n' := (qs ++ [t'.root]).length) (c1' := rowsL p3L (qs ++ [t'.root])) (by rw [rowsL_append, rowsL_one, List.length_append]; exact ho) hg); have hlx20 := H20.out.T.b2.lt; clear ho hg hv)
          | ((with_reducible refine n2Dst (some 112) (by rfl) ?_); refine wantList_load (by rfl) 23 _ rfl (w2.heap.size + 1) (x * 128) (by rfl) (secL ((updS f y sec0) x)) _ (now_range H20.out.T.b2 hx) Try.underlying23 rfl (infoSecL _) ?_)
          | ((with_reducible refine n2Dst (some 113) (by rfl) ?_); refine wpList_bsS (by rfl) (.tmp 112) rfl ((updS f y sec0) x) (by rfl) ?_)
          | ((with_reducible refine n2Dst (some 114) (by rfl) ?_); refine wpList_pushN rfl (.tmp 109) (.tmp 113) 38 rfl w.heap.size 23 s0 _ 128 128 Try.underlying38 hs hs0 hs1 hs2 (by simp only [Value.cells]; exact secL_length _) (by decide) u10 _ _ w20 (by rfl) H20.out.ru 1 (secL ((updS f y sec0) x)).toArray (by rfl) (by simp only [List.size_toArray]; exact secL_length _) (secL_one _) (by omega) (by omega) H20.out.size ?_; intro v21 w21 ho hg hv; have H21 := Lib.hid (H20.out.pushU (n' := (ss ++ [(updS f y sec0) x]).length) (c2' := rowsL secL (ss ++ [(updS f y sec0) x])) (by rw [rowsL_append, rowsL_one, List.length_append]; exact ho) hg).tail; clear ho hg hv))
        go_roundw
        case rel => exact ⟨k + 1, F', m', t', updS f y sec0, kk + 3, c', qs ++ [t'.root], ss ++ [(updS f y sec0) x], by omega, by go_num, H21, tp', by omega, by omega, ok', Lib.hid (olds'.out.push ok'.out), by simp; omega⟩
        case measure => simp [intOf] <;> omega
      · have hk1 : (kd == 1) = false := by simpa using h1
        go_wp2
        clear a0 a1 a2
        generalize (wr.alloc (.cells #[.int .i64 kd, .int .i64 (y : Int), .slice dao data.length dcap] 41)) = Wn at *
        have Hb := Lib.hid Hb.out.drew
        refine inO_region [(1, fun w' => w'.rangeAt (w2.heap.size) (0) (p3L t.root)), (3, fun w' => w'.cell? ⟨wr.heap.size, 1, none⟩ = some (.int .i64 (y : Int))), (6, fun w' => w'.cell? ⟨wr.heap.size, 2, none⟩ = some (.slice dao data.length dcap))] (by kernel_rfl) (Owed.cons (rangeB Hb.out.T.b3) (Owed.cons (Hb.out.T.b0.cell 1) (Owed.cons (Hb.out.T.b0.cell 2) (Owed.nil _ _)))) ?_
        generalize Wn.drew = V0 at *
        refine inO_take 0 ⟨_, _, _, _, _, _⟩ (.pointer (some ⟨g, 0, none⟩)) rfl (by kernel_rfl) (by kernel_rfl) (by kernel_rfl) (fun _ _ _ h => h) rfl (fun ww => exec_move (by rfl) (by rfl) ww) ?_
        simp only [Act.put, List.setIfInBounds_toArray, List.set_cons_zero, List.set_cons_succ]
        refine inO_load 1 ⟨_, _, _, _, _, _⟩ (.agg (p3L t.root).toArray) (fun w' => w'.rangeAt (w2.heap.size) (0) (p3L t.root)) rfl (by kernel_rfl) (by kernel_rfl) (by kernel_rfl) (fun _ _ _ h => h) rfl (.head _) (fun ww hw => exec_load_mid _ _ (by rfl) _ _ (by rfl) _ _ hw Try.underlying32 rfl (infoPtr _)) ?_
        simp only [Act.put, List.setIfInBounds_toArray, List.set_cons_zero, List.set_cons_succ]
        refine inO_take 2 ⟨_, _, _, _, _, _⟩ (.pointer (some ⟨wr.heap.size, 1, none⟩)) rfl (by kernel_rfl) (by kernel_rfl) (by kernel_rfl) (fun _ _ _ h => h) rfl (fun ww => by go_simp) ?_
        simp only [Act.put, List.setIfInBounds_toArray, List.set_cons_zero, List.set_cons_succ]
        refine inO_load 3 ⟨_, _, _, _, _, _⟩ (.int .i64 (y : Int)) (fun w' => w'.cell? ⟨wr.heap.size, 1, none⟩ = some (.int .i64 (y : Int))) rfl (by kernel_rfl) (by kernel_rfl) (by kernel_rfl) (fun _ _ _ h => h) rfl (.tail _ (.head _)) (fun ww hw => by go_simp) ?_
        simp only [Act.put, List.setIfInBounds_toArray, List.set_cons_zero, List.set_cons_succ]
        refine inO_take 5 ⟨_, _, _, _, _, _⟩ (.pointer (some ⟨wr.heap.size, 2, none⟩)) rfl (by kernel_rfl) (by kernel_rfl) (by kernel_rfl) (fun _ _ _ h => h) rfl (fun ww => by go_simp) ?_
        simp only [Act.put, List.setIfInBounds_toArray, List.set_cons_zero, List.set_cons_succ]
        refine inO_load 6 ⟨_, _, _, _, _, _⟩ (.slice dao data.length dcap) (fun w' => w'.cell? ⟨wr.heap.size, 2, none⟩ = some (.slice dao data.length dcap)) rfl (by kernel_rfl) (by kernel_rfl) (by kernel_rfl) (fun _ _ _ h => h) rfl (.tail _ (.tail _ (.head _))) (fun ww hw => by go_simp) ?_
        simp only [Act.put, List.setIfInBounds_toArray, List.set_cons_zero, List.set_cons_succ]
        refine inO_step 4 ⟨_, _, _, _, _, _⟩ rfl (by kernel_rfl) rfl (fun K hK => ?_)
        refine wp_noBytes rfl ?_
        have HB := Lib.hid (Hb.out.box 5 [])
        refine hK _ _ (Keeps.cons (fun hh j v hv => cell_alloc (hh j v hv) _) (Keeps.cons (fun hh => cell_alloc hh _) (Keeps.cons (fun hh => cell_alloc hh _) (Keeps.nil _ _ _)))) ?_
        clear hK K
        simp only [Act.put, List.setIfInBounds_toArray, List.set_cons_zero, List.set_cons_succ]
        obtain ⟨V1, hV1⟩ : ∃ V, V = V0.alloc (.cells ([] : List Value).toArray 5) := ⟨_, rfl⟩
        rw [← hV1] at HB ⊢
        clear hV1
        refine inO_step 7 ⟨_, _, _, _, _, _⟩ rfl (by kernel_rfl) rfl (fun K hK => ?_)
        refine wp_own_app (.tmp 86) (.tmp 88) 39 rfl (V0.heap.size) 5 i0 (.int .u8 0) 1 Try.underlying39 hi hz0 hz1 hz2 rfl (.slice (some ⟨V0.heap.size, 0, none⟩) 0 0) [] (by rfl) (Own.of_none HB.out.T.b0) dao data.length dcap (bytesV data) (by rfl) hA.out.nil (by rw [bytesV_length]) (Reads.below hA.out.data HB.out.T.p.q) (bytesV_one _) (by simp; omega) (by simp; omega) (Nat.le_of_lt HB.out.T.b0.lt) fun v7 w7 ho7 hg7 => ?_
        have HC := Lib.hid (HB.out.other hg7 rfl)
        obtain ⟨co, cc, rfl, hc1, hc2', hc4, hrd, hc5⟩ := Own.shapeN ho7 (n := data.length) (by simp [bytesV_length])
        have rd2 : Hid (Bytes w7 co data) := Lib.hid hrd
        have hnF : Hid (∀ a, co = some a → ¬ F a.block) := Lib.hid (fun a ha hf => by have h1 := (hc5 a ha).1; have h2 := Hb.out.T.p.at_.lt _ hf; omega)
        refine hK _ _ (Keeps.cons (fun _ => rangeB HC.out.T.b3) (Keeps.cons (fun _ => HC.out.T.b0.cell 1) (Keeps.late (by kernel_rfl) (Keeps.nil _ _ _)))) ?_
        clear hK K hrd hc5 ho7 hg7 HB
        simp only [Act.put, List.setIfInBounds_toArray, List.set_cons_zero, List.set_cons_succ]
        refine inO_step 8 ⟨_, _, _, _, _, _⟩ rfl (by kernel_rfl) rfl (fun K hK => ?_)
        refine wp_call Try.func12 (by kernel_rfl) rfl _ _ rfl _ rfl _ (C.out.putH HC.out.T.p.at_ tp.out hkk ok.out y hy co data cc rd2.out hc1 hc4 hnF.out hc3 hdl) fun e w8 R => ?_
        obtain ⟨m', t', v', F', c', rfl, tp', hcc, ok', keep, his, S'⟩ := R
        have HD := Lib.hid (HC.out.turn S')
        have olds' := Lib.hid (olds.out.keep keep)
        have tp' := Lib.hid tp'
        have ok' := Lib.hid ok'
        have his := Lib.hid his
        refine ⟨_, rfl, ?_⟩
        refine hK _ _ (Keeps.late (by kernel_rfl) (Keeps.late (by kernel_rfl) (Keeps.late (by kernel_rfl) (Keeps.nil _ _ _)))) ?_
        clear hK K S' keep HC Hb
        simp only [Act.put, List.setIfInBounds_toArray, List.set_cons_zero, List.set_cons_succ]
        refine inO_take 9 ⟨_, _, _, _, _, _⟩ ((.tuple #[.agg (p3L t'.root).toArray, v', .int .i64 0])) rfl (by kernel_rfl) (by kernel_rfl) (by kernel_rfl) (fun _ _ _ h => h) rfl (fun ww => exec_move (by rfl) (by rfl) ww) ?_
        simp only [Act.put, List.setIfInBounds_toArray, List.set_cons_zero, List.set_cons_succ]
        refine inO_take 10 ⟨_, _, _, _, _, _⟩ (.agg (p3L t'.root).toArray) rfl (by kernel_rfl) (by kernel_rfl) (by kernel_rfl) (fun _ _ _ h => h) rfl (fun ww => by go_simp) ?_
        simp only [Act.put, List.setIfInBounds_toArray, List.set_cons_zero, List.set_cons_succ]
        refine inO_take 11 ⟨_, _, _, _, _, _⟩ (v') rfl (by kernel_rfl) (by kernel_rfl) (by kernel_rfl) (fun _ _ _ h => h) rfl (fun ww => by go_simp) ?_
        simp only [Act.put, List.setIfInBounds_toArray, List.set_cons_zero, List.set_cons_succ]
        refine inO_take 12 ⟨_, _, _, _, _, _⟩ (.int .i64 0) rfl (by kernel_rfl) (by kernel_rfl) (by kernel_rfl) (fun _ _ _ h => h) rfl (fun ww => by go_simp) ?_
        simp only [Act.put, List.setIfInBounds_toArray, List.set_cons_zero, List.set_cons_succ]
        refine inO_step 13 ⟨_, _, _, _, _, _⟩ rfl (by kernel_rfl) rfl (fun K hK => ?_)
        refine wp_store_blk 32 _ _ rfl (w2.heap.size) 0 (by rfl) (p3L t'.root) (by rfl) 32 (p3L t.root) (p3L t'.root) HD.out.T.b3 (Nat.le_of_eq rfl) (p3L_one _) (infoPtr _) (whole_new rfl) fun w14 h14 k14 z14 => ?_
        have HE := Lib.hid (HD.out.over3 k14 h14)
        refine hK _ _ (Keeps.late (by kernel_rfl) (Keeps.late (by kernel_rfl) (Keeps.late (by kernel_rfl) (Keeps.nil _ _ _)))) ?_
        clear hK K h14 k14 z14 HD
        simp only [Act.put]
        refine inO_take 14 ⟨_, _, _, _, _, _⟩ (.int .i64 0) rfl (by kernel_rfl) (by kernel_rfl) (by kernel_rfl) (fun _ _ _ h => h) rfl (fun ww => by go_simp) ?_
        simp only [Act.put, List.setIfInBounds_toArray, List.set_cons_zero, List.set_cons_succ]
        refine inO_done (by kernel_rfl) ?_
        have hrd := Lib.hid (Reads.below hA.out.data HE.out.T.p.q)
        have hs8 : Hid (nowL (updS f y (blockS data)) = (nowL f).take (y * 128) ++ secL (blockS data) ++ (nowL f).drop (y * 128 + (secL (blockS data)).length)) := Lib.hid (nowL_set f hy (blockS data))
        go_wp2
        refine inO_region [(1, fun w' => w'.cell? ⟨wr.heap.size, 1, none⟩ = some (.int .i64 (y : Int))), (3, fun w' => w'.cell? ⟨wr.heap.size, 2, none⟩ = some (.slice dao data.length dcap))] (by kernel_rfl) (Owed.cons (HE.out.T.b0.cell 1) (Owed.cons (HE.out.T.b0.cell 2) (Owed.nil _ _))) ?_
        refine inO_take 0 ⟨_, _, _, _, _, _⟩ (.pointer (some ⟨wr.heap.size, 1, none⟩)) rfl (by kernel_rfl) (by kernel_rfl) (by kernel_rfl) (fun _ _ _ h => h) rfl (fun ww => by go_simp) ?_
        simp only [Act.put, List.setIfInBounds_toArray, List.set_cons_zero, List.set_cons_succ]
        refine inO_load 1 ⟨_, _, _, _, _, _⟩ (.int .i64 (y : Int)) (fun w' => w'.cell? ⟨wr.heap.size, 1, none⟩ = some (.int .i64 (y : Int))) rfl (by kernel_rfl) (by kernel_rfl) (by kernel_rfl) (fun _ _ _ h => h) rfl (.head _) (fun ww hw => by go_simp) ?_
        simp only [Act.put, List.setIfInBounds_toArray, List.set_cons_zero, List.set_cons_succ]
        refine inO_take 2 ⟨_, _, _, _, _, _⟩ (.pointer (some ⟨wr.heap.size, 2, none⟩)) rfl (by kernel_rfl) (by kernel_rfl) (by kernel_rfl) (fun _ _ _ h => h) rfl (fun ww => by go_simp) ?_
        simp only [Act.put, List.setIfInBounds_toArray, List.set_cons_zero, List.set_cons_succ]
        refine inO_load 3 ⟨_, _, _, _, _, _⟩ (.slice dao data.length dcap) (fun w' => w'.cell? ⟨wr.heap.size, 2, none⟩ = some (.slice dao data.length dcap)) rfl (by kernel_rfl) (by kernel_rfl) (by kernel_rfl) (fun _ _ _ h => h) rfl (.tail _ (.head _)) (fun ww hw => by go_simp) ?_
        simp only [Act.put, List.setIfInBounds_toArray, List.set_cons_zero, List.set_cons_succ]
        refine inO_step 4 ⟨_, _, _, _, _, _⟩ rfl (by kernel_rfl) rfl (fun K hK => ?_)
        refine wp_call Try.func13 (by kernel_rfl) rfl _ _ rfl _ rfl _ (Block_any dao data dcap _ (hrd.out.drewN 0) (by omega)) fun e w8' R => ?_
        obtain ⟨rfl, b8⟩ := R
        have HF := Lib.hid (HE.out.drew.below b8)
        clear b8
        refine ⟨_, rfl, ?_⟩
        refine hK _ _ (Keeps.cons (fun _ => HF.out.T.b0.cell 1) (Keeps.late (by kernel_rfl) (Keeps.nil _ _ _))) ?_
        clear hK K
        simp only [Act.put, List.setIfInBounds_toArray, List.set_cons_zero, List.set_cons_succ]
        refine inO_take 5 ⟨_, _, _, _, _, _⟩ (.pointer (some ⟨w2.heap.size + 1, y * 128, none⟩)) rfl (by kernel_rfl) (by kernel_rfl) (by kernel_rfl) (fun _ _ _ h => h) rfl (fun ww => by go_simp <;> (intro hh; omega)) ?_
        simp only [Act.put, List.setIfInBounds_toArray, List.set_cons_zero, List.set_cons_succ]
        refine inO_step 6 ⟨_, _, _, _, _, _⟩ rfl (by kernel_rfl) rfl (fun K hK => ?_)
        refine wp_store_blk 23 _ _ rfl (w2.heap.size + 1) (y * 128) (by rfl) (secL (blockS data)) (by rfl) 35 (nowL f) (nowL (updS f y (blockS data))) HF.out.T.b2 (by simp only [secL_length, nowL_length]; omega) (secL_one _) (infoSecL _) hs8.out fun w10 h10 k10 z10 => ?_
        have H10 := Lib.hid (HF.out.over2 k10 h10)
        clear h10 k10 z10
        refine hK _ _ (Keeps.late (by kernel_rfl) (Keeps.late (by kernel_rfl) (Keeps.nil _ _ _))) ?_
        clear hK K
        simp only [Act.put]
        refine inO_done (by kernel_rfl) ?_
        clear HE HF hrd hs8
        have a1' : w10.cell? ⟨wr.heap.size, 1, none⟩ = some (.int .i64 (y : Int)) := H10.out.T.b0.cell 1
        have hl10 := H10.out.T.b0.lt
        have ci : w10.cell? ⟨w3.heap.size, y, none⟩ = some (.bool (isT t y)) := by rw [H10.out.T.b1.cell]; exact inL_get _ hy
        have fi : w10.frozen? ⟨w3.heap.size, y, none⟩ = false := H10.out.T.b1.frozen y
        have hl10' := H10.out.T.b1.lt
        go_upto_region 23 with (fail)
        have H11 : Hid (HK w (w10.setCell ⟨w3.heap.size, y, none⟩ (.bool true)) g d B F' m' _ _ _ _ _ _ _ _ _ _ _) := Lib.hid (H10.out.over1 (Kept.cellAt _ _ _ _) (H10.out.T.b1.set y (.bool true)))
        rw [← his.out] at H11
        clear a1' ci fi hl10 hl10' H10
        obtain ⟨w5, hw5⟩ : ∃ w5 : World, w5 = w10.setCell ⟨w3.heap.size, y, none⟩ (.bool true) := ⟨_, rfl⟩
        rw [← hw5] at H11 ⊢
        clear hw5
        have hql : qs.length ≤ 40 := by omega
        have hsl : ss.length ≤ 40 := by have := olds.out.1; omega
        have hlx := H11.out.T.b2.lt
        go_wp2_with (first
          | ((with_reducible refine n2Dst (some 106) (by rfl) ?_); refine wantList_load (by rfl) 32 _ rfl (w2.heap.size) 0 (by rfl) (p3L (t'.root)) _ (rangeB H11.out.T.b3) Try.underlying32 rfl (infoPtr _) ?_)
          | ((with_reducible refine n2Dst (some 107) (by rfl) ?_); refine wpList_bsP2 (by rfl) (.tmp 106) rfl (t'.root) (by rfl) ?_)
          | ((with_reducible refine n2Dst (some 108) (by rfl) ?_); refine wpList_pushN rfl (.tmp 105) (.tmp 107) 37 rfl w.heap.size 32 j0 _ 3 24 Try.underlying37 hj hy0 hy1 hy2 rfl (by decide) u9 _ _ (w5) (by rfl) H11.out.rv 1 (p3L (t'.root)).toArray (by rfl) (by rfl) (p3L_one _) (by omega) (by omega) H11.out.size ?_; intro v20 w20 ho hg hv; have H20 := Lib.hid (H11.out.pushV (n' := (qs ++ [t'.root]).length) (c1' := rowsL p3L (qs ++ [t'.root])) (by rw [rowsL_append, rowsL_one, List.length_append]; exact ho) hg); have hlx20 := H20.out.T.b2.lt; clear ho hg hv)
          | ((with_reducible refine n2Dst (some 112) (by rfl) ?_); refine wantList_load (by rfl) 23 _ rfl (w2.heap.size + 1) (x * 128) (by rfl) (secL ((updS f y (blockS data)) x)) _ (now_range H20.out.T.b2 hx) Try.underlying23 rfl (infoSecL _) ?_)
          | ((with_reducible refine n2Dst (some 113) (by rfl) ?_); refine wpList_bsS (by rfl) (.tmp 112) rfl ((updS f y (blockS data)) x) (by rfl) ?_)
          | ((with_reducible refine n2Dst (some 114) (by rfl) ?_); refine wpList_pushN rfl (.tmp 109) (.tmp 113) 38 rfl w.heap.size 23 s0 _ 128 128 Try.underlying38 hs hs0 hs1 hs2 (by simp only [Value.cells]; exact secL_length _) (by decide) u10 _ _ w20 (by rfl) H20.out.ru 1 (secL ((updS f y (blockS data)) x)).toArray (by rfl) (by simp only [List.size_toArray]; exact secL_length _) (secL_one _) (by omega) (by omega) H20.out.size ?_; intro v21 w21 ho hg hv; have H21 := Lib.hid (H20.out.pushU (n' := (ss ++ [(updS f y (blockS data)) x]).length) (c2' := rowsL secL (ss ++ [(updS f y (blockS data)) x])) (by rw [rowsL_append, rowsL_one, List.length_append]; exact ho) hg).tail; clear ho hg hv))
        go_roundw
        case rel => exact ⟨k + 1, F', m', t', updS f y (blockS data), kk + 3, c', qs ++ [t'.root], ss ++ [(updS f y (blockS data)) x], by omega, by go_num, H21, tp', by omega, by omega, ok', Lib.hid (olds'.out.push ok'.out), by simp; omega⟩
        case measure => simp [intOf] <;> omega
    · obtain rfl : k = N := by omega
      obtain ⟨vo, vcap, rfl, _⟩ := rows_reads H.out.rv (by decide)
      obtain ⟨uo, ucap, rfl, _⟩ := rows_reads H.out.ru (by decide)
      have hkk : kk ≤ 100000 := by omega
      have hql : qs.length ≤ 40 := by omega
      have hsl : Hid (ss.length = qs.length) := Lib.hid olds.out.1.symm
      have hqS : ∀ (s : Sec) (w : World), (Op.equalIn 10000 23 (.agg (secL s).toArray) (.agg (secL s).toArray)).run Try.prog w = .ok true w := fun s w => by rw [eqSec, decide_eq_true rfl]
      clear hkk3 hc3' hqk hlt hk
      go_wp2
      go_loopw [118] (fun i wr => ∃ (k2 : Nat) (F : Nat → Prop) (m : PileM), k2 ≤ qs.length ∧ i = .int .i64 k2 ∧ Hid (HK w wr g d B F m [(w3.heap.size, 36, inL (isT (t))), (w2.heap.size + 1, 35, nowL (f)), (w2.heap.size, 32, p3L (t).root)] (.slice vo qs.length vcap) 32 3 qs.length (rowsL p3L qs) (.slice uo ss.length ucap) 23 128 ss.length (rowsL secL ss)) ∧ Hid (TP m 200 kk c) ∧ Hid (TreeOk m 200 t f) ∧ Hid (Olds m 200 qs ss x))
        (fun i _ => qs.length - (intOf i).toNat)
      case atStart => exact ⟨0, F, m, by omega, rfl, H, tp, ok, olds⟩
      case round =>
        clear H tp ok olds
        obtain ⟨k2, F, m, hk2, rfl, H, tp, ok, olds⟩ := hrel
        by_cases hlt2 : k2 < qs.length
        · have hlt2' : k2 < ss.length := by rw [hsl.out]; exact hlt2
          obtain ⟨ti, fi, oki, hri, hfi⟩ := olds.out.2 k2 hlt2 hlt2'
          obtain ⟨vb, voff, rfl, hvb, hvr⟩ := rangeRow p3L_length (by decide) (H.out.readsV (by decide)) hlt2
          obtain ⟨ub, uoff, rfl, hub, _⟩ := rangeRow secL_length (by decide) (H.out.readsU (by decide)) hlt2'
          have hG := C.out.getH H.out.T.p.at_ tp.out hkk oki x hx
          rw [hri, hfi] at hG
          have hG := Lib.hid hG
          have hur : Hid (∀ W F m L, HK w W g d B F m L (.slice (some ⟨vb, voff, none⟩) qs.length vcap) 32 3 qs.length (rowsL p3L qs) (.slice (some ⟨ub, uoff, none⟩) ss.length ucap) 23 128 ss.length (rowsL secL ss) → W.rangeAt ub (uoff + k2 * 128) (secL ss[k2])) := Lib.hid fun W F m L h => by
            obtain ⟨_, _, e, _, h2⟩ := rangeRow secL_length (by decide) (h.readsU (by decide)) hlt2'
            cases e
            exact h2
          have hvr := Lib.hid hvr
          clear oki hri hfi
          generalize qs[k2] = q at *
          generalize ss[k2] = s at *
          have hq1 := hqS s
          go_wp2_with (first
            | ((with_reducible refine n2Dst (some 126) (by rfl) ?_); refine wantList_load (by rfl) 32 _ rfl vb (voff + k2 * 3) (by rfl) (p3L q) _ hvr.out Try.underlying32 rfl (infoPtr _) ?_))
          refine hG.out.mono ?_
          rintro e w8 ⟨m', F', rfl, tp', al', S'⟩
          have H8 := Lib.hid (H.out.turn S')
          have olds' := Lib.hid (olds.out.alike al')
          have ok' := Lib.hid (ok.out.alike al')
          have tp' := Lib.hid tp'
          have hN8 := Lib.hid (Blk.new w8 23 (secL sec0))
          clear S' al' H hG hvr hvb hub tp ok olds
          go_upto_region 32 with ((with_reducible refine guardList ?_); refine tOper 15 (by rfl) ?_; refine wantList_store (by rfl) 23 _ _ rfl (w8.heap.size) 0 (by rfl) (secL (s)) (by rfl) _ (secL (sec0)) (secL (s)) (hN8.out) (by simp only [secL_length]; decide) (secL_one _) (infoSecL _) wholeSn ?_; intro w9 hR kk zz; have H9 := Lib.hid (H8.out.lay kk hR); clear zz kk hR)
          have hq2 := hur.out _ _ _ _ H9.out.drew
          have hq3 := rangeN H9.out.drew.T.b0
          refine inO_region [(3, fun w' => w'.rangeAt (w8.heap.size) (0) (secL s)), (7, fun w' => w'.rangeAt (ub) (uoff + k2 * 128) (secL s))] (by kernel_rfl) (Owed.cons (hq3) (Owed.cons (hq2) (Owed.nil _ _))) ?_
          refine inO_take 0 ⟨_, _, _, _, _, _⟩ (.int .i64 0) rfl (by kernel_rfl) (by kernel_rfl) (by kernel_rfl) (fun _ _ _ h => h) rfl (fun ww => exec_move (by rfl) (by rfl) ww) ?_
          simp only [Act.put, List.setIfInBounds_toArray, List.set_cons_zero, List.set_cons_succ]
          refine inO_take 1 ⟨_, _, _, _, _, _⟩ (.bool false) rfl (by kernel_rfl) (by kernel_rfl) (by kernel_rfl) (fun _ _ _ h => h) rfl (fun ww => by go_simp) ?_
          simp only [Act.put, List.setIfInBounds_toArray, List.set_cons_zero, List.set_cons_succ]
          refine inO_take 2 ⟨_, _, _, _, _, _⟩ (.bool false) rfl (by kernel_rfl) (by kernel_rfl) (by kernel_rfl) (fun _ _ _ h => h) rfl (fun ww => exec_move (by rfl) (by rfl) ww) ?_
          simp only [Act.put, List.setIfInBounds_toArray, List.set_cons_zero, List.set_cons_succ]
          refine inO_load 3 ⟨_, _, _, _, _, _⟩ (.agg (secL s).toArray) (fun w' => w'.rangeAt (w8.heap.size) (0) (secL s)) rfl (by kernel_rfl) (by kernel_rfl) (by kernel_rfl) (fun _ _ _ h => h) rfl (.head _) (fun ww hw => exec_load_mid _ _ (by rfl) _ _ (by rfl) _ _ hw Try.underlying23 rfl (infoSecL _)) ?_
          simp only [Act.put, List.setIfInBounds_toArray, List.set_cons_zero, List.set_cons_succ]
          refine inO_take 4 ⟨_, _, _, _, _, _⟩ (.slice (some ⟨ub, uoff, none⟩) ss.length ucap) rfl (by kernel_rfl) (by kernel_rfl) (by kernel_rfl) (fun _ _ _ h => h) rfl (fun ww => exec_move (by rfl) (by rfl) ww) ?_
          simp only [Act.put, List.setIfInBounds_toArray, List.set_cons_zero, List.set_cons_succ]
          refine inO_take 5 ⟨_, _, _, _, _, _⟩ (.int .i64 (k2 : Int)) rfl (by kernel_rfl) (by kernel_rfl) (by kernel_rfl) (fun _ _ _ h => h) rfl (fun ww => exec_move (by rfl) (by rfl) ww) ?_
          simp only [Act.put, List.setIfInBounds_toArray, List.set_cons_zero, List.set_cons_succ]
          refine inO_take 6 ⟨_, _, _, _, _, _⟩ (.pointer (some ⟨ub, uoff + k2 * 128, none⟩)) rfl (by kernel_rfl) (by kernel_rfl) (by kernel_rfl) (fun _ _ _ h => h) rfl (fun ww => by go_simp <;> (intro hh; omega)) ?_
          simp only [Act.put, List.setIfInBounds_toArray, List.set_cons_zero, List.set_cons_succ]
          refine inO_load 7 ⟨_, _, _, _, _, _⟩ (.agg (secL s).toArray) (fun w' => w'.rangeAt (ub) (uoff + k2 * 128) (secL s)) rfl (by kernel_rfl) (by kernel_rfl) (by kernel_rfl) (fun _ _ _ h => h) rfl (.tail _ (.head _)) (fun ww hw => exec_load_mid _ _ (by rfl) _ _ (by rfl) _ _ hw Try.underlying23 rfl (infoSecL _)) ?_
          simp only [Act.put, List.setIfInBounds_toArray, List.set_cons_zero, List.set_cons_succ]
          refine inO_take 8 ⟨_, _, _, _, _, _⟩ (.bool false) rfl (by kernel_rfl) (by kernel_rfl) (by kernel_rfl) (fun _ _ _ h => h) rfl (fun ww => by go_simp) ?_
          simp only [Act.put, List.setIfInBounds_toArray, List.set_cons_zero, List.set_cons_succ]
          refine inO_take 9 ⟨_, _, _, _, _, _⟩ (.bool false) rfl (by kernel_rfl) (by kernel_rfl) (by kernel_rfl) (fun _ _ _ h => h) rfl (fun ww => by go_simp) ?_
          simp only [Act.put, List.setIfInBounds_toArray, List.set_cons_zero, List.set_cons_succ]
          refine inO_done (by kernel_rfl) ?_
          have HA := Lib.hid H9.out.drew.tail
          clear H9 H8 hq2 hq3 hN8 hur
          go_wp2
          go_roundw
          case rel => exact ⟨k2 + 1, F', m', by omega, by go_num, HA, tp', ok', olds'⟩
          case measure => simp [intOf] <;> omega

        · have hB := Lib.hid (C.out.blocks H.out.T.p.at_ tp.out hkk ok.out)
          go_wp2_with (first
            | ((with_reducible refine n2Dst (some 144) (by rfl) ?_); refine wantList_load (by rfl) 32 _ rfl (w2.heap.size) 0 (by rfl) (p3L t.root) _ (rangeB H.out.T.b2) Try.underlying32 rfl (infoPtr _) ?_))
          refine hB.out.mono ?_
          rintro e w8 ⟨m', bv, F', rfl, tp', al', S', bl⟩
          obtain ⟨lo, lc, rfl, hlr, hln, hll⟩ := bl
          have hxrl := H.out.T.b2.lt
          have l8 := Lib.hid (show Lst w8 F' (w2.heap.size) lo (t.blocksL.map fun i : Nat => Value.int .i64 (i : Int)) from ⟨hlr, fun a ha => ⟨(hll a ha).2.1, (hll a ha).2.2, Nat.lt_of_lt_of_le hxrl (hll a ha).1⟩⟩)
          have T8 := H.out.T.turn S'
          have nd8 := H.out.nd
          have ok' := Lib.hid (ok.out.alike al')
          have tp' := Lib.hid tp'
          have H0 := Lib.hid (HK.start1 T8 nd8 3 3 1 1)
          have l0' := Lib.hid (l8.out.alloc (.cells #[] 3))
          have hd0 : Hid (∀ a, lo = some a → (Value.slice (some ⟨w8.heap.size, 0, none⟩) 0 0).ownBlock ≠ some a.block) := Lib.hid fun a ha e => by
            have h1 := (l8.out.out a ha).1
            have h2 := Option.some.inj (show some w8.heap.size = some a.block from e)
            omega
          clear hll hlr S' al' H tp ok olds hB T8 nd8 l8 hxrl
          go_wp2
          go_loopw [19, 149] (fun v i wr => ∃ (k3 : Nat) (F : Nat → Prop) (m : PileM) (ns : List Nat), k3 ≤ 64 ∧ i = .int .i64 k3 ∧ Hid (HK w wr g d B F m [(w3.heap.size, 36, inL (isT (t))), (w2.heap.size + 1, 35, nowL (f)), (w2.heap.size, 32, p3L (t).root)] v 3 1 ns.length (ns.map fun i : Nat => Value.int .i64 (i : Int)) (.slice none 0 0) 3 1 0 []) ∧ Hid (Lst wr F (w2.heap.size) lo (t.blocksL.map fun i : Nat => Value.int .i64 (i : Int))) ∧ Hid (∀ a, lo = some a → v.ownBlock ≠ some a.block) ∧ Hid (TP m 200 kk c) ∧ Hid (TreeOk m 200 t f) ∧ Hid ((List.range k3).filter (isT t) = ns))
            (fun _ i _ => 64 - (intOf i).toNat)
          case atStart => exact ⟨0, F', m', [], by omega, rfl, H0, l0', hd0, tp', ok', Lib.hid rfl⟩
          case round =>
            clear H0 l0' hd0 tp' ok'
            obtain ⟨k3, F, m, ns, hk3, rfl, H, l, hdis, tp, ok, hns⟩ := hrel
            have hnl : ns.length ≤ 64 := by
              have h1 := List.length_filter_le (isT t) (List.range k3)
              rw [hns.out, List.length_range] at h1
              omega
            by_cases hlt3' : k3 < 64
            · have hstep := blocksL_step t k3
              rw [hns.out] at hstep
              have hG := fun W (G : Nat → Prop) (hI : IsPile W g d B G m) => C.out.getH hI tp.out hkk ok.out k3 hlt3'
              have hnow : Hid (∀ W F m (L : List (Nat × TypeId × List Value)), TL w W g d B F m ([(w3.heap.size, 36, inL (isT (t))), (w2.heap.size + 1, 35, nowL (f)), (w2.heap.size, 32, p3L (t).root)]) → W.rangeAt (w2.heap.size + 1) (k3 * 128) (secL (f k3))) := Lib.hid fun W F m L h => now_range h.b1 hlt3'
              have ok1 := ok
              have ci : wr.cell? ⟨w3.heap.size, k3, none⟩ = some (.bool (isT t k3)) := by rw [H.out.T.b0.cell]; exact inL_get _ hlt3'
              have hli' := H.out.T.b0.lt
              generalize isT t k3 = ib at *
              have hG := Lib.hid hG
              cases ib
              · rw [if_neg (by decide), List.append_nil] at hstep
                go_wp2_with (first
                  | ((with_reducible refine n2Dst (some 161) (by rfl) ?_); refine wantList_load (by rfl) 32 _ rfl (w2.heap.size) 0 (by rfl) (p3L t.root) _ (rangeB H.out.T.b2) Try.underlying32 rfl (infoPtr _) ?_))
                refine (hG.out _ _ H.out.T.p.at_).mono ?_
                rintro e w8 ⟨m', F', rfl, tp', al', S'⟩
                have H8 := Lib.hid (H.out.turn S')
                have l8' := Lib.hid (l.out.turn S'.kept S'.grows)
                have ok' := Lib.hid (ok.out.alike al')
                have tp' := Lib.hid tp'
                have hN8 := Lib.hid (Blk.new w8 23 (secL sec0))
                clear S' al' hG H l
                have hsE : ∃ s, Hid (f k3 = s) := ⟨_, Lib.hid rfl⟩
                obtain ⟨s, hsE⟩ := hsE
                rw [hsE.out] at hnow ⊢
                have hq1 := hqS s
                go_upto_region 43 with ((with_reducible refine guardList ?_); refine tOper 21 (by rfl) ?_; refine wantList_store (by rfl) 23 _ _ rfl (w8.heap.size) 0 (by rfl) (secL (s)) (by rfl) _ (secL (sec0)) (secL (s)) (hN8.out) (by simp only [secL_length]; decide) (secL_one _) (infoSecL _) wholeSn ?_; intro w9 hR kk zz; have H9 := Lib.hid (H8.out.lay kk hR); have l9 := Lib.hid ((l8'.out.alloc _).over kk (.inr (.inr fun a ha => Nat.ne_of_lt (l8'.out.out a ha).1))); clear zz kk hR)
                have hq2 := hnow.out _ _ _ [] H9.out.drew.T.tail
                have hq3 := rangeN H9.out.drew.T.b0
                refine inO_region [(3, fun w' => w'.rangeAt (w8.heap.size) (0) (secL s)), (6, fun w' => w'.rangeAt (w2.heap.size + 1) (k3 * 128) (secL s))] (by kernel_rfl) (Owed.cons (hq3) (Owed.cons (hq2) (Owed.nil _ _))) ?_
                refine inO_take 0 ⟨_, _, _, _, _, _⟩ (.int .i64 0) rfl (by kernel_rfl) (by kernel_rfl) (by kernel_rfl) (fun _ _ _ h => h) rfl (fun ww => exec_move (by rfl) (by rfl) ww) ?_
                simp only [Act.put, List.setIfInBounds_toArray, List.set_cons_zero, List.set_cons_succ]
                refine inO_take 1 ⟨_, _, _, _, _, _⟩ (.bool false) rfl (by kernel_rfl) (by kernel_rfl) (by kernel_rfl) (fun _ _ _ h => h) rfl (fun ww => by go_simp) ?_
                simp only [Act.put, List.setIfInBounds_toArray, List.set_cons_zero, List.set_cons_succ]
                refine inO_take 2 ⟨_, _, _, _, _, _⟩ (.bool false) rfl (by kernel_rfl) (by kernel_rfl) (by kernel_rfl) (fun _ _ _ h => h) rfl (fun ww => exec_move (by rfl) (by rfl) ww) ?_
                simp only [Act.put, List.setIfInBounds_toArray, List.set_cons_zero, List.set_cons_succ]
                refine inO_load 3 ⟨_, _, _, _, _, _⟩ (.agg (secL s).toArray) (fun w' => w'.rangeAt (w8.heap.size) (0) (secL s)) rfl (by kernel_rfl) (by kernel_rfl) (by kernel_rfl) (fun _ _ _ h => h) rfl (.head _) (fun ww hw => exec_load_mid _ _ (by rfl) _ _ (by rfl) _ _ hw Try.underlying23 rfl (infoSecL _)) ?_
                simp only [Act.put, List.setIfInBounds_toArray, List.set_cons_zero, List.set_cons_succ]
                refine inO_take 4 ⟨_, _, _, _, _, _⟩ (.int .i64 (k3 : Int)) rfl (by kernel_rfl) (by kernel_rfl) (by kernel_rfl) (fun _ _ _ h => h) rfl (fun ww => exec_move (by rfl) (by rfl) ww) ?_
                simp only [Act.put, List.setIfInBounds_toArray, List.set_cons_zero, List.set_cons_succ]
                refine inO_take 5 ⟨_, _, _, _, _, _⟩ (.pointer (some ⟨w2.heap.size + 1, k3 * 128, none⟩)) rfl (by kernel_rfl) (by kernel_rfl) (by kernel_rfl) (fun _ _ _ h => h) rfl (fun ww => by go_simp <;> (intro hh; omega)) ?_
                simp only [Act.put, List.setIfInBounds_toArray, List.set_cons_zero, List.set_cons_succ]
                refine inO_load 6 ⟨_, _, _, _, _, _⟩ (.agg (secL s).toArray) (fun w' => w'.rangeAt (w2.heap.size + 1) (k3 * 128) (secL s)) rfl (by kernel_rfl) (by kernel_rfl) (by kernel_rfl) (fun _ _ _ h => h) rfl (.tail _ (.head _)) (fun ww hw => exec_load_mid _ _ (by rfl) _ _ (by rfl) _ _ hw Try.underlying23 rfl (infoSecL _)) ?_
                simp only [Act.put, List.setIfInBounds_toArray, List.set_cons_zero, List.set_cons_succ]
                refine inO_take 7 ⟨_, _, _, _, _, _⟩ (.bool false) rfl (by kernel_rfl) (by kernel_rfl) (by kernel_rfl) (fun _ _ _ h => h) rfl (fun ww => by go_simp) ?_
                simp only [Act.put, List.setIfInBounds_toArray, List.set_cons_zero, List.set_cons_succ]
                refine inO_take 8 ⟨_, _, _, _, _, _⟩ (.bool false) rfl (by kernel_rfl) (by kernel_rfl) (by kernel_rfl) (fun _ _ _ h => h) rfl (fun ww => by go_simp) ?_
                simp only [Act.put, List.setIfInBounds_toArray, List.set_cons_zero, List.set_cons_succ]
                refine inO_done (by kernel_rfl) ?_
                have HA := Lib.hid H9.out.drew.tail
                have lA := Lib.hid l9.out.drew
                clear H9 H8 l9 l8' hq2 hq3 hN8 hnow
                go_wp2
                go_roundw
                case rel => exact ⟨k3 + 1, F', m', ns, by omega, by go_num, HA, lA, hdis, tp', ok', Lib.hid hstep⟩
                case measure => simp [intOf] <;> omega
              · rw [if_pos rfl] at hstep
                go_wp2_with (first
                  | (at_builtin; refine wpList_pushN rfl (.tmp 155) (.tmp 157) 46 rfl w.heap.size 3 l0 _ 1 8 Try.underlying46 hli hl0 hl1 hl2 rfl (by decide) u19 _ _ wr (by rfl) H.out.rv 1 #[.int .i64 (k3 : Int)] (by rfl) (by rfl) (fun x hx => by simp only [List.mem_cons, List.not_mem_nil, or_false] at hx; subst hx; rfl) (by omega) (by omega) H.out.size ?_; intro v20 w20 ho hg hv; have H20 := Lib.hid (H.out.pushV (n' := (ns ++ [k3]).length) (c1' := (ns ++ [k3]).map fun i : Nat => Value.int .i64 (i : Int)) (by rw [List.map_append, List.length_append]; exact ho) hg); have kg := Kept.of_grown (F := fun k => u19.ownBlock = some k) hg.1 (fun k hk _ => hk); have l20 := Lib.hid (l.out.kept kg fun a ha => hdis.out a ha); have hd20 : Hid (∀ a, lo = some a → v20.ownBlock ≠ some a.block) := Lib.hid (fun a ha e => by rcases hg.2 with e2 | ⟨z, e2, hz⟩; (exact hdis.out a ha (by rw [← e2]; exact e)); (rw [e2] at e; have h1 := (l.out.out a ha).1; have h2 := Option.some.inj e; omega)); clear ho hg hv kg)
                  | ((with_reducible refine n2Dst (some 161) (by rfl) ?_); refine wantList_load (by rfl) 32 _ rfl (w2.heap.size) 0 (by rfl) (p3L t.root) _ (rangeB H20.out.T.b2) Try.underlying32 rfl (infoPtr _) ?_))
                clear H l hdis
                refine (hG.out _ _ H20.out.T.p.at_).mono ?_
                rintro e w8 ⟨m', F', rfl, tp', al', S'⟩
                have H8 := Lib.hid (H20.out.turn S')
                have l8' := Lib.hid (l20.out.turn S'.kept S'.grows)
                have ok' := Lib.hid (ok.out.alike al')
                have tp' := Lib.hid tp'
                have hN8 := Lib.hid (Blk.new w8 23 (secL sec0))
                clear S' al' hG H20 l20
                have hsE : ∃ s, Hid (f k3 = s) := ⟨_, Lib.hid rfl⟩
                obtain ⟨s, hsE⟩ := hsE
                rw [hsE.out] at hnow ⊢
                have hq1 := hqS s
                go_upto_region 43 with ((with_reducible refine guardList ?_); refine tOper 21 (by rfl) ?_; refine wantList_store (by rfl) 23 _ _ rfl (w8.heap.size) 0 (by rfl) (secL (s)) (by rfl) _ (secL (sec0)) (secL (s)) (hN8.out) (by simp only [secL_length]; decide) (secL_one _) (infoSecL _) wholeSn ?_; intro w9 hR kk zz; have H9 := Lib.hid (H8.out.lay kk hR); have l9 := Lib.hid ((l8'.out.alloc _).over kk (.inr (.inr fun a ha => Nat.ne_of_lt (l8'.out.out a ha).1))); clear zz kk hR)
                have hq2 := hnow.out _ _ _ [] H9.out.drew.T.tail
                have hq3 := rangeN H9.out.drew.T.b0
                refine inO_region [(3, fun w' => w'.rangeAt (w8.heap.size) (0) (secL s)), (6, fun w' => w'.rangeAt (w2.heap.size + 1) (k3 * 128) (secL s))] (by kernel_rfl) (Owed.cons (hq3) (Owed.cons (hq2) (Owed.nil _ _))) ?_
                refine inO_take 0 ⟨_, _, _, _, _, _⟩ (.int .i64 0) rfl (by kernel_rfl) (by kernel_rfl) (by kernel_rfl) (fun _ _ _ h => h) rfl (fun ww => exec_move (by rfl) (by rfl) ww) ?_
                simp only [Act.put, List.setIfInBounds_toArray, List.set_cons_zero, List.set_cons_succ]
                refine inO_take 1 ⟨_, _, _, _, _, _⟩ (.bool false) rfl (by kernel_rfl) (by kernel_rfl) (by kernel_rfl) (fun _ _ _ h => h) rfl (fun ww => by go_simp) ?_
                simp only [Act.put, List.setIfInBounds_toArray, List.set_cons_zero, List.set_cons_succ]
                refine inO_take 2 ⟨_, _, _, _, _, _⟩ (.bool false) rfl (by kernel_rfl) (by kernel_rfl) (by kernel_rfl) (fun _ _ _ h => h) rfl (fun ww => exec_move (by rfl) (by rfl) ww) ?_
                simp only [Act.put, List.setIfInBounds_toArray, List.set_cons_zero, List.set_cons_succ]
                refine inO_load 3 ⟨_, _, _, _, _, _⟩ (.agg (secL s).toArray) (fun w' => w'.rangeAt (w8.heap.size) (0) (secL s)) rfl (by kernel_rfl) (by kernel_rfl) (by kernel_rfl) (fun _ _ _ h => h) rfl (.head _) (fun ww hw => exec_load_mid _ _ (by rfl) _ _ (by rfl) _ _ hw Try.underlying23 rfl (infoSecL _)) ?_
                simp only [Act.put, List.setIfInBounds_toArray, List.set_cons_zero, List.set_cons_succ]
                refine inO_take 4 ⟨_, _, _, _, _, _⟩ (.int .i64 (k3 : Int)) rfl (by kernel_rfl) (by kernel_rfl) (by kernel_rfl) (fun _ _ _ h => h) rfl (fun ww => exec_move (by rfl) (by rfl) ww) ?_
                simp only [Act.put, List.setIfInBounds_toArray, List.set_cons_zero, List.set_cons_succ]
                refine inO_take 5 ⟨_, _, _, _, _, _⟩ (.pointer (some ⟨w2.heap.size + 1, k3 * 128, none⟩)) rfl (by kernel_rfl) (by kernel_rfl) (by kernel_rfl) (fun _ _ _ h => h) rfl (fun ww => by go_simp <;> (intro hh; omega)) ?_
                simp only [Act.put, List.setIfInBounds_toArray, List.set_cons_zero, List.set_cons_succ]
                refine inO_load 6 ⟨_, _, _, _, _, _⟩ (.agg (secL s).toArray) (fun w' => w'.rangeAt (w2.heap.size + 1) (k3 * 128) (secL s)) rfl (by kernel_rfl) (by kernel_rfl) (by kernel_rfl) (fun _ _ _ h => h) rfl (.tail _ (.head _)) (fun ww hw => exec_load_mid _ _ (by rfl) _ _ (by rfl) _ _ hw Try.underlying23 rfl (infoSecL _)) ?_
                simp only [Act.put, List.setIfInBounds_toArray, List.set_cons_zero, List.set_cons_succ]
                refine inO_take 7 ⟨_, _, _, _, _, _⟩ (.bool false) rfl (by kernel_rfl) (by kernel_rfl) (by kernel_rfl) (fun _ _ _ h => h) rfl (fun ww => by go_simp) ?_
                simp only [Act.put, List.setIfInBounds_toArray, List.set_cons_zero, List.set_cons_succ]
                refine inO_take 8 ⟨_, _, _, _, _, _⟩ (.bool false) rfl (by kernel_rfl) (by kernel_rfl) (by kernel_rfl) (fun _ _ _ h => h) rfl (fun ww => by go_simp) ?_
                simp only [Act.put, List.setIfInBounds_toArray, List.set_cons_zero, List.set_cons_succ]
                refine inO_done (by kernel_rfl) ?_
                have HA := Lib.hid H9.out.drew.tail
                have lA := Lib.hid l9.out.drew
                clear H9 H8 l9 l8' hq2 hq3 hN8 hnow
                go_wp2
                go_roundw
                case rel => exact ⟨k3 + 1, F', m', ns ++ [k3], by omega, by go_num, HA, lA, hd20, tp', ok', Lib.hid hstep⟩
                case measure => simp [intOf] <;> omega
            · obtain rfl : k3 = 64 := by omega
              have hfin : ns = t.blocksL := by rw [← hns.out]; exact blocksL_all t
              rw [hfin] at H
              obtain ⟨wo, wcap, rfl, hwr, _⟩ := rows_reads H.out.rv (by decide)
              have hS := SameInts_any lo wo lc wcap (t.blocksL.map fun i : Nat => (i : Int)) (t.blocksL.map fun i : Nat => (i : Int)) wr (Nums.of l.out.reads) (Nums.of hwr) (fits_blocks t) (fits_blocks t)
              rw [List.length_map, decide_eq_true rfl] at hS
              have hS := Lib.hid hS
              have hq := Lib.hid H.out.T.p.q
              clear hfin hwr
              go_wp2_with fail
              refine hS.out.mono ?_
              rintro e w9 ⟨rfl, b9⟩
              have hq9 := Lib.hid (hq.out.trans (b9.mono hq.out.size))
              clear b9
              go_wp2
              go_ret
              exact ⟨rfl, hq9.out⟩

theorem walk (ao : Option Addr) (as_ : List Act3) (cap : Nat) (at_ : Int) (w : World) (hacts : Acts3 w ao as_) (hl : as_.length ≤ 140737488351232) (hnil : ao = none → cap = 0) (hat : I64 at_) :
    Calls Try.prog 4 #[.slice ao as_.length cap, .int .i64 at_] w fun e w' => e = .returned (.bool true) ∧ Below w.heap.size w w' := walkC treeC ao as_ cap at_ w hacts hl hnil hat

theorem own : ownKnob Try.prog.godebug = none := by kernel_rfl
theorem laidOut : laidOutB Try.prog = true := by kernel_rfl

set_option maxRecDepth 100000 in
theorem lifted (os : Os) (started : os.Started) (H : Type) (enc : TypeId × Value → H) :
    ReturnsInHanded {} Try.checked os 4 .any (Rows.treeHoldsSpec.pre6 enc Try.prog Try.f4 Rows.treeHoldsRow.domain false) (Rows.treeHoldsSpec.post enc Try.prog Try.f4 false true false false) := by
  refine returnsInHanded_of_change_sized (C := Try.checked) own started (by kernel_rfl) Try.func4
    (ChangeSpec.witness6 (enc := enc) (C := Try.checked) false ⟨#[], #[.slice none 0 0, .int .i64 0], []⟩ 8 (by kernel_rfl) (by kernel_rfl) (by kernel_rfl) (by kernel_rfl)) ?_
  intro W base args ds gs before hval0 hW hcnd hsz0 _
  have hval : ∀ (j : Nat) t v, Try.f4.params[j]? = some t → args[j]? = some v → Value.okWide Try.prog W .any base t v := hval0
  have hsz : (DataW.weightsEach Try.prog (Try.f4.params.toList ++ Rows.treeHoldsSpec.plain.varTypes Try.prog) (ds ++ gs)).all (· ≤ reachBytes) = true := hsz0
  have hW' := hW
  obtain ⟨p, q, hA0, hV, rfl, hfz, hnd⟩ := hW
  have hA : DataW.TrodAll enc Try.prog W 0 (fun _ => true) true Try.f4.params.toList args.toList ds p := hA0
  rw [Try.params4] at hA hval hsz
  obtain ⟨v0, vs0, d0, ds0, p0, q0, hargs, rfl, rfl, h0, r0⟩ := trodAll_cons hA
  obtain ⟨v1, vs1, d1, ds1, p1, q1, rfl, rfl, rfl, h1, r1⟩ := trodAll_cons r0
  obtain ⟨rfl, rfl, rfl⟩ := trodAll_nil r1
  obtain rfl : args = #[v0, v1] := by cases args; simp_all
  obtain ⟨rfl, rfl⟩ := trodVars_none hV
  have k0 := h0
  have lt0 : ∀ x ∈ p0, x.block < W.heap.size := by obtain ⟨m, hm⟩ := k0; exact DataW.trod_lt m _ _ _ hm
  obtain ⟨ao0, a0, cap0, rfl, sp0, fi0, nl0⟩ := arg_acts11 h0 (hval 0 34 v0 rfl rfl) (light_arg hsz (j := 0) (t := 34) rfl rfl)
  obtain ⟨a1, rfl, rfl, rfl, wf1⟩ := open_int Try.underlying3 (hval 1 3 v1 rfl rfl) h1
  clear hA0 hval0 hsz0
  refine (walk ao0 a0 cap0 a1 W sp0 fi0 nl0 (wf_i64 wf1)).mono fun e W' ⟨he, bel⟩ => ?_
  subst he
  exact ⟨_, rfl, _, _, _, [], _, [], hW', trodAll_mk1 (shut_bool Try.underlying4 _), (trodAll_cons_mk (Below.trod laidOut (by kernel_rfl) (of_decide_eq_true (by kernel_rfl)) k0 bel lt0) (trodAll_cons_mk (shut_int Try.underlying3 wf1) trodAll_mk0)), rfl, bel.frame _, fun h => by cases h⟩

theorem proved : Rows.TreeHoldsSaid :=
  OpenClaim.holds_of_wide 4 Try.f4 rfl rfl rfl rfl rfl rfl rfl ⟨rfl, rfl, rfl, rfl, rfl⟩ rfl rfl rfl rfl rfl (by kernel_rfl) Try.func4 (by kernel_rfl)
    (of_decide_eq_true (by kernel_rfl)) (by unfold Func.isWrapper; first | (rw [if_pos (by decide +kernel)]; kernel_rfl) | (rw [if_neg (by decide +kernel)]; exact ⟨rfl, rfl⟩))
    (fun os started H enc _ => lifted os started H enc)
end Go.Proofs.Ytgdefibkemkejaa.lawTreeHolds
