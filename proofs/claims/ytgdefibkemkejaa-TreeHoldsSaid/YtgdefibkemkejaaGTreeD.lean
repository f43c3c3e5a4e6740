/- TreeD: the texts TreeX, one behind the other. -/
import Derived.Test.YtgdefibkemkejaaGTreeC
import Derived.WalkMore
/- walk of the program's tree, handed the function of All or of Blocks. -/
namespace Go.Proofs.Ytgdefibkemkejaa
open Go.ChangeShapes Go.WideShapes Go.ChangeAt Go.RowKit Go.Deep
set_option linter.unusedVariables false
set_option maxRecDepth 100000
set_option linter.unusedSimpArgs false

set_option maxHeartbeats 16000000 in
theorem tWalk_blocks {w : World} {g d B : Nat} {F : Nat → Prop} {m : PileM} {n kk c : Nat} {t : Tree} {f : Nat → Sec} (h : IsPile w g d B F m) (hp : TP m n kk c) (ok : TreeOk m n t f) (P : P3 → Bool)
    (hw : ∀ (W : World) (q : P3), Kept F w W → q.Fit → Calls Try.prog 37 #[.agg (p3L q).toArray] W fun e w' => e = .returned (.bool (P q)) ∧ Below W.heap.size W w') :
    Calls Try.prog 36 #[.pointer (some ⟨g, 0, none⟩), .agg (p3L t.root).toArray, .func (.func 37) #[] #[]] w fun e w' => ∃ m' v u F', e = .returned (.tuple #[v, u, .int .i64 0]) ∧ TP m' n kk c ∧ Alike m m' ∧ PStep w g d B F F' m' w' ∧ LP w w' F' v (t.metL P) ∧ LI w w' F' u (t.reachUp P 64) := by
  have hfr : t.root.Fit := (ok.top.right hp).2
  have hfm : Hid (∀ k, k < 8 → (t.a.get k).Fit) := Lib.hid fun k hk => ((ok.mid k hk).right hp).2
  have hfl : Hid (∀ i, i < 64 → (t.leaf i).Fit) := Lib.hid fun i hi => ((ok.leaf i hi).right hp).2
  have hLr : Hid (∀ m', Alike m m' → TP m' n kk c → ∃ m2, (∀ W (G : Nat → Prop), IsPile W g d B G m' → Calls Try.prog 43 #[.pointer (some ⟨g, 0, none⟩), .agg (p3L t.root).toArray] W fun e w' => e = .returned (.tuple #[.agg (p8L t.a).toArray, .int .i64 0]) ∧ PTurned W g d B G m2 w') ∧ TP m2 n kk c ∧ Alike m m2) := Lib.hid fun m' a' p' => by
    have ok' := ok.alike a'
    obtain ⟨m2, e2, p2, a2⟩ := ok'.top.get p'
    exact ⟨m2, fun W G hW => tLoad_ok hW (ok'.top.right p').2 e2 (ok'.aRead p'), p2, a'.trans a2⟩
  have hLm : Hid (∀ k, k < 8 → ∀ m', Alike m m' → TP m' n kk c → ∃ m2, (∀ W (G : Nat → Prop), IsPile W g d B G m' → Calls Try.prog 43 #[.pointer (some ⟨g, 0, none⟩), .agg (p3L (t.a.get k)).toArray] W fun e w' => e = .returned (.tuple #[.agg (p8L (t.c k)).toArray, .int .i64 0]) ∧ PTurned W g d B G m2 w') ∧ TP m2 n kk c ∧ Alike m m2) := Lib.hid fun k hk m' a' p' => by
    have ok' := ok.alike a'
    obtain ⟨m2, e2, p2, a2⟩ := (ok'.mid k hk).get p'
    exact ⟨m2, fun W G hW => tLoad_ok hW ((ok'.mid k hk).right p').2 e2 (ok'.cRead p' hk), p2, a'.trans a2⟩
  have hp := Lib.hid hp
  have hw := Lib.hid hw
  clear ok
  obtain ⟨wb, hwb, T⟩ := ((CL.start h).box 32 (p3L t.root)).named
  have h := Lib.hid h
  have hz := zeroOn
  have hz8 := zeroP8
  have hN := Lib.hid (Blk.new wb 110 (onL holesP holesP holesP))
  have hN1 : Hid (wb.heap.size = w.heap.size + 1) := Lib.hid (by rw [hwb.out]; simp)
  go_enter Try.func36, Try.ntmps36
  go_upto_region 1 with (fail)
  rw [← hwb.out]
  go_wp2_with (first
    | ((with_reducible refine n2Dst (some 18) (by rfl) ?_); refine wantList_load (by rfl) 32 _ rfl (w.heap.size) (0) (by rfl) (p3L (t.root)) _ (rangeN T.out.b0) Try.underlying32 rfl (infoPtr _) ?_)
    | ((with_reducible refine n2Dst (some 19) (by rfl) ?_); refine wantList_build (by rfl) 66 [(0, .tmp 18)] rfl (p8L (holesP.set 0 t.root)) _ (by rfl) (builtRow _) ?_)
    | ((with_reducible refine n2Dst (some 20) (by rfl) ?_); refine wantList_build (by rfl) 110 [(0, .tmp 19)] rfl (onL (holesP.set 0 t.root) holesP holesP) _ (by rfl) (builtOn _) ?_)
    | ((with_reducible refine guardList ?_); refine tOper 11 (by rfl) ?_; refine wantList_store (by rfl) 110 _ _ rfl (wb.heap.size) 0 (by rfl) (onL (holesP.set 0 t.root) holesP holesP) (by rfl) _ (onL holesP holesP holesP) (onL (holesP.set 0 t.root) holesP holesP) (hN.out) (by simp only [onL_length]; decide) (onL_one _ _ _) (infoOn _ _ _) wholeOn ?_; intro w1 hR kk zz; have T1 := Lib.hid ((T.out.lay kk hR)); clear zz kk hR)
    | go_step3)
  obtain ⟨j0, hj0, hy0, hy1, hy2⟩ := info_parts infoPtr4
  obtain ⟨i0, hi0, hx0', hx1', hx2'⟩ := info_parts infoInt4
  have K0 := Lib.hid (WK.first T1.out.only)
  have hms : Hid (∀ i, t.metUp P (i + 1) = t.metUp P i ++ if P t.root then (if i = 0 then [t.root] else []) ++ (if P (t.a.get (i / 8)) then (if i % 8 = 0 then [t.a.get (i / 8)] else []) ++ (if P ((t.c (i / 8)).get (i % 8)) then [(t.c (i / 8)).get (i % 8)] else []) else []) else []) := Lib.hid fun i => metUp_succ t P i
  have hrs : Hid (∀ i, t.reachUp P (i + 1) = t.reachUp P i ++ if P t.root && (P (t.a.get (i / 8)) && P ((t.c (i / 8)).get (i % 8))) then [i] else []) := Lib.hid fun i => reachUp_succ t P i
  have hml : Hid (∀ i, (t.metUp P i).length ≤ 3 * i) := Lib.hid fun i => metUp_len t P i
  have hrl : Hid (∀ i, (t.reachUp P i).length ≤ i) := Lib.hid fun i => reachUp_len t P i
  have hfl2 : Hid (∀ i, i < 64 → ((t.c (i / 8)).get (i % 8)).Fit) := Lib.hid fun i hi => hfl.out i hi
  have hfr := Lib.hid hfr
  have hM0 : Hid (t.metUp P 0 = []) := Lib.hid rfl
  have hR0 : Hid (t.reachUp P 0 = []) := Lib.hid rfl
  have a0 := Lib.hid (Alike.refl m)
  clear hfl hz hz8 hN T T1
  have hb0 := below_0
  have hb1 := below_1
  have hb2 := below_2
  generalize t.root = r at *
  generalize t.a = A at *
  go_loopw [9, 10, 21] (fun v u iv wr => ∃ (i : Nat) (F' : Nat → Prop) (m' : PileM) (x1 x2 : P8) (qs : List P3) (ns : List Nat), i ≤ 64 ∧ iv = .int .i64 i ∧ Hid (WK w wr g d B F F' m' [(wb.heap.size, 110, onL (holesP.set 0 r) x1 x2)] v qs u ns) ∧ Hid (TP m' n kk c) ∧ Hid (Alike m m') ∧ Hid (t.metUp P i = qs) ∧ Hid (t.reachUp P i = ns) ∧ Hid (0 < i → P r = true → x1 = A) ∧ Hid (0 < i % 8 → P r = true → P (A.get (i / 8)) = true → x2 = t.c (i / 8)))
    (fun _ _ iv _ => 64 - (intOf iv).toNat)
  case atStart => exact ⟨0, F, m, holesP, holesP, [], [], by omega, rfl, K0, hp, a0, hM0, hR0, Lib.hid fun h => absurd h (by decide), Lib.hid fun h => absurd h (by decide)⟩
  case round =>
    clear K0 hp a0 hM0 hR0
    obtain ⟨i, F', m', x1, x2, qs, ns, hi64, rfl, K, tp, al, hqs, hns, hx1, hx2⟩ := hrel
    by_cases hlt : i < 64
    · have hql : Hid (qs.length ≤ 192) := Lib.hid (by have := hml.out i; rw [hqs.out] at this; omega)
      have hnl : Hid (ns.length ≤ 64) := Lib.hid (by have := hrl.out i; rw [hns.out] at this; omega)
      have hm1 := hms.out i
      have hr1 := hrs.out i
      rw [hqs.out] at hm1
      rw [hns.out] at hr1
      have hk8 : Hid (i / 8 < 8) := Lib.hid (by omega)
      have hj8 : Hid (i % 8 < 8) := Lib.hid (by omega)
      have hfmd := Lib.hid (hfm.out (i / 8) hk8.out)
      have hflf := Lib.hid (hfl2.out i hlt)
      have hLm1 := Lib.hid (hLm.out (i / 8) hk8.out)
      have e64 : Hid ((i : Int) / 64 = 0) := Lib.hid (by omega)
      have e8 : Hid ((i : Int) / 8 = ((i / 8 : Nat) : Int)) := Lib.hid (by omega)
      have ek : Hid (((i / 8 : Nat) : Int) % 8 = ((i / 8 : Nat) : Int)) := Lib.hid (by omega)
      have ej : Hid ((i : Int) % 8 = ((i % 8 : Nat) : Int)) := Lib.hid (by omega)
      have hn8 : Hid (0 < (i + 1) % 8 → (i + 1) / 8 = i / 8) := Lib.hid (by omega)
      generalize hC : t.c (i / 8) = C at *
      have hC := Lib.hid hC
      generalize i / 8 = k at *
      generalize i % 8 = j at *
      have hm1 := Lib.hid hm1
      have hr1 := Lib.hid hr1
      clear hms hrs hml hrl hfm hfl2 hLm hi64
      go_wp2
      refine wp_loop_rounds 4 ?_
      cases hPr' : P (r) with
      | false =>
        have hPr := Lib.hid hPr'
        clear hPr'
        rw [rounds_succ]
        go_wp2
        have K0a := Lib.hid K.out.drew
        refine inO_region [(7, fun w' => w'.rangeAt (wb.heap.size) (0) (p3L (r)))] (by kernel_rfl) (Owed.cons (on_r (K0a.out.T.b0)) (Owed.nil _ _)) ?_
        refine inO_take 0 ⟨_, _, _, _, _, _⟩ (.int .i64 0) rfl (by kernel_rfl) (by kernel_rfl) (by kernel_rfl) (fun _ _ _ h => h) rfl (fun ww => exec_move (by rfl) (by rfl) ww) ?_
        simp only [Act.put, List.setIfInBounds_toArray, List.set_cons_zero, List.set_cons_succ]
        refine inO_take 1 ⟨_, _, _, _, _, _⟩ (.int .i64 (i : Int)) rfl (by kernel_rfl) (by kernel_rfl) (by kernel_rfl) (fun _ _ _ h => h) rfl (fun ww => exec_move (by rfl) (by rfl) ww) ?_
        simp only [Act.put, List.setIfInBounds_toArray, List.set_cons_zero, List.set_cons_succ]
        refine inO_take 2 ⟨_, _, _, _, _, _⟩ (.int .i64 64) rfl (by kernel_rfl) (by kernel_rfl) (by kernel_rfl) (fun _ _ _ h => h) rfl (fun ww => exec_move (by rfl) (by rfl) ww) ?_
        simp only [Act.put, List.setIfInBounds_toArray, List.set_cons_zero, List.set_cons_succ]
        refine inO_take 3 ⟨_, _, _, _, _, _⟩ (.int .i64 0) rfl (by kernel_rfl) (by kernel_rfl) (by kernel_rfl) (fun _ _ _ h => h) rfl (fun ww => by have e := e64.out; go_simp <;> (rw [IntKind.wrap_i64]; omega)) ?_
        simp only [Act.put, List.setIfInBounds_toArray, List.set_cons_zero, List.set_cons_succ]
        refine inO_take 4 ⟨_, _, _, _, _, _⟩ (.int .i64 0) rfl (by kernel_rfl) (by kernel_rfl) (by kernel_rfl) (fun _ _ _ h => h) rfl (fun ww => by go_simp) ?_
        simp only [Act.put, List.setIfInBounds_toArray, List.set_cons_zero, List.set_cons_succ]
        refine inO_take 5 ⟨_, _, _, _, _, _⟩ (.pointer (some ⟨wb.heap.size, 0, none⟩)) rfl (by kernel_rfl) (by kernel_rfl) (by kernel_rfl) (fun _ _ _ h => h) rfl (fun ww => by go_simp) ?_
        simp only [Act.put, List.setIfInBounds_toArray, List.set_cons_zero, List.set_cons_succ]
        refine inO_take 6 ⟨_, _, _, _, _, _⟩ (.pointer (some ⟨wb.heap.size, 0, none⟩)) rfl (by kernel_rfl) (by kernel_rfl) (by kernel_rfl) (fun _ _ _ h => h) rfl (fun ww => by go_simp) ?_
        simp only [Act.put, List.setIfInBounds_toArray, List.set_cons_zero, List.set_cons_succ]
        refine inO_load 7 ⟨_, _, _, _, _, _⟩ (.agg (p3L (r)).toArray) (fun w' => w'.rangeAt (wb.heap.size) (0) (p3L (r))) rfl (by kernel_rfl) (by kernel_rfl) (by kernel_rfl) (fun _ _ _ h => h) rfl (.head _) (fun ww hw => exec_load_mid _ _ (by rfl) _ _ (by rfl) _ _ hw Try.underlying32 rfl (infoPtr _)) ?_
        simp only [Act.put, List.setIfInBounds_toArray, List.set_cons_zero, List.set_cons_succ]
        refine inO_step 8 ⟨_, _, _, _, _, _⟩ rfl (by kernel_rfl) rfl (fun K hK => ?_)
        refine wp_newPtr rfl ?_
        have K0b := Lib.hid (K0a.out.box 32 (p3L p3z))
        refine hK _ _ (Keeps.cons (fun hh j v hv => cell_alloc (hh j v hv) _) (Keeps.nil _ _ _)) ?_
        clear hK K
        simp only [Act.put, List.setIfInBounds_toArray, List.set_cons_zero, List.set_cons_succ]
        refine inO_step 9 ⟨_, _, _, _, _, _⟩ rfl (by kernel_rfl) rfl (fun K hK => ?_)
        refine wp_store_blk 32 _ _ rfl (wr.drew.heap.size) 0 (by rfl) (p3L (r)) (by rfl) 32 (p3L p3z) (p3L (r)) K0b.out.T.b0 (Nat.le_of_eq rfl) (p3L_one _) (infoPtr _) (whole_new rfl) fun wc0 h14 k14 z14 => ?_
        have K0c := Lib.hid (K0b.out.over k14 h14)
        clear h14 k14 z14
        refine hK _ _ (Keeps.late (by kernel_rfl) (Keeps.nil _ _ _)) ?_
        clear hK K
        simp only [Act.put]
        refine inO_done (by kernel_rfl) ?_
        obtain ⟨xb0, hxb⟩ : ∃ xb, Hid (xb = wr.drew.heap.size) := ⟨_, Lib.hid rfl⟩
        rw [← hxb.out] at K0c ⊢
        clear K0a K0b hxb K
        go_wp2_with (first
          | ((with_reducible refine n2Dst (some 38) (by rfl) ?_); refine wantList_load (by rfl) 32 _ rfl (xb0) (0) (by rfl) (p3L (r)) _ (rangeN K0c.out.T.b0) Try.underlying32 rfl (infoPtr _) ?_))
        have hC := hw.out wc0 (r) K0c.out.T.p.kept hfr.out
        rw [hPr.out] at hC
        refine hC.mono ?_
        rintro e wd0 ⟨rfl, b15⟩
        have K0d := Lib.hid (K0c.out.below b15)
        clear b15 K0c hC
        have KE := Lib.hid K0d.out.tail
        clear K0d
        have hm2 : Hid (t.metUp P (i + 1) = qs) := Lib.hid (by rw [hm1.out]; simp [hPr.out])
        have hr2 : Hid (t.reachUp P (i + 1) = ns) := Lib.hid (by rw [hr1.out]; simp [hPr.out])
        clear hm1 hr1
        go_wp2
        go_roundw
        case rel => exact ⟨i + 1, _, m', x1, x2, qs, ns, by omega, by go_num, KE, tp, al, hm2, hr2, Lib.hid (fun _ h => absurd h (by rw [hPr.out]; decide)), Lib.hid (fun _ h => absurd h (by rw [hPr.out]; decide))⟩
        case measure => simp [intOf] <;> omega
      | true =>
        have hPr := Lib.hid hPr'
        clear hPr'
        by_cases hi0 : i = 0
        · have hz0 : Hid (i = 0) := Lib.hid hi0
          clear hi0
          rw [rounds_succ]
          go_wp2
          have K0a := Lib.hid K.out.drew
          refine inO_region [(7, fun w' => w'.rangeAt (wb.heap.size) (0) (p3L (r)))] (by kernel_rfl) (Owed.cons (on_r (K0a.out.T.b0)) (Owed.nil _ _)) ?_
          refine inO_take 0 ⟨_, _, _, _, _, _⟩ (.int .i64 0) rfl (by kernel_rfl) (by kernel_rfl) (by kernel_rfl) (fun _ _ _ h => h) rfl (fun ww => exec_move (by rfl) (by rfl) ww) ?_
          simp only [Act.put, List.setIfInBounds_toArray, List.set_cons_zero, List.set_cons_succ]
          refine inO_take 1 ⟨_, _, _, _, _, _⟩ (.int .i64 (i : Int)) rfl (by kernel_rfl) (by kernel_rfl) (by kernel_rfl) (fun _ _ _ h => h) rfl (fun ww => exec_move (by rfl) (by rfl) ww) ?_
          simp only [Act.put, List.setIfInBounds_toArray, List.set_cons_zero, List.set_cons_succ]
          refine inO_take 2 ⟨_, _, _, _, _, _⟩ (.int .i64 64) rfl (by kernel_rfl) (by kernel_rfl) (by kernel_rfl) (fun _ _ _ h => h) rfl (fun ww => exec_move (by rfl) (by rfl) ww) ?_
          simp only [Act.put, List.setIfInBounds_toArray, List.set_cons_zero, List.set_cons_succ]
          refine inO_take 3 ⟨_, _, _, _, _, _⟩ (.int .i64 0) rfl (by kernel_rfl) (by kernel_rfl) (by kernel_rfl) (fun _ _ _ h => h) rfl (fun ww => by have e := e64.out; go_simp <;> (rw [IntKind.wrap_i64]; omega)) ?_
          simp only [Act.put, List.setIfInBounds_toArray, List.set_cons_zero, List.set_cons_succ]
          refine inO_take 4 ⟨_, _, _, _, _, _⟩ (.int .i64 0) rfl (by kernel_rfl) (by kernel_rfl) (by kernel_rfl) (fun _ _ _ h => h) rfl (fun ww => by go_simp) ?_
          simp only [Act.put, List.setIfInBounds_toArray, List.set_cons_zero, List.set_cons_succ]
          refine inO_take 5 ⟨_, _, _, _, _, _⟩ (.pointer (some ⟨wb.heap.size, 0, none⟩)) rfl (by kernel_rfl) (by kernel_rfl) (by kernel_rfl) (fun _ _ _ h => h) rfl (fun ww => by go_simp) ?_
          simp only [Act.put, List.setIfInBounds_toArray, List.set_cons_zero, List.set_cons_succ]
          refine inO_take 6 ⟨_, _, _, _, _, _⟩ (.pointer (some ⟨wb.heap.size, 0, none⟩)) rfl (by kernel_rfl) (by kernel_rfl) (by kernel_rfl) (fun _ _ _ h => h) rfl (fun ww => by go_simp) ?_
          simp only [Act.put, List.setIfInBounds_toArray, List.set_cons_zero, List.set_cons_succ]
          refine inO_load 7 ⟨_, _, _, _, _, _⟩ (.agg (p3L (r)).toArray) (fun w' => w'.rangeAt (wb.heap.size) (0) (p3L (r))) rfl (by kernel_rfl) (by kernel_rfl) (by kernel_rfl) (fun _ _ _ h => h) rfl (.head _) (fun ww hw => exec_load_mid _ _ (by rfl) _ _ (by rfl) _ _ hw Try.underlying32 rfl (infoPtr _)) ?_
          simp only [Act.put, List.setIfInBounds_toArray, List.set_cons_zero, List.set_cons_succ]
          refine inO_step 8 ⟨_, _, _, _, _, _⟩ rfl (by kernel_rfl) rfl (fun K hK => ?_)
          refine wp_newPtr rfl ?_
          have K0b := Lib.hid (K0a.out.box 32 (p3L p3z))
          refine hK _ _ (Keeps.cons (fun hh j v hv => cell_alloc (hh j v hv) _) (Keeps.nil _ _ _)) ?_
          clear hK K
          simp only [Act.put, List.setIfInBounds_toArray, List.set_cons_zero, List.set_cons_succ]
          refine inO_step 9 ⟨_, _, _, _, _, _⟩ rfl (by kernel_rfl) rfl (fun K hK => ?_)
          refine wp_store_blk 32 _ _ rfl (wr.drew.heap.size) 0 (by rfl) (p3L (r)) (by rfl) 32 (p3L p3z) (p3L (r)) K0b.out.T.b0 (Nat.le_of_eq rfl) (p3L_one _) (infoPtr _) (whole_new rfl) fun wc0 h14 k14 z14 => ?_
          have K0c := Lib.hid (K0b.out.over k14 h14)
          clear h14 k14 z14
          refine hK _ _ (Keeps.late (by kernel_rfl) (Keeps.nil _ _ _)) ?_
          clear hK K
          simp only [Act.put]
          refine inO_done (by kernel_rfl) ?_
          obtain ⟨xb0, hxb⟩ : ∃ xb, Hid (xb = wr.drew.heap.size) := ⟨_, Lib.hid rfl⟩
          rw [← hxb.out] at K0c ⊢
          clear K0a K0b hxb K
          go_wp2_with (first
            | ((with_reducible refine n2Dst (some 38) (by rfl) ?_); refine wantList_load (by rfl) 32 _ rfl (xb0) (0) (by rfl) (p3L (r)) _ (rangeN K0c.out.T.b0) Try.underlying32 rfl (infoPtr _) ?_))
          have hC := hw.out wc0 (r) K0c.out.T.p.kept hfr.out
          rw [hPr.out] at hC
          refine hC.mono ?_
          rintro e wd0 ⟨rfl, b15⟩
          have K0d := Lib.hid (K0c.out.below b15)
          clear b15 K0c hC
          have hrem : (i : Int) % 64 = 0 := by have := hz0.out; omega
          go_wp2_with (first
            | ((with_reducible refine n2Dst (some 46) (by rfl) ?_); refine wantList_load (by rfl) 32 _ rfl (xb0) (0) (by rfl) (p3L (r)) _ (rangeN K0d.out.T.b0) Try.underlying32 rfl (infoPtr _) ?_)
            | ((with_reducible refine n2Dst (some 47) (by rfl) ?_); refine wpList_bsP (by rfl) (.tmp 46) rfl (r) (by rfl) ?_)
            | (at_builtin; refine wpList_pushN rfl (.tmp 45) (.tmp 47) 37 rfl w.heap.size 32 j0 _ 3 24 Try.underlying37 hj0 hy0 hy1 hy2 rfl (by decide) u9 _ _ wd0 (by rfl) K0d.out.rv 1 (p3L (r)).toArray (by rfl) (by rfl) (p3L_one _) (by have := hql.out; (try simp only [List.length_append, List.length_cons, List.length_nil]); omega) (by have := hql.out; (try simp only [List.length_append, List.length_cons, List.length_nil]); omega) K0d.out.T.size ?_; intro v0 we0 ho hg hv; have K0e := Lib.hid (K0d.out.pushV (r) ho hg); clear ho hg hv)
            | ((with_reducible refine n2Dst (some 54) (by rfl) ?_); refine wantList_load (by rfl) 32 _ rfl (xb0) (0) (by rfl) (p3L (r)) _ (rangeN K0e.out.T.b0) Try.underlying32 rfl (infoPtr _) ?_))
          obtain ⟨m0, hLd, p0, a0⟩ := hLr.out m' al.out tp.out
          have hLd := Lib.hid hLd
          have p0 := Lib.hid p0
          have a0 := Lib.hid a0
          refine (hLd.out _ _ K0e.out.T.p.at_).mono ?_
          rintro e wf0 ⟨rfl, F0, S0⟩
          have K0f := Lib.hid (K0e.out.turn S0)
          have hN := Lib.hid (Blk.new wf0 66 (p8L holesP))
          clear S0 hLd K0d K0e
          go_wp2_with (first
            | ((with_reducible refine guardList ?_); refine tOper 16 (by rfl) ?_; refine wantList_store (by rfl) 66 _ _ rfl (wf0.heap.size) 0 (by rfl) (p8L (A)) (by rfl) _ (p8L (holesP)) (p8L (A)) (hN.out) (by simp only [p8L_length]; decide) (p8L_one _) (infoP8 _) wholeP8 ?_; intro wg0 hR kk zz; have K0g := Lib.hid (K0f.out.lay kk hR); clear zz kk hR)
            | ((with_reducible refine n2Dst (some 63) (by rfl) ?_); refine wantList_load (by rfl) 66 _ rfl (wf0.heap.size) (0) (by rfl) (p8L (A)) _ (rangeN K0g.out.T.b0) Try.underlying66 rfl (infoP8 _) ?_)
            | ((with_reducible refine guardList ?_); refine tOper 64 (by rfl) ?_; refine wantList_store (by rfl) 66 _ _ rfl (wb.heap.size) (24) (by rfl) (p8L (A)) (by rfl) _ (onL (holesP.set 0 r) (x1) (x2)) (onL (holesP.set 0 r) (A) (x2)) (K0g.out.T.b2) (by simp only [p8L_length, onL_length]; decide) (p8L_one _) (infoP8 _) (on_setY A) ?_; intro wh0 hR kk zz; have K0h := Lib.hid ((K0g.out.rot.over kk hR).only); clear zz kk hR))
          clear K0f K0g hN
          clear hrem
          cases hPm' : P (A.get k) with
          | false =>
            have hPm := Lib.hid hPm'
            clear hPm'
            rw [rounds_succ]
            go_wp2
            have K1a := Lib.hid K0h.out.drew
            refine inO_region [(7, fun w' => w'.rangeAt (wb.heap.size) (24 + k * 3) (p3L (A.get k)))] (by kernel_rfl) (Owed.cons (on_y (K1a.out.T.b0) hk8.out) (Owed.nil _ _)) ?_
            refine inO_take 0 ⟨_, _, _, _, _, _⟩ (.int .i64 1) rfl (by kernel_rfl) (by kernel_rfl) (by kernel_rfl) (fun _ _ _ h => h) rfl (fun ww => exec_move (by rfl) (by rfl) ww) ?_
            simp only [Act.put, List.setIfInBounds_toArray, List.set_cons_zero, List.set_cons_succ]
            refine inO_take 1 ⟨_, _, _, _, _, _⟩ (.int .i64 (i : Int)) rfl (by kernel_rfl) (by kernel_rfl) (by kernel_rfl) (fun _ _ _ h => h) rfl (fun ww => exec_move (by rfl) (by rfl) ww) ?_
            simp only [Act.put, List.setIfInBounds_toArray, List.set_cons_zero, List.set_cons_succ]
            refine inO_take 2 ⟨_, _, _, _, _, _⟩ (.int .i64 8) rfl (by kernel_rfl) (by kernel_rfl) (by kernel_rfl) (fun _ _ _ h => h) rfl (fun ww => exec_move (by rfl) (by rfl) ww) ?_
            simp only [Act.put, List.setIfInBounds_toArray, List.set_cons_zero, List.set_cons_succ]
            refine inO_take 3 ⟨_, _, _, _, _, _⟩ (.int .i64 (k : Int)) rfl (by kernel_rfl) (by kernel_rfl) (by kernel_rfl) (fun _ _ _ h => h) rfl (fun ww => by have e := e8.out; have := hk8.out; go_simp <;> (rw [IntKind.wrap_i64]; omega)) ?_
            simp only [Act.put, List.setIfInBounds_toArray, List.set_cons_zero, List.set_cons_succ]
            refine inO_take 4 ⟨_, _, _, _, _, _⟩ (.int .i64 (k : Int)) rfl (by kernel_rfl) (by kernel_rfl) (by kernel_rfl) (fun _ _ _ h => h) rfl (fun ww => by have e := ek.out; have h8 := hk8.out; go_simp <;> (rw [Int.tmod_eq_emod_of_nonneg (by omega)]; omega)) ?_
            simp only [Act.put, List.setIfInBounds_toArray, List.set_cons_zero, List.set_cons_succ]
            refine inO_take 5 ⟨_, _, _, _, _, _⟩ (.pointer (some ⟨wb.heap.size, 24, none⟩)) rfl (by kernel_rfl) (by kernel_rfl) (by kernel_rfl) (fun _ _ _ h => h) rfl (fun ww => by go_simp) ?_
            simp only [Act.put, List.setIfInBounds_toArray, List.set_cons_zero, List.set_cons_succ]
            refine inO_take 6 ⟨_, _, _, _, _, _⟩ (.pointer (some ⟨wb.heap.size, 24 + k * 3, none⟩)) rfl (by kernel_rfl) (by kernel_rfl) (by kernel_rfl) (fun _ _ _ h => h) rfl (fun ww => by go_simp; intro hh; have := hk8.out; omega) ?_
            simp only [Act.put, List.setIfInBounds_toArray, List.set_cons_zero, List.set_cons_succ]
            refine inO_load 7 ⟨_, _, _, _, _, _⟩ (.agg (p3L (A.get k)).toArray) (fun w' => w'.rangeAt (wb.heap.size) (24 + k * 3) (p3L (A.get k))) rfl (by kernel_rfl) (by kernel_rfl) (by kernel_rfl) (fun _ _ _ h => h) rfl (.head _) (fun ww hw => exec_load_mid _ _ (by rfl) _ _ (by rfl) _ _ hw Try.underlying32 rfl (infoPtr _)) ?_
            simp only [Act.put, List.setIfInBounds_toArray, List.set_cons_zero, List.set_cons_succ]
            refine inO_step 8 ⟨_, _, _, _, _, _⟩ rfl (by kernel_rfl) rfl (fun K hK => ?_)
            refine wp_newPtr rfl ?_
            have K1b := Lib.hid (K1a.out.box 32 (p3L p3z))
            refine hK _ _ (Keeps.cons (fun hh j v hv => cell_alloc (hh j v hv) _) (Keeps.nil _ _ _)) ?_
            clear hK K
            simp only [Act.put, List.setIfInBounds_toArray, List.set_cons_zero, List.set_cons_succ]
            refine inO_step 9 ⟨_, _, _, _, _, _⟩ rfl (by kernel_rfl) rfl (fun K hK => ?_)
            refine wp_store_blk 32 _ _ rfl (wh0.drew.heap.size) 0 (by rfl) (p3L (A.get k)) (by rfl) 32 (p3L p3z) (p3L (A.get k)) K1b.out.T.b0 (Nat.le_of_eq rfl) (p3L_one _) (infoPtr _) (whole_new rfl) fun wc1 h14 k14 z14 => ?_
            have K1c := Lib.hid (K1b.out.over k14 h14)
            clear h14 k14 z14
            refine hK _ _ (Keeps.late (by kernel_rfl) (Keeps.nil _ _ _)) ?_
            clear hK K
            simp only [Act.put]
            refine inO_done (by kernel_rfl) ?_
            obtain ⟨xb1, hxb⟩ : ∃ xb, Hid (xb = wh0.drew.heap.size) := ⟨_, Lib.hid rfl⟩
            rw [← hxb.out] at K1c ⊢
            clear K1a K1b hxb K0h
            go_wp2_with (first
              | ((with_reducible refine n2Dst (some 38) (by rfl) ?_); refine wantList_load (by rfl) 32 _ rfl (xb1) (0) (by rfl) (p3L (A.get k)) _ (rangeN K1c.out.T.b0) Try.underlying32 rfl (infoPtr _) ?_))
            have hC := hw.out wc1 (A.get k) K1c.out.T.p.kept hfmd.out
            rw [hPm.out] at hC
            refine hC.mono ?_
            rintro e wd1 ⟨rfl, b15⟩
            have K1d := Lib.hid (K1c.out.below b15)
            clear b15 K1c hC
            have KE := Lib.hid K1d.out.tail
            clear K1d
            have hm2 : Hid (t.metUp P (i + 1) = qs ++ [r]) := Lib.hid (by rw [hm1.out]; simp [hPr.out, if_pos hz0.out, hPm.out])
            have hr2 : Hid (t.reachUp P (i + 1) = ns) := Lib.hid (by rw [hr1.out]; simp [hPr.out, if_pos hz0.out, hPm.out])
            clear hm1 hr1
            go_wp2
            go_roundw
            case rel => exact ⟨i + 1, _, m0, A, x2, qs ++ [r], ns, by omega, by go_num, KE, p0, a0, hm2, hr2, Lib.hid (fun _ _ => rfl), Lib.hid (fun h _ h3 => absurd h3 (by rw [hn8.out h, hPm.out]; decide))⟩
            case measure => simp [intOf] <;> omega
          | true =>
            have hPm := Lib.hid hPm'
            clear hPm'
            by_cases hj0' : j = 0
            · have hz1 : Hid (j = 0) := Lib.hid hj0'
              clear hj0'
              rw [rounds_succ]
              go_wp2
              have K1a := Lib.hid K0h.out.drew
              refine inO_region [(7, fun w' => w'.rangeAt (wb.heap.size) (24 + k * 3) (p3L (A.get k)))] (by kernel_rfl) (Owed.cons (on_y (K1a.out.T.b0) hk8.out) (Owed.nil _ _)) ?_
              refine inO_take 0 ⟨_, _, _, _, _, _⟩ (.int .i64 1) rfl (by kernel_rfl) (by kernel_rfl) (by kernel_rfl) (fun _ _ _ h => h) rfl (fun ww => exec_move (by rfl) (by rfl) ww) ?_
              simp only [Act.put, List.setIfInBounds_toArray, List.set_cons_zero, List.set_cons_succ]
              refine inO_take 1 ⟨_, _, _, _, _, _⟩ (.int .i64 (i : Int)) rfl (by kernel_rfl) (by kernel_rfl) (by kernel_rfl) (fun _ _ _ h => h) rfl (fun ww => exec_move (by rfl) (by rfl) ww) ?_
              simp only [Act.put, List.setIfInBounds_toArray, List.set_cons_zero, List.set_cons_succ]
              refine inO_take 2 ⟨_, _, _, _, _, _⟩ (.int .i64 8) rfl (by kernel_rfl) (by kernel_rfl) (by kernel_rfl) (fun _ _ _ h => h) rfl (fun ww => exec_move (by rfl) (by rfl) ww) ?_
              simp only [Act.put, List.setIfInBounds_toArray, List.set_cons_zero, List.set_cons_succ]
              refine inO_take 3 ⟨_, _, _, _, _, _⟩ (.int .i64 (k : Int)) rfl (by kernel_rfl) (by kernel_rfl) (by kernel_rfl) (fun _ _ _ h => h) rfl (fun ww => by have e := e8.out; have := hk8.out; go_simp <;> (rw [IntKind.wrap_i64]; omega)) ?_
              simp only [Act.put, List.setIfInBounds_toArray, List.set_cons_zero, List.set_cons_succ]
              refine inO_take 4 ⟨_, _, _, _, _, _⟩ (.int .i64 (k : Int)) rfl (by kernel_rfl) (by kernel_rfl) (by kernel_rfl) (fun _ _ _ h => h) rfl (fun ww => by have e := ek.out; have h8 := hk8.out; go_simp <;> (rw [Int.tmod_eq_emod_of_nonneg (by omega)]; omega)) ?_
              simp only [Act.put, List.setIfInBounds_toArray, List.set_cons_zero, List.set_cons_succ]
              refine inO_take 5 ⟨_, _, _, _, _, _⟩ (.pointer (some ⟨wb.heap.size, 24, none⟩)) rfl (by kernel_rfl) (by kernel_rfl) (by kernel_rfl) (fun _ _ _ h => h) rfl (fun ww => by go_simp) ?_
              simp only [Act.put, List.setIfInBounds_toArray, List.set_cons_zero, List.set_cons_succ]
              refine inO_take 6 ⟨_, _, _, _, _, _⟩ (.pointer (some ⟨wb.heap.size, 24 + k * 3, none⟩)) rfl (by kernel_rfl) (by kernel_rfl) (by kernel_rfl) (fun _ _ _ h => h) rfl (fun ww => by go_simp; intro hh; have := hk8.out; omega) ?_
              simp only [Act.put, List.setIfInBounds_toArray, List.set_cons_zero, List.set_cons_succ]
              refine inO_load 7 ⟨_, _, _, _, _, _⟩ (.agg (p3L (A.get k)).toArray) (fun w' => w'.rangeAt (wb.heap.size) (24 + k * 3) (p3L (A.get k))) rfl (by kernel_rfl) (by kernel_rfl) (by kernel_rfl) (fun _ _ _ h => h) rfl (.head _) (fun ww hw => exec_load_mid _ _ (by rfl) _ _ (by rfl) _ _ hw Try.underlying32 rfl (infoPtr _)) ?_
              simp only [Act.put, List.setIfInBounds_toArray, List.set_cons_zero, List.set_cons_succ]
              refine inO_step 8 ⟨_, _, _, _, _, _⟩ rfl (by kernel_rfl) rfl (fun K hK => ?_)
              refine wp_newPtr rfl ?_
              have K1b := Lib.hid (K1a.out.box 32 (p3L p3z))
              refine hK _ _ (Keeps.cons (fun hh j v hv => cell_alloc (hh j v hv) _) (Keeps.nil _ _ _)) ?_
              clear hK K
              simp only [Act.put, List.setIfInBounds_toArray, List.set_cons_zero, List.set_cons_succ]
              refine inO_step 9 ⟨_, _, _, _, _, _⟩ rfl (by kernel_rfl) rfl (fun K hK => ?_)
              refine wp_store_blk 32 _ _ rfl (wh0.drew.heap.size) 0 (by rfl) (p3L (A.get k)) (by rfl) 32 (p3L p3z) (p3L (A.get k)) K1b.out.T.b0 (Nat.le_of_eq rfl) (p3L_one _) (infoPtr _) (whole_new rfl) fun wc1 h14 k14 z14 => ?_
              have K1c := Lib.hid (K1b.out.over k14 h14)
              clear h14 k14 z14
              refine hK _ _ (Keeps.late (by kernel_rfl) (Keeps.nil _ _ _)) ?_
              clear hK K
              simp only [Act.put]
              refine inO_done (by kernel_rfl) ?_
              obtain ⟨xb1, hxb⟩ : ∃ xb, Hid (xb = wh0.drew.heap.size) := ⟨_, Lib.hid rfl⟩
              rw [← hxb.out] at K1c ⊢
              clear K1a K1b hxb K0h
              go_wp2_with (first
                | ((with_reducible refine n2Dst (some 38) (by rfl) ?_); refine wantList_load (by rfl) 32 _ rfl (xb1) (0) (by rfl) (p3L (A.get k)) _ (rangeN K1c.out.T.b0) Try.underlying32 rfl (infoPtr _) ?_))
              have hC := hw.out wc1 (A.get k) K1c.out.T.p.kept hfmd.out
              rw [hPm.out] at hC
              refine hC.mono ?_
              rintro e wd1 ⟨rfl, b15⟩
              have K1d := Lib.hid (K1c.out.below b15)
              clear b15 K1c hC
              have hrem : (i : Int) % 8 = 0 := by have := hz1.out; have := ej.out; omega
              go_wp2_with (first
                | ((with_reducible refine n2Dst (some 46) (by rfl) ?_); refine wantList_load (by rfl) 32 _ rfl (xb1) (0) (by rfl) (p3L (A.get k)) _ (rangeN K1d.out.T.b0) Try.underlying32 rfl (infoPtr _) ?_)
                | ((with_reducible refine n2Dst (some 47) (by rfl) ?_); refine wpList_bsP (by rfl) (.tmp 46) rfl (A.get k) (by rfl) ?_)
                | (at_builtin; refine wpList_pushN rfl (.tmp 45) (.tmp 47) 37 rfl w.heap.size 32 j0 _ 3 24 Try.underlying37 hj0 hy0 hy1 hy2 rfl (by decide) v0 _ _ wd1 (by rfl) K1d.out.rv 1 (p3L (A.get k)).toArray (by rfl) (by rfl) (p3L_one _) (by have := hql.out; (try simp only [List.length_append, List.length_cons, List.length_nil]); omega) (by have := hql.out; (try simp only [List.length_append, List.length_cons, List.length_nil]); omega) K1d.out.T.size ?_; intro v1 we1 ho hg hv; have K1e := Lib.hid (K1d.out.pushV (A.get k) ho hg); clear ho hg hv)
                | ((with_reducible refine n2Dst (some 54) (by rfl) ?_); refine wantList_load (by rfl) 32 _ rfl (xb1) (0) (by rfl) (p3L (A.get k)) _ (rangeN K1e.out.T.b0) Try.underlying32 rfl (infoPtr _) ?_))
              obtain ⟨m1, hLd, p1, a1⟩ := hLm1.out m0 a0.out p0.out
              have hLd := Lib.hid hLd
              have p1 := Lib.hid p1
              have a1 := Lib.hid a1
              refine (hLd.out _ _ K1e.out.T.p.at_).mono ?_
              rintro e wf1 ⟨rfl, F1, S1⟩
              have K1f := Lib.hid (K1e.out.turn S1)
              have hN := Lib.hid (Blk.new wf1 66 (p8L holesP))
              clear S1 hLd K1d K1e
              go_wp2_with (first
                | ((with_reducible refine guardList ?_); refine tOper 16 (by rfl) ?_; refine wantList_store (by rfl) 66 _ _ rfl (wf1.heap.size) 0 (by rfl) (p8L (C)) (by rfl) _ (p8L (holesP)) (p8L (C)) (hN.out) (by simp only [p8L_length]; decide) (p8L_one _) (infoP8 _) wholeP8 ?_; intro wg1 hR kk zz; have K1g := Lib.hid (K1f.out.lay kk hR); clear zz kk hR)
                | ((with_reducible refine n2Dst (some 63) (by rfl) ?_); refine wantList_load (by rfl) 66 _ rfl (wf1.heap.size) (0) (by rfl) (p8L (C)) _ (rangeN K1g.out.T.b0) Try.underlying66 rfl (infoP8 _) ?_)
                | ((with_reducible refine guardList ?_); refine tOper 64 (by rfl) ?_; refine wantList_store (by rfl) 66 _ _ rfl (wb.heap.size) (48) (by rfl) (p8L (C)) (by rfl) _ (onL (holesP.set 0 r) (A) (x2)) (onL (holesP.set 0 r) (A) (C)) (K1g.out.T.b2) (by simp only [p8L_length, onL_length]; decide) (p8L_one _) (infoP8 _) (on_setZ C) ?_; intro wh1 hR kk zz; have K1h := Lib.hid ((K1g.out.rot.over kk hR).only); clear zz kk hR))
              clear K1f K1g hN
              clear hrem
              cases hPl' : P (C.get j) with
              | false =>
                have hPl := Lib.hid hPl'
                clear hPl'
                rw [rounds_succ]
                go_wp2
                have K2a := Lib.hid K1h.out.drew
                refine inO_region [(7, fun w' => w'.rangeAt (wb.heap.size) (48 + j * 3) (p3L (C.get j)))] (by kernel_rfl) (Owed.cons (on_z (K2a.out.T.b0) hj8.out) (Owed.nil _ _)) ?_
                refine inO_take 0 ⟨_, _, _, _, _, _⟩ (.int .i64 2) rfl (by kernel_rfl) (by kernel_rfl) (by kernel_rfl) (fun _ _ _ h => h) rfl (fun ww => exec_move (by rfl) (by rfl) ww) ?_
                simp only [Act.put, List.setIfInBounds_toArray, List.set_cons_zero, List.set_cons_succ]
                refine inO_take 1 ⟨_, _, _, _, _, _⟩ (.int .i64 (i : Int)) rfl (by kernel_rfl) (by kernel_rfl) (by kernel_rfl) (fun _ _ _ h => h) rfl (fun ww => exec_move (by rfl) (by rfl) ww) ?_
                simp only [Act.put, List.setIfInBounds_toArray, List.set_cons_zero, List.set_cons_succ]
                refine inO_take 2 ⟨_, _, _, _, _, _⟩ (.int .i64 1) rfl (by kernel_rfl) (by kernel_rfl) (by kernel_rfl) (fun _ _ _ h => h) rfl (fun ww => exec_move (by rfl) (by rfl) ww) ?_
                simp only [Act.put, List.setIfInBounds_toArray, List.set_cons_zero, List.set_cons_succ]
                refine inO_take 3 ⟨_, _, _, _, _, _⟩ (.int .i64 (i : Int)) rfl (by kernel_rfl) (by kernel_rfl) (by kernel_rfl) (fun _ _ _ h => h) rfl (fun ww => by go_simp <;> (rw [IntKind.wrap_i64]; omega)) ?_
                simp only [Act.put, List.setIfInBounds_toArray, List.set_cons_zero, List.set_cons_succ]
                refine inO_take 4 ⟨_, _, _, _, _, _⟩ (.int .i64 (j : Int)) rfl (by kernel_rfl) (by kernel_rfl) (by kernel_rfl) (fun _ _ _ h => h) rfl (fun ww => by have e := ej.out; go_simp <;> (first | omega | (rw [Int.tmod_eq_emod_of_nonneg (by omega)]; omega))) ?_
                simp only [Act.put, List.setIfInBounds_toArray, List.set_cons_zero, List.set_cons_succ]
                refine inO_take 5 ⟨_, _, _, _, _, _⟩ (.pointer (some ⟨wb.heap.size, 48, none⟩)) rfl (by kernel_rfl) (by kernel_rfl) (by kernel_rfl) (fun _ _ _ h => h) rfl (fun ww => by go_simp) ?_
                simp only [Act.put, List.setIfInBounds_toArray, List.set_cons_zero, List.set_cons_succ]
                refine inO_take 6 ⟨_, _, _, _, _, _⟩ (.pointer (some ⟨wb.heap.size, 48 + j * 3, none⟩)) rfl (by kernel_rfl) (by kernel_rfl) (by kernel_rfl) (fun _ _ _ h => h) rfl (fun ww => by go_simp; intro hh; have := hj8.out; omega) ?_
                simp only [Act.put, List.setIfInBounds_toArray, List.set_cons_zero, List.set_cons_succ]
                refine inO_load 7 ⟨_, _, _, _, _, _⟩ (.agg (p3L (C.get j)).toArray) (fun w' => w'.rangeAt (wb.heap.size) (48 + j * 3) (p3L (C.get j))) rfl (by kernel_rfl) (by kernel_rfl) (by kernel_rfl) (fun _ _ _ h => h) rfl (.head _) (fun ww hw => exec_load_mid _ _ (by rfl) _ _ (by rfl) _ _ hw Try.underlying32 rfl (infoPtr _)) ?_
                simp only [Act.put, List.setIfInBounds_toArray, List.set_cons_zero, List.set_cons_succ]
                refine inO_step 8 ⟨_, _, _, _, _, _⟩ rfl (by kernel_rfl) rfl (fun K hK => ?_)
                refine wp_newPtr rfl ?_
                have K2b := Lib.hid (K2a.out.box 32 (p3L p3z))
                refine hK _ _ (Keeps.cons (fun hh j v hv => cell_alloc (hh j v hv) _) (Keeps.nil _ _ _)) ?_
                clear hK K
                simp only [Act.put, List.setIfInBounds_toArray, List.set_cons_zero, List.set_cons_succ]
                refine inO_step 9 ⟨_, _, _, _, _, _⟩ rfl (by kernel_rfl) rfl (fun K hK => ?_)
                refine wp_store_blk 32 _ _ rfl (wh1.drew.heap.size) 0 (by rfl) (p3L (C.get j)) (by rfl) 32 (p3L p3z) (p3L (C.get j)) K2b.out.T.b0 (Nat.le_of_eq rfl) (p3L_one _) (infoPtr _) (whole_new rfl) fun wc2 h14 k14 z14 => ?_
                have K2c := Lib.hid (K2b.out.over k14 h14)
                clear h14 k14 z14
                refine hK _ _ (Keeps.late (by kernel_rfl) (Keeps.nil _ _ _)) ?_
                clear hK K
                simp only [Act.put]
                refine inO_done (by kernel_rfl) ?_
                obtain ⟨xb2, hxb⟩ : ∃ xb, Hid (xb = wh1.drew.heap.size) := ⟨_, Lib.hid rfl⟩
                rw [← hxb.out] at K2c ⊢
                clear K2a K2b hxb K1h
                go_wp2_with (first
                  | ((with_reducible refine n2Dst (some 38) (by rfl) ?_); refine wantList_load (by rfl) 32 _ rfl (xb2) (0) (by rfl) (p3L (C.get j)) _ (rangeN K2c.out.T.b0) Try.underlying32 rfl (infoPtr _) ?_))
                have hC := hw.out wc2 (C.get j) K2c.out.T.p.kept hflf.out
                rw [hPl.out] at hC
                refine hC.mono ?_
                rintro e wd2 ⟨rfl, b15⟩
                have K2d := Lib.hid (K2c.out.below b15)
                clear b15 K2c hC
                have KE := Lib.hid K2d.out.tail
                clear K2d
                have hm2 : Hid (t.metUp P (i + 1) = qs ++ [r] ++ [A.get k]) := Lib.hid (by rw [hm1.out]; simp [hPr.out, if_pos hz0.out, hPm.out, if_pos hz1.out, hPl.out])
                have hr2 : Hid (t.reachUp P (i + 1) = ns) := Lib.hid (by rw [hr1.out]; simp [hPr.out, if_pos hz0.out, hPm.out, if_pos hz1.out, hPl.out])
                clear hm1 hr1
                go_wp2
                go_roundw
                case rel => exact ⟨i + 1, _, m1, A, C, qs ++ [r] ++ [A.get k], ns, by omega, by go_num, KE, p1, a1, hm2, hr2, Lib.hid (fun _ _ => rfl), Lib.hid (fun h _ _ => by rw [hn8.out h]; exact hC.out.symm)⟩
                case measure => simp [intOf] <;> omega
              | true =>
                have hPl := Lib.hid hPl'
                clear hPl'
                rw [rounds_succ]
                go_wp2
                have K2a := Lib.hid K1h.out.drew
                refine inO_region [(7, fun w' => w'.rangeAt (wb.heap.size) (48 + j * 3) (p3L (C.get j)))] (by kernel_rfl) (Owed.cons (on_z (K2a.out.T.b0) hj8.out) (Owed.nil _ _)) ?_
                refine inO_take 0 ⟨_, _, _, _, _, _⟩ (.int .i64 2) rfl (by kernel_rfl) (by kernel_rfl) (by kernel_rfl) (fun _ _ _ h => h) rfl (fun ww => exec_move (by rfl) (by rfl) ww) ?_
                simp only [Act.put, List.setIfInBounds_toArray, List.set_cons_zero, List.set_cons_succ]
                refine inO_take 1 ⟨_, _, _, _, _, _⟩ (.int .i64 (i : Int)) rfl (by kernel_rfl) (by kernel_rfl) (by kernel_rfl) (fun _ _ _ h => h) rfl (fun ww => exec_move (by rfl) (by rfl) ww) ?_
                simp only [Act.put, List.setIfInBounds_toArray, List.set_cons_zero, List.set_cons_succ]
                refine inO_take 2 ⟨_, _, _, _, _, _⟩ (.int .i64 1) rfl (by kernel_rfl) (by kernel_rfl) (by kernel_rfl) (fun _ _ _ h => h) rfl (fun ww => exec_move (by rfl) (by rfl) ww) ?_
                simp only [Act.put, List.setIfInBounds_toArray, List.set_cons_zero, List.set_cons_succ]
                refine inO_take 3 ⟨_, _, _, _, _, _⟩ (.int .i64 (i : Int)) rfl (by kernel_rfl) (by kernel_rfl) (by kernel_rfl) (fun _ _ _ h => h) rfl (fun ww => by go_simp <;> (rw [IntKind.wrap_i64]; omega)) ?_
                simp only [Act.put, List.setIfInBounds_toArray, List.set_cons_zero, List.set_cons_succ]
                refine inO_take 4 ⟨_, _, _, _, _, _⟩ (.int .i64 (j : Int)) rfl (by kernel_rfl) (by kernel_rfl) (by kernel_rfl) (fun _ _ _ h => h) rfl (fun ww => by have e := ej.out; go_simp <;> (first | omega | (rw [Int.tmod_eq_emod_of_nonneg (by omega)]; omega))) ?_
                simp only [Act.put, List.setIfInBounds_toArray, List.set_cons_zero, List.set_cons_succ]
                refine inO_take 5 ⟨_, _, _, _, _, _⟩ (.pointer (some ⟨wb.heap.size, 48, none⟩)) rfl (by kernel_rfl) (by kernel_rfl) (by kernel_rfl) (fun _ _ _ h => h) rfl (fun ww => by go_simp) ?_
                simp only [Act.put, List.setIfInBounds_toArray, List.set_cons_zero, List.set_cons_succ]
                refine inO_take 6 ⟨_, _, _, _, _, _⟩ (.pointer (some ⟨wb.heap.size, 48 + j * 3, none⟩)) rfl (by kernel_rfl) (by kernel_rfl) (by kernel_rfl) (fun _ _ _ h => h) rfl (fun ww => by go_simp; intro hh; have := hj8.out; omega) ?_
                simp only [Act.put, List.setIfInBounds_toArray, List.set_cons_zero, List.set_cons_succ]
                refine inO_load 7 ⟨_, _, _, _, _, _⟩ (.agg (p3L (C.get j)).toArray) (fun w' => w'.rangeAt (wb.heap.size) (48 + j * 3) (p3L (C.get j))) rfl (by kernel_rfl) (by kernel_rfl) (by kernel_rfl) (fun _ _ _ h => h) rfl (.head _) (fun ww hw => exec_load_mid _ _ (by rfl) _ _ (by rfl) _ _ hw Try.underlying32 rfl (infoPtr _)) ?_
                simp only [Act.put, List.setIfInBounds_toArray, List.set_cons_zero, List.set_cons_succ]
                refine inO_step 8 ⟨_, _, _, _, _, _⟩ rfl (by kernel_rfl) rfl (fun K hK => ?_)
                refine wp_newPtr rfl ?_
                have K2b := Lib.hid (K2a.out.box 32 (p3L p3z))
                refine hK _ _ (Keeps.cons (fun hh j v hv => cell_alloc (hh j v hv) _) (Keeps.nil _ _ _)) ?_
                clear hK K
                simp only [Act.put, List.setIfInBounds_toArray, List.set_cons_zero, List.set_cons_succ]
                refine inO_step 9 ⟨_, _, _, _, _, _⟩ rfl (by kernel_rfl) rfl (fun K hK => ?_)
                refine wp_store_blk 32 _ _ rfl (wh1.drew.heap.size) 0 (by rfl) (p3L (C.get j)) (by rfl) 32 (p3L p3z) (p3L (C.get j)) K2b.out.T.b0 (Nat.le_of_eq rfl) (p3L_one _) (infoPtr _) (whole_new rfl) fun wc2 h14 k14 z14 => ?_
                have K2c := Lib.hid (K2b.out.over k14 h14)
                clear h14 k14 z14
                refine hK _ _ (Keeps.late (by kernel_rfl) (Keeps.nil _ _ _)) ?_
                clear hK K
                simp only [Act.put]
                refine inO_done (by kernel_rfl) ?_
                obtain ⟨xb2, hxb⟩ : ∃ xb, Hid (xb = wh1.drew.heap.size) := ⟨_, Lib.hid rfl⟩
                rw [← hxb.out] at K2c ⊢
                clear K2a K2b hxb K1h
                go_wp2_with (first
                  | ((with_reducible refine n2Dst (some 38) (by rfl) ?_); refine wantList_load (by rfl) 32 _ rfl (xb2) (0) (by rfl) (p3L (C.get j)) _ (rangeN K2c.out.T.b0) Try.underlying32 rfl (infoPtr _) ?_))
                have hC := hw.out wc2 (C.get j) K2c.out.T.p.kept hflf.out
                rw [hPl.out] at hC
                refine hC.mono ?_
                rintro e wd2 ⟨rfl, b15⟩
                have K2d := Lib.hid (K2c.out.below b15)
                clear b15 K2c hC
                go_wp2_with (first
                  | ((with_reducible refine n2Dst (some 46) (by rfl) ?_); refine wantList_load (by rfl) 32 _ rfl (xb2) (0) (by rfl) (p3L (C.get j)) _ (rangeN K2d.out.T.b0) Try.underlying32 rfl (infoPtr _) ?_)
                  | ((with_reducible refine n2Dst (some 47) (by rfl) ?_); refine wpList_bsP (by rfl) (.tmp 46) rfl (C.get j) (by rfl) ?_)
                  | (at_builtin; refine wpList_pushN rfl (.tmp 45) (.tmp 47) 37 rfl w.heap.size 32 j0 _ 3 24 Try.underlying37 hj0 hy0 hy1 hy2 rfl (by decide) v1 _ _ wd2 (by rfl) K2d.out.rv 1 (p3L (C.get j)).toArray (by rfl) (by rfl) (p3L_one _) (by have := hql.out; (try simp only [List.length_append, List.length_cons, List.length_nil]); omega) (by have := hql.out; (try simp only [List.length_append, List.length_cons, List.length_nil]); omega) K2d.out.T.size ?_; intro v2 we2 ho hg hv; have K2e := Lib.hid (K2d.out.pushV (C.get j) ho hg); clear ho hg hv)
                  | ((with_reducible refine n2Dst (some 54) (by rfl) ?_); refine wantList_load (by rfl) 32 _ rfl (xb2) (0) (by rfl) (p3L (C.get j)) _ (rangeN K2e.out.T.b0) Try.underlying32 rfl (infoPtr _) ?_))
                rw [rounds_succ]
                have K9 := Lib.hid K2e.out.tail
                clear K2e K2d
                have hm2 : Hid (t.metUp P (i + 1) = qs ++ [r] ++ [A.get k] ++ [C.get j]) := Lib.hid (by rw [hm1.out]; simp [hPr.out, if_pos hz0.out, hPm.out, if_pos hz1.out, hPl.out])
                have hr2 : Hid (t.reachUp P (i + 1) = ns ++ [i]) := Lib.hid (by rw [hr1.out]; simp [hPr.out, if_pos hz0.out, hPm.out, if_pos hz1.out, hPl.out])
                clear hm1 hr1
                go_wp2_with (first
                  | (at_builtin; refine wpList_pushN rfl (.tmp 66) (.tmp 68) 46 rfl w.heap.size 3 i0 _ 1 8 Try.underlying46 hi0 hx0' hx1' hx2' rfl (by decide) u10 _ _ we2 (by rfl) K9.out.ru 1 #[.int .i64 (i : Int)] (by rfl) (by rfl) (fun x hx => by simp only [List.mem_cons, List.not_mem_nil, or_false] at hx; subst hx; rfl) (by have := hnl.out; omega) (by have := hnl.out; omega) K9.out.T.size ?_; intro v9 w9 ho hg hv; have KA := Lib.hid (K9.out.pushU i ho hg); clear ho hg hv))
                go_roundw
                case rel => exact ⟨i + 1, _, m1, A, C, qs ++ [r] ++ [A.get k] ++ [C.get j], ns ++ [i], by omega, by go_num, KA, p1, a1, hm2, hr2, Lib.hid (fun _ _ => rfl), Lib.hid (fun h _ _ => by rw [hn8.out h]; exact hC.out.symm)⟩
                case measure => simp [intOf] <;> omega
            · have hz1 : Hid (¬ j = 0) := Lib.hid hj0'
              clear hj0'
              have hxe : x2 = C := hx2.out (by have := hz1.out; omega) hPr.out hPm.out
              rw [hxe] at K0h
              clear hxe
              rw [rounds_succ]
              go_wp2
              have K1a := Lib.hid K0h.out.drew
              refine inO_region [(7, fun w' => w'.rangeAt (wb.heap.size) (24 + k * 3) (p3L (A.get k)))] (by kernel_rfl) (Owed.cons (on_y (K1a.out.T.b0) hk8.out) (Owed.nil _ _)) ?_
              refine inO_take 0 ⟨_, _, _, _, _, _⟩ (.int .i64 1) rfl (by kernel_rfl) (by kernel_rfl) (by kernel_rfl) (fun _ _ _ h => h) rfl (fun ww => exec_move (by rfl) (by rfl) ww) ?_
              simp only [Act.put, List.setIfInBounds_toArray, List.set_cons_zero, List.set_cons_succ]
              refine inO_take 1 ⟨_, _, _, _, _, _⟩ (.int .i64 (i : Int)) rfl (by kernel_rfl) (by kernel_rfl) (by kernel_rfl) (fun _ _ _ h => h) rfl (fun ww => exec_move (by rfl) (by rfl) ww) ?_
              simp only [Act.put, List.setIfInBounds_toArray, List.set_cons_zero, List.set_cons_succ]
              refine inO_take 2 ⟨_, _, _, _, _, _⟩ (.int .i64 8) rfl (by kernel_rfl) (by kernel_rfl) (by kernel_rfl) (fun _ _ _ h => h) rfl (fun ww => exec_move (by rfl) (by rfl) ww) ?_
              simp only [Act.put, List.setIfInBounds_toArray, List.set_cons_zero, List.set_cons_succ]
              refine inO_take 3 ⟨_, _, _, _, _, _⟩ (.int .i64 (k : Int)) rfl (by kernel_rfl) (by kernel_rfl) (by kernel_rfl) (fun _ _ _ h => h) rfl (fun ww => by have e := e8.out; have := hk8.out; go_simp <;> (rw [IntKind.wrap_i64]; omega)) ?_
              simp only [Act.put, List.setIfInBounds_toArray, List.set_cons_zero, List.set_cons_succ]
              refine inO_take 4 ⟨_, _, _, _, _, _⟩ (.int .i64 (k : Int)) rfl (by kernel_rfl) (by kernel_rfl) (by kernel_rfl) (fun _ _ _ h => h) rfl (fun ww => by have e := ek.out; have h8 := hk8.out; go_simp <;> (rw [Int.tmod_eq_emod_of_nonneg (by omega)]; omega)) ?_
              simp only [Act.put, List.setIfInBounds_toArray, List.set_cons_zero, List.set_cons_succ]
              refine inO_take 5 ⟨_, _, _, _, _, _⟩ (.pointer (some ⟨wb.heap.size, 24, none⟩)) rfl (by kernel_rfl) (by kernel_rfl) (by kernel_rfl) (fun _ _ _ h => h) rfl (fun ww => by go_simp) ?_
              simp only [Act.put, List.setIfInBounds_toArray, List.set_cons_zero, List.set_cons_succ]
              refine inO_take 6 ⟨_, _, _, _, _, _⟩ (.pointer (some ⟨wb.heap.size, 24 + k * 3, none⟩)) rfl (by kernel_rfl) (by kernel_rfl) (by kernel_rfl) (fun _ _ _ h => h) rfl (fun ww => by go_simp; intro hh; have := hk8.out; omega) ?_
              simp only [Act.put, List.setIfInBounds_toArray, List.set_cons_zero, List.set_cons_succ]
              refine inO_load 7 ⟨_, _, _, _, _, _⟩ (.agg (p3L (A.get k)).toArray) (fun w' => w'.rangeAt (wb.heap.size) (24 + k * 3) (p3L (A.get k))) rfl (by kernel_rfl) (by kernel_rfl) (by kernel_rfl) (fun _ _ _ h => h) rfl (.head _) (fun ww hw => exec_load_mid _ _ (by rfl) _ _ (by rfl) _ _ hw Try.underlying32 rfl (infoPtr _)) ?_
              simp only [Act.put, List.setIfInBounds_toArray, List.set_cons_zero, List.set_cons_succ]
              refine inO_step 8 ⟨_, _, _, _, _, _⟩ rfl (by kernel_rfl) rfl (fun K hK => ?_)
              refine wp_newPtr rfl ?_
              have K1b := Lib.hid (K1a.out.box 32 (p3L p3z))
              refine hK _ _ (Keeps.cons (fun hh j v hv => cell_alloc (hh j v hv) _) (Keeps.nil _ _ _)) ?_
              clear hK K
              simp only [Act.put, List.setIfInBounds_toArray, List.set_cons_zero, List.set_cons_succ]
              refine inO_step 9 ⟨_, _, _, _, _, _⟩ rfl (by kernel_rfl) rfl (fun K hK => ?_)
              refine wp_store_blk 32 _ _ rfl (wh0.drew.heap.size) 0 (by rfl) (p3L (A.get k)) (by rfl) 32 (p3L p3z) (p3L (A.get k)) K1b.out.T.b0 (Nat.le_of_eq rfl) (p3L_one _) (infoPtr _) (whole_new rfl) fun wc1 h14 k14 z14 => ?_
              have K1c := Lib.hid (K1b.out.over k14 h14)
              clear h14 k14 z14
              refine hK _ _ (Keeps.late (by kernel_rfl) (Keeps.nil _ _ _)) ?_
              clear hK K
              simp only [Act.put]
              refine inO_done (by kernel_rfl) ?_
              obtain ⟨xb1, hxb⟩ : ∃ xb, Hid (xb = wh0.drew.heap.size) := ⟨_, Lib.hid rfl⟩
              rw [← hxb.out] at K1c ⊢
              clear K1a K1b hxb K0h
              go_wp2_with (first
                | ((with_reducible refine n2Dst (some 38) (by rfl) ?_); refine wantList_load (by rfl) 32 _ rfl (xb1) (0) (by rfl) (p3L (A.get k)) _ (rangeN K1c.out.T.b0) Try.underlying32 rfl (infoPtr _) ?_))
              have hC := hw.out wc1 (A.get k) K1c.out.T.p.kept hfmd.out
              rw [hPm.out] at hC
              refine hC.mono ?_
              rintro e wd1 ⟨rfl, b15⟩
              have K1d := Lib.hid (K1c.out.below b15)
              clear b15 K1c hC
              have hrem : (i : Int) % 8 = (j : Int) := ej.out
              have hpos : 0 < j := by have := hz1.out; omega
              have K1h := Lib.hid K1d.out.tail
              clear K1d
              go_wp2
              clear hrem hpos
              cases hPl' : P (C.get j) with
              | false =>
                have hPl := Lib.hid hPl'
                clear hPl'
                rw [rounds_succ]
                go_wp2
                have K2a := Lib.hid K1h.out.drew
                refine inO_region [(7, fun w' => w'.rangeAt (wb.heap.size) (48 + j * 3) (p3L (C.get j)))] (by kernel_rfl) (Owed.cons (on_z (K2a.out.T.b0) hj8.out) (Owed.nil _ _)) ?_
                refine inO_take 0 ⟨_, _, _, _, _, _⟩ (.int .i64 2) rfl (by kernel_rfl) (by kernel_rfl) (by kernel_rfl) (fun _ _ _ h => h) rfl (fun ww => exec_move (by rfl) (by rfl) ww) ?_
                simp only [Act.put, List.setIfInBounds_toArray, List.set_cons_zero, List.set_cons_succ]
                refine inO_take 1 ⟨_, _, _, _, _, _⟩ (.int .i64 (i : Int)) rfl (by kernel_rfl) (by kernel_rfl) (by kernel_rfl) (fun _ _ _ h => h) rfl (fun ww => exec_move (by rfl) (by rfl) ww) ?_
                simp only [Act.put, List.setIfInBounds_toArray, List.set_cons_zero, List.set_cons_succ]
                refine inO_take 2 ⟨_, _, _, _, _, _⟩ (.int .i64 1) rfl (by kernel_rfl) (by kernel_rfl) (by kernel_rfl) (fun _ _ _ h => h) rfl (fun ww => exec_move (by rfl) (by rfl) ww) ?_
                simp only [Act.put, List.setIfInBounds_toArray, List.set_cons_zero, List.set_cons_succ]
                refine inO_take 3 ⟨_, _, _, _, _, _⟩ (.int .i64 (i : Int)) rfl (by kernel_rfl) (by kernel_rfl) (by kernel_rfl) (fun _ _ _ h => h) rfl (fun ww => by go_simp <;> (rw [IntKind.wrap_i64]; omega)) ?_
                simp only [Act.put, List.setIfInBounds_toArray, List.set_cons_zero, List.set_cons_succ]
                refine inO_take 4 ⟨_, _, _, _, _, _⟩ (.int .i64 (j : Int)) rfl (by kernel_rfl) (by kernel_rfl) (by kernel_rfl) (fun _ _ _ h => h) rfl (fun ww => by have e := ej.out; go_simp <;> (first | omega | (rw [Int.tmod_eq_emod_of_nonneg (by omega)]; omega))) ?_
                simp only [Act.put, List.setIfInBounds_toArray, List.set_cons_zero, List.set_cons_succ]
                refine inO_take 5 ⟨_, _, _, _, _, _⟩ (.pointer (some ⟨wb.heap.size, 48, none⟩)) rfl (by kernel_rfl) (by kernel_rfl) (by kernel_rfl) (fun _ _ _ h => h) rfl (fun ww => by go_simp) ?_
                simp only [Act.put, List.setIfInBounds_toArray, List.set_cons_zero, List.set_cons_succ]
                refine inO_take 6 ⟨_, _, _, _, _, _⟩ (.pointer (some ⟨wb.heap.size, 48 + j * 3, none⟩)) rfl (by kernel_rfl) (by kernel_rfl) (by kernel_rfl) (fun _ _ _ h => h) rfl (fun ww => by go_simp; intro hh; have := hj8.out; omega) ?_
                simp only [Act.put, List.setIfInBounds_toArray, List.set_cons_zero, List.set_cons_succ]
                refine inO_load 7 ⟨_, _, _, _, _, _⟩ (.agg (p3L (C.get j)).toArray) (fun w' => w'.rangeAt (wb.heap.size) (48 + j * 3) (p3L (C.get j))) rfl (by kernel_rfl) (by kernel_rfl) (by kernel_rfl) (fun _ _ _ h => h) rfl (.head _) (fun ww hw => exec_load_mid _ _ (by rfl) _ _ (by rfl) _ _ hw Try.underlying32 rfl (infoPtr _)) ?_
                simp only [Act.put, List.setIfInBounds_toArray, List.set_cons_zero, List.set_cons_succ]
                refine inO_step 8 ⟨_, _, _, _, _, _⟩ rfl (by kernel_rfl) rfl (fun K hK => ?_)
                refine wp_newPtr rfl ?_
                have K2b := Lib.hid (K2a.out.box 32 (p3L p3z))
                refine hK _ _ (Keeps.cons (fun hh j v hv => cell_alloc (hh j v hv) _) (Keeps.nil _ _ _)) ?_
                clear hK K
                simp only [Act.put, List.setIfInBounds_toArray, List.set_cons_zero, List.set_cons_succ]
                refine inO_step 9 ⟨_, _, _, _, _, _⟩ rfl (by kernel_rfl) rfl (fun K hK => ?_)
                refine wp_store_blk 32 _ _ rfl (wd1.drew.heap.size) 0 (by rfl) (p3L (C.get j)) (by rfl) 32 (p3L p3z) (p3L (C.get j)) K2b.out.T.b0 (Nat.le_of_eq rfl) (p3L_one _) (infoPtr _) (whole_new rfl) fun wc2 h14 k14 z14 => ?_
                have K2c := Lib.hid (K2b.out.over k14 h14)
                clear h14 k14 z14
                refine hK _ _ (Keeps.late (by kernel_rfl) (Keeps.nil _ _ _)) ?_
                clear hK K
                simp only [Act.put]
                refine inO_done (by kernel_rfl) ?_
                obtain ⟨xb2, hxb⟩ : ∃ xb, Hid (xb = wd1.drew.heap.size) := ⟨_, Lib.hid rfl⟩
                rw [← hxb.out] at K2c ⊢
                clear K2a K2b hxb K1h
                go_wp2_with (first
                  | ((with_reducible refine n2Dst (some 38) (by rfl) ?_); refine wantList_load (by rfl) 32 _ rfl (xb2) (0) (by rfl) (p3L (C.get j)) _ (rangeN K2c.out.T.b0) Try.underlying32 rfl (infoPtr _) ?_))
                have hC := hw.out wc2 (C.get j) K2c.out.T.p.kept hflf.out
                rw [hPl.out] at hC
                refine hC.mono ?_
                rintro e wd2 ⟨rfl, b15⟩
                have K2d := Lib.hid (K2c.out.below b15)
                clear b15 K2c hC
                have KE := Lib.hid K2d.out.tail
                clear K2d
                have hm2 : Hid (t.metUp P (i + 1) = qs ++ [r]) := Lib.hid (by rw [hm1.out]; simp [hPr.out, if_pos hz0.out, hPm.out, if_neg hz1.out, hPl.out])
                have hr2 : Hid (t.reachUp P (i + 1) = ns) := Lib.hid (by rw [hr1.out]; simp [hPr.out, if_pos hz0.out, hPm.out, if_neg hz1.out, hPl.out])
                clear hm1 hr1
                go_wp2
                go_roundw
                case rel => exact ⟨i + 1, _, m0, A, C, qs ++ [r], ns, by omega, by go_num, KE, p0, a0, hm2, hr2, Lib.hid (fun _ _ => rfl), Lib.hid (fun h _ _ => by rw [hn8.out h]; exact hC.out.symm)⟩
                case measure => simp [intOf] <;> omega
              | true =>
                have hPl := Lib.hid hPl'
                clear hPl'
                rw [rounds_succ]
                go_wp2
                have K2a := Lib.hid K1h.out.drew
                refine inO_region [(7, fun w' => w'.rangeAt (wb.heap.size) (48 + j * 3) (p3L (C.get j)))] (by kernel_rfl) (Owed.cons (on_z (K2a.out.T.b0) hj8.out) (Owed.nil _ _)) ?_
                refine inO_take 0 ⟨_, _, _, _, _, _⟩ (.int .i64 2) rfl (by kernel_rfl) (by kernel_rfl) (by kernel_rfl) (fun _ _ _ h => h) rfl (fun ww => exec_move (by rfl) (by rfl) ww) ?_
                simp only [Act.put, List.setIfInBounds_toArray, List.set_cons_zero, List.set_cons_succ]
                refine inO_take 1 ⟨_, _, _, _, _, _⟩ (.int .i64 (i : Int)) rfl (by kernel_rfl) (by kernel_rfl) (by kernel_rfl) (fun _ _ _ h => h) rfl (fun ww => exec_move (by rfl) (by rfl) ww) ?_
                simp only [Act.put, List.setIfInBounds_toArray, List.set_cons_zero, List.set_cons_succ]
                refine inO_take 2 ⟨_, _, _, _, _, _⟩ (.int .i64 1) rfl (by kernel_rfl) (by kernel_rfl) (by kernel_rfl) (fun _ _ _ h => h) rfl (fun ww => exec_move (by rfl) (by rfl) ww) ?_
                simp only [Act.put, List.setIfInBounds_toArray, List.set_cons_zero, List.set_cons_succ]
                refine inO_take 3 ⟨_, _, _, _, _, _⟩ (.int .i64 (i : Int)) rfl (by kernel_rfl) (by kernel_rfl) (by kernel_rfl) (fun _ _ _ h => h) rfl (fun ww => by go_simp <;> (rw [IntKind.wrap_i64]; omega)) ?_
                simp only [Act.put, List.setIfInBounds_toArray, List.set_cons_zero, List.set_cons_succ]
                refine inO_take 4 ⟨_, _, _, _, _, _⟩ (.int .i64 (j : Int)) rfl (by kernel_rfl) (by kernel_rfl) (by kernel_rfl) (fun _ _ _ h => h) rfl (fun ww => by have e := ej.out; go_simp <;> (first | omega | (rw [Int.tmod_eq_emod_of_nonneg (by omega)]; omega))) ?_
                simp only [Act.put, List.setIfInBounds_toArray, List.set_cons_zero, List.set_cons_succ]
                refine inO_take 5 ⟨_, _, _, _, _, _⟩ (.pointer (some ⟨wb.heap.size, 48, none⟩)) rfl (by kernel_rfl) (by kernel_rfl) (by kernel_rfl) (fun _ _ _ h => h) rfl (fun ww => by go_simp) ?_
                simp only [Act.put, List.setIfInBounds_toArray, List.set_cons_zero, List.set_cons_succ]
                refine inO_take 6 ⟨_, _, _, _, _, _⟩ (.pointer (some ⟨wb.heap.size, 48 + j * 3, none⟩)) rfl (by kernel_rfl) (by kernel_rfl) (by kernel_rfl) (fun _ _ _ h => h) rfl (fun ww => by go_simp; intro hh; have := hj8.out; omega) ?_
                simp only [Act.put, List.setIfInBounds_toArray, List.set_cons_zero, List.set_cons_succ]
                refine inO_load 7 ⟨_, _, _, _, _, _⟩ (.agg (p3L (C.get j)).toArray) (fun w' => w'.rangeAt (wb.heap.size) (48 + j * 3) (p3L (C.get j))) rfl (by kernel_rfl) (by kernel_rfl) (by kernel_rfl) (fun _ _ _ h => h) rfl (.head _) (fun ww hw => exec_load_mid _ _ (by rfl) _ _ (by rfl) _ _ hw Try.underlying32 rfl (infoPtr _)) ?_
                simp only [Act.put, List.setIfInBounds_toArray, List.set_cons_zero, List.set_cons_succ]
                refine inO_step 8 ⟨_, _, _, _, _, _⟩ rfl (by kernel_rfl) rfl (fun K hK => ?_)
                refine wp_newPtr rfl ?_
                have K2b := Lib.hid (K2a.out.box 32 (p3L p3z))
                refine hK _ _ (Keeps.cons (fun hh j v hv => cell_alloc (hh j v hv) _) (Keeps.nil _ _ _)) ?_
                clear hK K
                simp only [Act.put, List.setIfInBounds_toArray, List.set_cons_zero, List.set_cons_succ]
                refine inO_step 9 ⟨_, _, _, _, _, _⟩ rfl (by kernel_rfl) rfl (fun K hK => ?_)
                refine wp_store_blk 32 _ _ rfl (wd1.drew.heap.size) 0 (by rfl) (p3L (C.get j)) (by rfl) 32 (p3L p3z) (p3L (C.get j)) K2b.out.T.b0 (Nat.le_of_eq rfl) (p3L_one _) (infoPtr _) (whole_new rfl) fun wc2 h14 k14 z14 => ?_
                have K2c := Lib.hid (K2b.out.over k14 h14)
                clear h14 k14 z14
                refine hK _ _ (Keeps.late (by kernel_rfl) (Keeps.nil _ _ _)) ?_
                clear hK K
                simp only [Act.put]
                refine inO_done (by kernel_rfl) ?_
                obtain ⟨xb2, hxb⟩ : ∃ xb, Hid (xb = wd1.drew.heap.size) := ⟨_, Lib.hid rfl⟩
                rw [← hxb.out] at K2c ⊢
                clear K2a K2b hxb K1h
                go_wp2_with (first
                  | ((with_reducible refine n2Dst (some 38) (by rfl) ?_); refine wantList_load (by rfl) 32 _ rfl (xb2) (0) (by rfl) (p3L (C.get j)) _ (rangeN K2c.out.T.b0) Try.underlying32 rfl (infoPtr _) ?_))
                have hC := hw.out wc2 (C.get j) K2c.out.T.p.kept hflf.out
                rw [hPl.out] at hC
                refine hC.mono ?_
                rintro e wd2 ⟨rfl, b15⟩
                have K2d := Lib.hid (K2c.out.below b15)
                clear b15 K2c hC
                go_wp2_with (first
                  | ((with_reducible refine n2Dst (some 46) (by rfl) ?_); refine wantList_load (by rfl) 32 _ rfl (xb2) (0) (by rfl) (p3L (C.get j)) _ (rangeN K2d.out.T.b0) Try.underlying32 rfl (infoPtr _) ?_)
                  | ((with_reducible refine n2Dst (some 47) (by rfl) ?_); refine wpList_bsP (by rfl) (.tmp 46) rfl (C.get j) (by rfl) ?_)
                  | (at_builtin; refine wpList_pushN rfl (.tmp 45) (.tmp 47) 37 rfl w.heap.size 32 j0 _ 3 24 Try.underlying37 hj0 hy0 hy1 hy2 rfl (by decide) v0 _ _ wd2 (by rfl) K2d.out.rv 1 (p3L (C.get j)).toArray (by rfl) (by rfl) (p3L_one _) (by have := hql.out; (try simp only [List.length_append, List.length_cons, List.length_nil]); omega) (by have := hql.out; (try simp only [List.length_append, List.length_cons, List.length_nil]); omega) K2d.out.T.size ?_; intro v2 we2 ho hg hv; have K2e := Lib.hid (K2d.out.pushV (C.get j) ho hg); clear ho hg hv)
                  | ((with_reducible refine n2Dst (some 54) (by rfl) ?_); refine wantList_load (by rfl) 32 _ rfl (xb2) (0) (by rfl) (p3L (C.get j)) _ (rangeN K2e.out.T.b0) Try.underlying32 rfl (infoPtr _) ?_))
                rw [rounds_succ]
                have K9 := Lib.hid K2e.out.tail
                clear K2e K2d
                have hm2 : Hid (t.metUp P (i + 1) = qs ++ [r] ++ [C.get j]) := Lib.hid (by rw [hm1.out]; simp [hPr.out, if_pos hz0.out, hPm.out, if_neg hz1.out, hPl.out])
                have hr2 : Hid (t.reachUp P (i + 1) = ns ++ [i]) := Lib.hid (by rw [hr1.out]; simp [hPr.out, if_pos hz0.out, hPm.out, if_neg hz1.out, hPl.out])
                clear hm1 hr1
                go_wp2_with (first
                  | (at_builtin; refine wpList_pushN rfl (.tmp 66) (.tmp 68) 46 rfl w.heap.size 3 i0 _ 1 8 Try.underlying46 hi0 hx0' hx1' hx2' rfl (by decide) u10 _ _ we2 (by rfl) K9.out.ru 1 #[.int .i64 (i : Int)] (by rfl) (by rfl) (fun x hx => by simp only [List.mem_cons, List.not_mem_nil, or_false] at hx; subst hx; rfl) (by have := hnl.out; omega) (by have := hnl.out; omega) K9.out.T.size ?_; intro v9 w9 ho hg hv; have KA := Lib.hid (K9.out.pushU i ho hg); clear ho hg hv))
                go_roundw
                case rel => exact ⟨i + 1, _, m0, A, C, qs ++ [r] ++ [C.get j], ns ++ [i], by omega, by go_num, KA, p0, a0, hm2, hr2, Lib.hid (fun _ _ => rfl), Lib.hid (fun h _ _ => by rw [hn8.out h]; exact hC.out.symm)⟩
                case measure => simp [intOf] <;> omega
        · have hz0 : Hid (¬ i = 0) := Lib.hid hi0
          clear hi0
          have hxe : x1 = A := hx1.out (by have := hz0.out; omega) hPr.out
          rw [hxe] at K
          clear hxe
          rw [rounds_succ]
          go_wp2
          have K0a := Lib.hid K.out.drew
          refine inO_region [(7, fun w' => w'.rangeAt (wb.heap.size) (0) (p3L (r)))] (by kernel_rfl) (Owed.cons (on_r (K0a.out.T.b0)) (Owed.nil _ _)) ?_
          refine inO_take 0 ⟨_, _, _, _, _, _⟩ (.int .i64 0) rfl (by kernel_rfl) (by kernel_rfl) (by kernel_rfl) (fun _ _ _ h => h) rfl (fun ww => exec_move (by rfl) (by rfl) ww) ?_
          simp only [Act.put, List.setIfInBounds_toArray, List.set_cons_zero, List.set_cons_succ]
          refine inO_take 1 ⟨_, _, _, _, _, _⟩ (.int .i64 (i : Int)) rfl (by kernel_rfl) (by kernel_rfl) (by kernel_rfl) (fun _ _ _ h => h) rfl (fun ww => exec_move (by rfl) (by rfl) ww) ?_
          simp only [Act.put, List.setIfInBounds_toArray, List.set_cons_zero, List.set_cons_succ]
          refine inO_take 2 ⟨_, _, _, _, _, _⟩ (.int .i64 64) rfl (by kernel_rfl) (by kernel_rfl) (by kernel_rfl) (fun _ _ _ h => h) rfl (fun ww => exec_move (by rfl) (by rfl) ww) ?_
          simp only [Act.put, List.setIfInBounds_toArray, List.set_cons_zero, List.set_cons_succ]
          refine inO_take 3 ⟨_, _, _, _, _, _⟩ (.int .i64 0) rfl (by kernel_rfl) (by kernel_rfl) (by kernel_rfl) (fun _ _ _ h => h) rfl (fun ww => by have e := e64.out; go_simp <;> (rw [IntKind.wrap_i64]; omega)) ?_
          simp only [Act.put, List.setIfInBounds_toArray, List.set_cons_zero, List.set_cons_succ]
          refine inO_take 4 ⟨_, _, _, _, _, _⟩ (.int .i64 0) rfl (by kernel_rfl) (by kernel_rfl) (by kernel_rfl) (fun _ _ _ h => h) rfl (fun ww => by go_simp) ?_
          simp only [Act.put, List.setIfInBounds_toArray, List.set_cons_zero, List.set_cons_succ]
          refine inO_take 5 ⟨_, _, _, _, _, _⟩ (.pointer (some ⟨wb.heap.size, 0, none⟩)) rfl (by kernel_rfl) (by kernel_rfl) (by kernel_rfl) (fun _ _ _ h => h) rfl (fun ww => by go_simp) ?_
          simp only [Act.put, List.setIfInBounds_toArray, List.set_cons_zero, List.set_cons_succ]
          refine inO_take 6 ⟨_, _, _, _, _, _⟩ (.pointer (some ⟨wb.heap.size, 0, none⟩)) rfl (by kernel_rfl) (by kernel_rfl) (by kernel_rfl) (fun _ _ _ h => h) rfl (fun ww => by go_simp) ?_
          simp only [Act.put, List.setIfInBounds_toArray, List.set_cons_zero, List.set_cons_succ]
          refine inO_load 7 ⟨_, _, _, _, _, _⟩ (.agg (p3L (r)).toArray) (fun w' => w'.rangeAt (wb.heap.size) (0) (p3L (r))) rfl (by kernel_rfl) (by kernel_rfl) (by kernel_rfl) (fun _ _ _ h => h) rfl (.head _) (fun ww hw => exec_load_mid _ _ (by rfl) _ _ (by rfl) _ _ hw Try.underlying32 rfl (infoPtr _)) ?_
          simp only [Act.put, List.setIfInBounds_toArray, List.set_cons_zero, List.set_cons_succ]
          refine inO_step 8 ⟨_, _, _, _, _, _⟩ rfl (by kernel_rfl) rfl (fun K hK => ?_)
          refine wp_newPtr rfl ?_
          have K0b := Lib.hid (K0a.out.box 32 (p3L p3z))
          refine hK _ _ (Keeps.cons (fun hh j v hv => cell_alloc (hh j v hv) _) (Keeps.nil _ _ _)) ?_
          clear hK K
          simp only [Act.put, List.setIfInBounds_toArray, List.set_cons_zero, List.set_cons_succ]
          refine inO_step 9 ⟨_, _, _, _, _, _⟩ rfl (by kernel_rfl) rfl (fun K hK => ?_)
          refine wp_store_blk 32 _ _ rfl (wr.drew.heap.size) 0 (by rfl) (p3L (r)) (by rfl) 32 (p3L p3z) (p3L (r)) K0b.out.T.b0 (Nat.le_of_eq rfl) (p3L_one _) (infoPtr _) (whole_new rfl) fun wc0 h14 k14 z14 => ?_
          have K0c := Lib.hid (K0b.out.over k14 h14)
          clear h14 k14 z14
          refine hK _ _ (Keeps.late (by kernel_rfl) (Keeps.nil _ _ _)) ?_
          clear hK K
          simp only [Act.put]
          refine inO_done (by kernel_rfl) ?_
          obtain ⟨xb0, hxb⟩ : ∃ xb, Hid (xb = wr.drew.heap.size) := ⟨_, Lib.hid rfl⟩
          rw [← hxb.out] at K0c ⊢
          clear K0a K0b hxb K
          go_wp2_with (first
            | ((with_reducible refine n2Dst (some 38) (by rfl) ?_); refine wantList_load (by rfl) 32 _ rfl (xb0) (0) (by rfl) (p3L (r)) _ (rangeN K0c.out.T.b0) Try.underlying32 rfl (infoPtr _) ?_))
          have hC := hw.out wc0 (r) K0c.out.T.p.kept hfr.out
          rw [hPr.out] at hC
          refine hC.mono ?_
          rintro e wd0 ⟨rfl, b15⟩
          have K0d := Lib.hid (K0c.out.below b15)
          clear b15 K0c hC
          have hrem : (i : Int) % 64 = (i : Int) := by omega
          have hpos : 0 < i := by have := hz0.out; omega
          have K0h := Lib.hid K0d.out.tail
          clear K0d
          go_wp2
          clear hrem hpos
          cases hPm' : P (A.get k) with
          | false =>
            have hPm := Lib.hid hPm'
            clear hPm'
            rw [rounds_succ]
            go_wp2
            have K1a := Lib.hid K0h.out.drew
            refine inO_region [(7, fun w' => w'.rangeAt (wb.heap.size) (24 + k * 3) (p3L (A.get k)))] (by kernel_rfl) (Owed.cons (on_y (K1a.out.T.b0) hk8.out) (Owed.nil _ _)) ?_
            refine inO_take 0 ⟨_, _, _, _, _, _⟩ (.int .i64 1) rfl (by kernel_rfl) (by kernel_rfl) (by kernel_rfl) (fun _ _ _ h => h) rfl (fun ww => exec_move (by rfl) (by rfl) ww) ?_
            simp only [Act.put, List.setIfInBounds_toArray, List.set_cons_zero, List.set_cons_succ]
            refine inO_take 1 ⟨_, _, _, _, _, _⟩ (.int .i64 (i : Int)) rfl (by kernel_rfl) (by kernel_rfl) (by kernel_rfl) (fun _ _ _ h => h) rfl (fun ww => exec_move (by rfl) (by rfl) ww) ?_
            simp only [Act.put, List.setIfInBounds_toArray, List.set_cons_zero, List.set_cons_succ]
            refine inO_take 2 ⟨_, _, _, _, _, _⟩ (.int .i64 8) rfl (by kernel_rfl) (by kernel_rfl) (by kernel_rfl) (fun _ _ _ h => h) rfl (fun ww => exec_move (by rfl) (by rfl) ww) ?_
            simp only [Act.put, List.setIfInBounds_toArray, List.set_cons_zero, List.set_cons_succ]
            refine inO_take 3 ⟨_, _, _, _, _, _⟩ (.int .i64 (k : Int)) rfl (by kernel_rfl) (by kernel_rfl) (by kernel_rfl) (fun _ _ _ h => h) rfl (fun ww => by have e := e8.out; have := hk8.out; go_simp <;> (rw [IntKind.wrap_i64]; omega)) ?_
            simp only [Act.put, List.setIfInBounds_toArray, List.set_cons_zero, List.set_cons_succ]
            refine inO_take 4 ⟨_, _, _, _, _, _⟩ (.int .i64 (k : Int)) rfl (by kernel_rfl) (by kernel_rfl) (by kernel_rfl) (fun _ _ _ h => h) rfl (fun ww => by have e := ek.out; have h8 := hk8.out; go_simp <;> (rw [Int.tmod_eq_emod_of_nonneg (by omega)]; omega)) ?_
            simp only [Act.put, List.setIfInBounds_toArray, List.set_cons_zero, List.set_cons_succ]
            refine inO_take 5 ⟨_, _, _, _, _, _⟩ (.pointer (some ⟨wb.heap.size, 24, none⟩)) rfl (by kernel_rfl) (by kernel_rfl) (by kernel_rfl) (fun _ _ _ h => h) rfl (fun ww => by go_simp) ?_
            simp only [Act.put, List.setIfInBounds_toArray, List.set_cons_zero, List.set_cons_succ]
            refine inO_take 6 ⟨_, _, _, _, _, _⟩ (.pointer (some ⟨wb.heap.size, 24 + k * 3, none⟩)) rfl (by kernel_rfl) (by kernel_rfl) (by kernel_rfl) (fun _ _ _ h => h) rfl (fun ww => by go_simp; intro hh; have := hk8.out; omega) ?_
            simp only [Act.put, List.setIfInBounds_toArray, List.set_cons_zero, List.set_cons_succ]
            refine inO_load 7 ⟨_, _, _, _, _, _⟩ (.agg (p3L (A.get k)).toArray) (fun w' => w'.rangeAt (wb.heap.size) (24 + k * 3) (p3L (A.get k))) rfl (by kernel_rfl) (by kernel_rfl) (by kernel_rfl) (fun _ _ _ h => h) rfl (.head _) (fun ww hw => exec_load_mid _ _ (by rfl) _ _ (by rfl) _ _ hw Try.underlying32 rfl (infoPtr _)) ?_
            simp only [Act.put, List.setIfInBounds_toArray, List.set_cons_zero, List.set_cons_succ]
            refine inO_step 8 ⟨_, _, _, _, _, _⟩ rfl (by kernel_rfl) rfl (fun K hK => ?_)
            refine wp_newPtr rfl ?_
            have K1b := Lib.hid (K1a.out.box 32 (p3L p3z))
            refine hK _ _ (Keeps.cons (fun hh j v hv => cell_alloc (hh j v hv) _) (Keeps.nil _ _ _)) ?_
            clear hK K
            simp only [Act.put, List.setIfInBounds_toArray, List.set_cons_zero, List.set_cons_succ]
            refine inO_step 9 ⟨_, _, _, _, _, _⟩ rfl (by kernel_rfl) rfl (fun K hK => ?_)
            refine wp_store_blk 32 _ _ rfl (wd0.drew.heap.size) 0 (by rfl) (p3L (A.get k)) (by rfl) 32 (p3L p3z) (p3L (A.get k)) K1b.out.T.b0 (Nat.le_of_eq rfl) (p3L_one _) (infoPtr _) (whole_new rfl) fun wc1 h14 k14 z14 => ?_
            have K1c := Lib.hid (K1b.out.over k14 h14)
            clear h14 k14 z14
            refine hK _ _ (Keeps.late (by kernel_rfl) (Keeps.nil _ _ _)) ?_
            clear hK K
            simp only [Act.put]
            refine inO_done (by kernel_rfl) ?_
            obtain ⟨xb1, hxb⟩ : ∃ xb, Hid (xb = wd0.drew.heap.size) := ⟨_, Lib.hid rfl⟩
            rw [← hxb.out] at K1c ⊢
            clear K1a K1b hxb K0h
            go_wp2_with (first
              | ((with_reducible refine n2Dst (some 38) (by rfl) ?_); refine wantList_load (by rfl) 32 _ rfl (xb1) (0) (by rfl) (p3L (A.get k)) _ (rangeN K1c.out.T.b0) Try.underlying32 rfl (infoPtr _) ?_))
            have hC := hw.out wc1 (A.get k) K1c.out.T.p.kept hfmd.out
            rw [hPm.out] at hC
            refine hC.mono ?_
            rintro e wd1 ⟨rfl, b15⟩
            have K1d := Lib.hid (K1c.out.below b15)
            clear b15 K1c hC
            have KE := Lib.hid K1d.out.tail
            clear K1d
            have hm2 : Hid (t.metUp P (i + 1) = qs) := Lib.hid (by rw [hm1.out]; simp [hPr.out, if_neg hz0.out, hPm.out])
            have hr2 : Hid (t.reachUp P (i + 1) = ns) := Lib.hid (by rw [hr1.out]; simp [hPr.out, if_neg hz0.out, hPm.out])
            clear hm1 hr1
            go_wp2
            go_roundw
            case rel => exact ⟨i + 1, _, m', A, x2, qs, ns, by omega, by go_num, KE, tp, al, hm2, hr2, Lib.hid (fun _ _ => rfl), Lib.hid (fun h _ h3 => absurd h3 (by rw [hn8.out h, hPm.out]; decide))⟩
            case measure => simp [intOf] <;> omega
          | true =>
            have hPm := Lib.hid hPm'
            clear hPm'
            by_cases hj0' : j = 0
            · have hz1 : Hid (j = 0) := Lib.hid hj0'
              clear hj0'
              rw [rounds_succ]
              go_wp2
              have K1a := Lib.hid K0h.out.drew
              refine inO_region [(7, fun w' => w'.rangeAt (wb.heap.size) (24 + k * 3) (p3L (A.get k)))] (by kernel_rfl) (Owed.cons (on_y (K1a.out.T.b0) hk8.out) (Owed.nil _ _)) ?_
              refine inO_take 0 ⟨_, _, _, _, _, _⟩ (.int .i64 1) rfl (by kernel_rfl) (by kernel_rfl) (by kernel_rfl) (fun _ _ _ h => h) rfl (fun ww => exec_move (by rfl) (by rfl) ww) ?_
              simp only [Act.put, List.setIfInBounds_toArray, List.set_cons_zero, List.set_cons_succ]
              refine inO_take 1 ⟨_, _, _, _, _, _⟩ (.int .i64 (i : Int)) rfl (by kernel_rfl) (by kernel_rfl) (by kernel_rfl) (fun _ _ _ h => h) rfl (fun ww => exec_move (by rfl) (by rfl) ww) ?_
              simp only [Act.put, List.setIfInBounds_toArray, List.set_cons_zero, List.set_cons_succ]
              refine inO_take 2 ⟨_, _, _, _, _, _⟩ (.int .i64 8) rfl (by kernel_rfl) (by kernel_rfl) (by kernel_rfl) (fun _ _ _ h => h) rfl (fun ww => exec_move (by rfl) (by rfl) ww) ?_
              simp only [Act.put, List.setIfInBounds_toArray, List.set_cons_zero, List.set_cons_succ]
              refine inO_take 3 ⟨_, _, _, _, _, _⟩ (.int .i64 (k : Int)) rfl (by kernel_rfl) (by kernel_rfl) (by kernel_rfl) (fun _ _ _ h => h) rfl (fun ww => by have e := e8.out; have := hk8.out; go_simp <;> (rw [IntKind.wrap_i64]; omega)) ?_
              simp only [Act.put, List.setIfInBounds_toArray, List.set_cons_zero, List.set_cons_succ]
              refine inO_take 4 ⟨_, _, _, _, _, _⟩ (.int .i64 (k : Int)) rfl (by kernel_rfl) (by kernel_rfl) (by kernel_rfl) (fun _ _ _ h => h) rfl (fun ww => by have e := ek.out; have h8 := hk8.out; go_simp <;> (rw [Int.tmod_eq_emod_of_nonneg (by omega)]; omega)) ?_
              simp only [Act.put, List.setIfInBounds_toArray, List.set_cons_zero, List.set_cons_succ]
              refine inO_take 5 ⟨_, _, _, _, _, _⟩ (.pointer (some ⟨wb.heap.size, 24, none⟩)) rfl (by kernel_rfl) (by kernel_rfl) (by kernel_rfl) (fun _ _ _ h => h) rfl (fun ww => by go_simp) ?_
              simp only [Act.put, List.setIfInBounds_toArray, List.set_cons_zero, List.set_cons_succ]
              refine inO_take 6 ⟨_, _, _, _, _, _⟩ (.pointer (some ⟨wb.heap.size, 24 + k * 3, none⟩)) rfl (by kernel_rfl) (by kernel_rfl) (by kernel_rfl) (fun _ _ _ h => h) rfl (fun ww => by go_simp; intro hh; have := hk8.out; omega) ?_
              simp only [Act.put, List.setIfInBounds_toArray, List.set_cons_zero, List.set_cons_succ]
              refine inO_load 7 ⟨_, _, _, _, _, _⟩ (.agg (p3L (A.get k)).toArray) (fun w' => w'.rangeAt (wb.heap.size) (24 + k * 3) (p3L (A.get k))) rfl (by kernel_rfl) (by kernel_rfl) (by kernel_rfl) (fun _ _ _ h => h) rfl (.head _) (fun ww hw => exec_load_mid _ _ (by rfl) _ _ (by rfl) _ _ hw Try.underlying32 rfl (infoPtr _)) ?_
              simp only [Act.put, List.setIfInBounds_toArray, List.set_cons_zero, List.set_cons_succ]
              refine inO_step 8 ⟨_, _, _, _, _, _⟩ rfl (by kernel_rfl) rfl (fun K hK => ?_)
              refine wp_newPtr rfl ?_
              have K1b := Lib.hid (K1a.out.box 32 (p3L p3z))
              refine hK _ _ (Keeps.cons (fun hh j v hv => cell_alloc (hh j v hv) _) (Keeps.nil _ _ _)) ?_
              clear hK K
              simp only [Act.put, List.setIfInBounds_toArray, List.set_cons_zero, List.set_cons_succ]
              refine inO_step 9 ⟨_, _, _, _, _, _⟩ rfl (by kernel_rfl) rfl (fun K hK => ?_)
              refine wp_store_blk 32 _ _ rfl (wd0.drew.heap.size) 0 (by rfl) (p3L (A.get k)) (by rfl) 32 (p3L p3z) (p3L (A.get k)) K1b.out.T.b0 (Nat.le_of_eq rfl) (p3L_one _) (infoPtr _) (whole_new rfl) fun wc1 h14 k14 z14 => ?_
              have K1c := Lib.hid (K1b.out.over k14 h14)
              clear h14 k14 z14
              refine hK _ _ (Keeps.late (by kernel_rfl) (Keeps.nil _ _ _)) ?_
              clear hK K
              simp only [Act.put]
              refine inO_done (by kernel_rfl) ?_
              obtain ⟨xb1, hxb⟩ : ∃ xb, Hid (xb = wd0.drew.heap.size) := ⟨_, Lib.hid rfl⟩
              rw [← hxb.out] at K1c ⊢
              clear K1a K1b hxb K0h
              go_wp2_with (first
                | ((with_reducible refine n2Dst (some 38) (by rfl) ?_); refine wantList_load (by rfl) 32 _ rfl (xb1) (0) (by rfl) (p3L (A.get k)) _ (rangeN K1c.out.T.b0) Try.underlying32 rfl (infoPtr _) ?_))
              have hC := hw.out wc1 (A.get k) K1c.out.T.p.kept hfmd.out
              rw [hPm.out] at hC
              refine hC.mono ?_
              rintro e wd1 ⟨rfl, b15⟩
              have K1d := Lib.hid (K1c.out.below b15)
              clear b15 K1c hC
              have hrem : (i : Int) % 8 = 0 := by have := hz1.out; have := ej.out; omega
              go_wp2_with (first
                | ((with_reducible refine n2Dst (some 46) (by rfl) ?_); refine wantList_load (by rfl) 32 _ rfl (xb1) (0) (by rfl) (p3L (A.get k)) _ (rangeN K1d.out.T.b0) Try.underlying32 rfl (infoPtr _) ?_)
                | ((with_reducible refine n2Dst (some 47) (by rfl) ?_); refine wpList_bsP (by rfl) (.tmp 46) rfl (A.get k) (by rfl) ?_)
                | (at_builtin; refine wpList_pushN rfl (.tmp 45) (.tmp 47) 37 rfl w.heap.size 32 j0 _ 3 24 Try.underlying37 hj0 hy0 hy1 hy2 rfl (by decide) u9 _ _ wd1 (by rfl) K1d.out.rv 1 (p3L (A.get k)).toArray (by rfl) (by rfl) (p3L_one _) (by have := hql.out; (try simp only [List.length_append, List.length_cons, List.length_nil]); omega) (by have := hql.out; (try simp only [List.length_append, List.length_cons, List.length_nil]); omega) K1d.out.T.size ?_; intro v1 we1 ho hg hv; have K1e := Lib.hid (K1d.out.pushV (A.get k) ho hg); clear ho hg hv)
                | ((with_reducible refine n2Dst (some 54) (by rfl) ?_); refine wantList_load (by rfl) 32 _ rfl (xb1) (0) (by rfl) (p3L (A.get k)) _ (rangeN K1e.out.T.b0) Try.underlying32 rfl (infoPtr _) ?_))
              obtain ⟨m1, hLd, p1, a1⟩ := hLm1.out m' al.out tp.out
              have hLd := Lib.hid hLd
              have p1 := Lib.hid p1
              have a1 := Lib.hid a1
              refine (hLd.out _ _ K1e.out.T.p.at_).mono ?_
              rintro e wf1 ⟨rfl, F1, S1⟩
              have K1f := Lib.hid (K1e.out.turn S1)
              have hN := Lib.hid (Blk.new wf1 66 (p8L holesP))
              clear S1 hLd K1d K1e
              go_wp2_with (first
                | ((with_reducible refine guardList ?_); refine tOper 16 (by rfl) ?_; refine wantList_store (by rfl) 66 _ _ rfl (wf1.heap.size) 0 (by rfl) (p8L (C)) (by rfl) _ (p8L (holesP)) (p8L (C)) (hN.out) (by simp only [p8L_length]; decide) (p8L_one _) (infoP8 _) wholeP8 ?_; intro wg1 hR kk zz; have K1g := Lib.hid (K1f.out.lay kk hR); clear zz kk hR)
                | ((with_reducible refine n2Dst (some 63) (by rfl) ?_); refine wantList_load (by rfl) 66 _ rfl (wf1.heap.size) (0) (by rfl) (p8L (C)) _ (rangeN K1g.out.T.b0) Try.underlying66 rfl (infoP8 _) ?_)
                | ((with_reducible refine guardList ?_); refine tOper 64 (by rfl) ?_; refine wantList_store (by rfl) 66 _ _ rfl (wb.heap.size) (48) (by rfl) (p8L (C)) (by rfl) _ (onL (holesP.set 0 r) (A) (x2)) (onL (holesP.set 0 r) (A) (C)) (K1g.out.T.b2) (by simp only [p8L_length, onL_length]; decide) (p8L_one _) (infoP8 _) (on_setZ C) ?_; intro wh1 hR kk zz; have K1h := Lib.hid ((K1g.out.rot.over kk hR).only); clear zz kk hR))
              clear K1f K1g hN
              clear hrem
              cases hPl' : P (C.get j) with
              | false =>
                have hPl := Lib.hid hPl'
                clear hPl'
                rw [rounds_succ]
                go_wp2
                have K2a := Lib.hid K1h.out.drew
                refine inO_region [(7, fun w' => w'.rangeAt (wb.heap.size) (48 + j * 3) (p3L (C.get j)))] (by kernel_rfl) (Owed.cons (on_z (K2a.out.T.b0) hj8.out) (Owed.nil _ _)) ?_
                refine inO_take 0 ⟨_, _, _, _, _, _⟩ (.int .i64 2) rfl (by kernel_rfl) (by kernel_rfl) (by kernel_rfl) (fun _ _ _ h => h) rfl (fun ww => exec_move (by rfl) (by rfl) ww) ?_
                simp only [Act.put, List.setIfInBounds_toArray, List.set_cons_zero, List.set_cons_succ]
                refine inO_take 1 ⟨_, _, _, _, _, _⟩ (.int .i64 (i : Int)) rfl (by kernel_rfl) (by kernel_rfl) (by kernel_rfl) (fun _ _ _ h => h) rfl (fun ww => exec_move (by rfl) (by rfl) ww) ?_
                simp only [Act.put, List.setIfInBounds_toArray, List.set_cons_zero, List.set_cons_succ]
                refine inO_take 2 ⟨_, _, _, _, _, _⟩ (.int .i64 1) rfl (by kernel_rfl) (by kernel_rfl) (by kernel_rfl) (fun _ _ _ h => h) rfl (fun ww => exec_move (by rfl) (by rfl) ww) ?_
                simp only [Act.put, List.setIfInBounds_toArray, List.set_cons_zero, List.set_cons_succ]
                refine inO_take 3 ⟨_, _, _, _, _, _⟩ (.int .i64 (i : Int)) rfl (by kernel_rfl) (by kernel_rfl) (by kernel_rfl) (fun _ _ _ h => h) rfl (fun ww => by go_simp <;> (rw [IntKind.wrap_i64]; omega)) ?_
                simp only [Act.put, List.setIfInBounds_toArray, List.set_cons_zero, List.set_cons_succ]
                refine inO_take 4 ⟨_, _, _, _, _, _⟩ (.int .i64 (j : Int)) rfl (by kernel_rfl) (by kernel_rfl) (by kernel_rfl) (fun _ _ _ h => h) rfl (fun ww => by have e := ej.out; go_simp <;> (first | omega | (rw [Int.tmod_eq_emod_of_nonneg (by omega)]; omega))) ?_
                simp only [Act.put, List.setIfInBounds_toArray, List.set_cons_zero, List.set_cons_succ]
                refine inO_take 5 ⟨_, _, _, _, _, _⟩ (.pointer (some ⟨wb.heap.size, 48, none⟩)) rfl (by kernel_rfl) (by kernel_rfl) (by kernel_rfl) (fun _ _ _ h => h) rfl (fun ww => by go_simp) ?_
                simp only [Act.put, List.setIfInBounds_toArray, List.set_cons_zero, List.set_cons_succ]
                refine inO_take 6 ⟨_, _, _, _, _, _⟩ (.pointer (some ⟨wb.heap.size, 48 + j * 3, none⟩)) rfl (by kernel_rfl) (by kernel_rfl) (by kernel_rfl) (fun _ _ _ h => h) rfl (fun ww => by go_simp; intro hh; have := hj8.out; omega) ?_
                simp only [Act.put, List.setIfInBounds_toArray, List.set_cons_zero, List.set_cons_succ]
                refine inO_load 7 ⟨_, _, _, _, _, _⟩ (.agg (p3L (C.get j)).toArray) (fun w' => w'.rangeAt (wb.heap.size) (48 + j * 3) (p3L (C.get j))) rfl (by kernel_rfl) (by kernel_rfl) (by kernel_rfl) (fun _ _ _ h => h) rfl (.head _) (fun ww hw => exec_load_mid _ _ (by rfl) _ _ (by rfl) _ _ hw Try.underlying32 rfl (infoPtr _)) ?_
                simp only [Act.put, List.setIfInBounds_toArray, List.set_cons_zero, List.set_cons_succ]
                refine inO_step 8 ⟨_, _, _, _, _, _⟩ rfl (by kernel_rfl) rfl (fun K hK => ?_)
                refine wp_newPtr rfl ?_
                have K2b := Lib.hid (K2a.out.box 32 (p3L p3z))
                refine hK _ _ (Keeps.cons (fun hh j v hv => cell_alloc (hh j v hv) _) (Keeps.nil _ _ _)) ?_
                clear hK K
                simp only [Act.put, List.setIfInBounds_toArray, List.set_cons_zero, List.set_cons_succ]
                refine inO_step 9 ⟨_, _, _, _, _, _⟩ rfl (by kernel_rfl) rfl (fun K hK => ?_)
                refine wp_store_blk 32 _ _ rfl (wh1.drew.heap.size) 0 (by rfl) (p3L (C.get j)) (by rfl) 32 (p3L p3z) (p3L (C.get j)) K2b.out.T.b0 (Nat.le_of_eq rfl) (p3L_one _) (infoPtr _) (whole_new rfl) fun wc2 h14 k14 z14 => ?_
                have K2c := Lib.hid (K2b.out.over k14 h14)
                clear h14 k14 z14
                refine hK _ _ (Keeps.late (by kernel_rfl) (Keeps.nil _ _ _)) ?_
                clear hK K
                simp only [Act.put]
                refine inO_done (by kernel_rfl) ?_
                obtain ⟨xb2, hxb⟩ : ∃ xb, Hid (xb = wh1.drew.heap.size) := ⟨_, Lib.hid rfl⟩
                rw [← hxb.out] at K2c ⊢
                clear K2a K2b hxb K1h
                go_wp2_with (first
                  | ((with_reducible refine n2Dst (some 38) (by rfl) ?_); refine wantList_load (by rfl) 32 _ rfl (xb2) (0) (by rfl) (p3L (C.get j)) _ (rangeN K2c.out.T.b0) Try.underlying32 rfl (infoPtr _) ?_))
                have hC := hw.out wc2 (C.get j) K2c.out.T.p.kept hflf.out
                rw [hPl.out] at hC
                refine hC.mono ?_
                rintro e wd2 ⟨rfl, b15⟩
                have K2d := Lib.hid (K2c.out.below b15)
                clear b15 K2c hC
                have KE := Lib.hid K2d.out.tail
                clear K2d
                have hm2 : Hid (t.metUp P (i + 1) = qs ++ [A.get k]) := Lib.hid (by rw [hm1.out]; simp [hPr.out, if_neg hz0.out, hPm.out, if_pos hz1.out, hPl.out])
                have hr2 : Hid (t.reachUp P (i + 1) = ns) := Lib.hid (by rw [hr1.out]; simp [hPr.out, if_neg hz0.out, hPm.out, if_pos hz1.out, hPl.out])
                clear hm1 hr1
                go_wp2
                go_roundw
                case rel => exact ⟨i + 1, _, m1, A, C, qs ++ [A.get k], ns, by omega, by go_num, KE, p1, a1, hm2, hr2, Lib.hid (fun _ _ => rfl), Lib.hid (fun h _ _ => by rw [hn8.out h]; exact hC.out.symm)⟩
                case measure => simp [intOf] <;> omega
              | true =>
                have hPl := Lib.hid hPl'
                clear hPl'
                rw [rounds_succ]
                go_wp2
                have K2a := Lib.hid K1h.out.drew
                refine inO_region [(7, fun w' => w'.rangeAt (wb.heap.size) (48 + j * 3) (p3L (C.get j)))] (by kernel_rfl) (Owed.cons (on_z (K2a.out.T.b0) hj8.out) (Owed.nil _ _)) ?_
                refine inO_take 0 ⟨_, _, _, _, _, _⟩ (.int .i64 2) rfl (by kernel_rfl) (by kernel_rfl) (by kernel_rfl) (fun _ _ _ h => h) rfl (fun ww => exec_move (by rfl) (by rfl) ww) ?_
                simp only [Act.put, List.setIfInBounds_toArray, List.set_cons_zero, List.set_cons_succ]
                refine inO_take 1 ⟨_, _, _, _, _, _⟩ (.int .i64 (i : Int)) rfl (by kernel_rfl) (by kernel_rfl) (by kernel_rfl) (fun _ _ _ h => h) rfl (fun ww => exec_move (by rfl) (by rfl) ww) ?_
                simp only [Act.put, List.setIfInBounds_toArray, List.set_cons_zero, List.set_cons_succ]
                refine inO_take 2 ⟨_, _, _, _, _, _⟩ (.int .i64 1) rfl (by kernel_rfl) (by kernel_rfl) (by kernel_rfl) (fun _ _ _ h => h) rfl (fun ww => exec_move (by rfl) (by rfl) ww) ?_
                simp only [Act.put, List.setIfInBounds_toArray, List.set_cons_zero, List.set_cons_succ]
                refine inO_take 3 ⟨_, _, _, _, _, _⟩ (.int .i64 (i : Int)) rfl (by kernel_rfl) (by kernel_rfl) (by kernel_rfl) (fun _ _ _ h => h) rfl (fun ww => by go_simp <;> (rw [IntKind.wrap_i64]; omega)) ?_
                simp only [Act.put, List.setIfInBounds_toArray, List.set_cons_zero, List.set_cons_succ]
                refine inO_take 4 ⟨_, _, _, _, _, _⟩ (.int .i64 (j : Int)) rfl (by kernel_rfl) (by kernel_rfl) (by kernel_rfl) (fun _ _ _ h => h) rfl (fun ww => by have e := ej.out; go_simp <;> (first | omega | (rw [Int.tmod_eq_emod_of_nonneg (by omega)]; omega))) ?_
                simp only [Act.put, List.setIfInBounds_toArray, List.set_cons_zero, List.set_cons_succ]
                refine inO_take 5 ⟨_, _, _, _, _, _⟩ (.pointer (some ⟨wb.heap.size, 48, none⟩)) rfl (by kernel_rfl) (by kernel_rfl) (by kernel_rfl) (fun _ _ _ h => h) rfl (fun ww => by go_simp) ?_
                simp only [Act.put, List.setIfInBounds_toArray, List.set_cons_zero, List.set_cons_succ]
                refine inO_take 6 ⟨_, _, _, _, _, _⟩ (.pointer (some ⟨wb.heap.size, 48 + j * 3, none⟩)) rfl (by kernel_rfl) (by kernel_rfl) (by kernel_rfl) (fun _ _ _ h => h) rfl (fun ww => by go_simp; intro hh; have := hj8.out; omega) ?_
                simp only [Act.put, List.setIfInBounds_toArray, List.set_cons_zero, List.set_cons_succ]
                refine inO_load 7 ⟨_, _, _, _, _, _⟩ (.agg (p3L (C.get j)).toArray) (fun w' => w'.rangeAt (wb.heap.size) (48 + j * 3) (p3L (C.get j))) rfl (by kernel_rfl) (by kernel_rfl) (by kernel_rfl) (fun _ _ _ h => h) rfl (.head _) (fun ww hw => exec_load_mid _ _ (by rfl) _ _ (by rfl) _ _ hw Try.underlying32 rfl (infoPtr _)) ?_
                simp only [Act.put, List.setIfInBounds_toArray, List.set_cons_zero, List.set_cons_succ]
                refine inO_step 8 ⟨_, _, _, _, _, _⟩ rfl (by kernel_rfl) rfl (fun K hK => ?_)
                refine wp_newPtr rfl ?_
                have K2b := Lib.hid (K2a.out.box 32 (p3L p3z))
                refine hK _ _ (Keeps.cons (fun hh j v hv => cell_alloc (hh j v hv) _) (Keeps.nil _ _ _)) ?_
                clear hK K
                simp only [Act.put, List.setIfInBounds_toArray, List.set_cons_zero, List.set_cons_succ]
                refine inO_step 9 ⟨_, _, _, _, _, _⟩ rfl (by kernel_rfl) rfl (fun K hK => ?_)
                refine wp_store_blk 32 _ _ rfl (wh1.drew.heap.size) 0 (by rfl) (p3L (C.get j)) (by rfl) 32 (p3L p3z) (p3L (C.get j)) K2b.out.T.b0 (Nat.le_of_eq rfl) (p3L_one _) (infoPtr _) (whole_new rfl) fun wc2 h14 k14 z14 => ?_
                have K2c := Lib.hid (K2b.out.over k14 h14)
                clear h14 k14 z14
                refine hK _ _ (Keeps.late (by kernel_rfl) (Keeps.nil _ _ _)) ?_
                clear hK K
                simp only [Act.put]
                refine inO_done (by kernel_rfl) ?_
                obtain ⟨xb2, hxb⟩ : ∃ xb, Hid (xb = wh1.drew.heap.size) := ⟨_, Lib.hid rfl⟩
                rw [← hxb.out] at K2c ⊢
                clear K2a K2b hxb K1h
                go_wp2_with (first
                  | ((with_reducible refine n2Dst (some 38) (by rfl) ?_); refine wantList_load (by rfl) 32 _ rfl (xb2) (0) (by rfl) (p3L (C.get j)) _ (rangeN K2c.out.T.b0) Try.underlying32 rfl (infoPtr _) ?_))
                have hC := hw.out wc2 (C.get j) K2c.out.T.p.kept hflf.out
                rw [hPl.out] at hC
                refine hC.mono ?_
                rintro e wd2 ⟨rfl, b15⟩
                have K2d := Lib.hid (K2c.out.below b15)
                clear b15 K2c hC
                go_wp2_with (first
                  | ((with_reducible refine n2Dst (some 46) (by rfl) ?_); refine wantList_load (by rfl) 32 _ rfl (xb2) (0) (by rfl) (p3L (C.get j)) _ (rangeN K2d.out.T.b0) Try.underlying32 rfl (infoPtr _) ?_)
                  | ((with_reducible refine n2Dst (some 47) (by rfl) ?_); refine wpList_bsP (by rfl) (.tmp 46) rfl (C.get j) (by rfl) ?_)
                  | (at_builtin; refine wpList_pushN rfl (.tmp 45) (.tmp 47) 37 rfl w.heap.size 32 j0 _ 3 24 Try.underlying37 hj0 hy0 hy1 hy2 rfl (by decide) v1 _ _ wd2 (by rfl) K2d.out.rv 1 (p3L (C.get j)).toArray (by rfl) (by rfl) (p3L_one _) (by have := hql.out; (try simp only [List.length_append, List.length_cons, List.length_nil]); omega) (by have := hql.out; (try simp only [List.length_append, List.length_cons, List.length_nil]); omega) K2d.out.T.size ?_; intro v2 we2 ho hg hv; have K2e := Lib.hid (K2d.out.pushV (C.get j) ho hg); clear ho hg hv)
                  | ((with_reducible refine n2Dst (some 54) (by rfl) ?_); refine wantList_load (by rfl) 32 _ rfl (xb2) (0) (by rfl) (p3L (C.get j)) _ (rangeN K2e.out.T.b0) Try.underlying32 rfl (infoPtr _) ?_))
                rw [rounds_succ]
                have K9 := Lib.hid K2e.out.tail
                clear K2e K2d
                have hm2 : Hid (t.metUp P (i + 1) = qs ++ [A.get k] ++ [C.get j]) := Lib.hid (by rw [hm1.out]; simp [hPr.out, if_neg hz0.out, hPm.out, if_pos hz1.out, hPl.out])
                have hr2 : Hid (t.reachUp P (i + 1) = ns ++ [i]) := Lib.hid (by rw [hr1.out]; simp [hPr.out, if_neg hz0.out, hPm.out, if_pos hz1.out, hPl.out])
                clear hm1 hr1
                go_wp2_with (first
                  | (at_builtin; refine wpList_pushN rfl (.tmp 66) (.tmp 68) 46 rfl w.heap.size 3 i0 _ 1 8 Try.underlying46 hi0 hx0' hx1' hx2' rfl (by decide) u10 _ _ we2 (by rfl) K9.out.ru 1 #[.int .i64 (i : Int)] (by rfl) (by rfl) (fun x hx => by simp only [List.mem_cons, List.not_mem_nil, or_false] at hx; subst hx; rfl) (by have := hnl.out; omega) (by have := hnl.out; omega) K9.out.T.size ?_; intro v9 w9 ho hg hv; have KA := Lib.hid (K9.out.pushU i ho hg); clear ho hg hv))
                go_roundw
                case rel => exact ⟨i + 1, _, m1, A, C, qs ++ [A.get k] ++ [C.get j], ns ++ [i], by omega, by go_num, KA, p1, a1, hm2, hr2, Lib.hid (fun _ _ => rfl), Lib.hid (fun h _ _ => by rw [hn8.out h]; exact hC.out.symm)⟩
                case measure => simp [intOf] <;> omega
            · have hz1 : Hid (¬ j = 0) := Lib.hid hj0'
              clear hj0'
              have hxe : x2 = C := hx2.out (by have := hz1.out; omega) hPr.out hPm.out
              rw [hxe] at K0h
              clear hxe
              rw [rounds_succ]
              go_wp2
              have K1a := Lib.hid K0h.out.drew
              refine inO_region [(7, fun w' => w'.rangeAt (wb.heap.size) (24 + k * 3) (p3L (A.get k)))] (by kernel_rfl) (Owed.cons (on_y (K1a.out.T.b0) hk8.out) (Owed.nil _ _)) ?_
              refine inO_take 0 ⟨_, _, _, _, _, _⟩ (.int .i64 1) rfl (by kernel_rfl) (by kernel_rfl) (by kernel_rfl) (fun _ _ _ h => h) rfl (fun ww => exec_move (by rfl) (by rfl) ww) ?_
              simp only [Act.put, List.setIfInBounds_toArray, List.set_cons_zero, List.set_cons_succ]
              refine inO_take 1 ⟨_, _, _, _, _, _⟩ (.int .i64 (i : Int)) rfl (by kernel_rfl) (by kernel_rfl) (by kernel_rfl) (fun _ _ _ h => h) rfl (fun ww => exec_move (by rfl) (by rfl) ww) ?_
              simp only [Act.put, List.setIfInBounds_toArray, List.set_cons_zero, List.set_cons_succ]
              refine inO_take 2 ⟨_, _, _, _, _, _⟩ (.int .i64 8) rfl (by kernel_rfl) (by kernel_rfl) (by kernel_rfl) (fun _ _ _ h => h) rfl (fun ww => exec_move (by rfl) (by rfl) ww) ?_
              simp only [Act.put, List.setIfInBounds_toArray, List.set_cons_zero, List.set_cons_succ]
              refine inO_take 3 ⟨_, _, _, _, _, _⟩ (.int .i64 (k : Int)) rfl (by kernel_rfl) (by kernel_rfl) (by kernel_rfl) (fun _ _ _ h => h) rfl (fun ww => by have e := e8.out; have := hk8.out; go_simp <;> (rw [IntKind.wrap_i64]; omega)) ?_
              simp only [Act.put, List.setIfInBounds_toArray, List.set_cons_zero, List.set_cons_succ]
              refine inO_take 4 ⟨_, _, _, _, _, _⟩ (.int .i64 (k : Int)) rfl (by kernel_rfl) (by kernel_rfl) (by kernel_rfl) (fun _ _ _ h => h) rfl (fun ww => by have e := ek.out; have h8 := hk8.out; go_simp <;> (rw [Int.tmod_eq_emod_of_nonneg (by omega)]; omega)) ?_
              simp only [Act.put, List.setIfInBounds_toArray, List.set_cons_zero, List.set_cons_succ]
              refine inO_take 5 ⟨_, _, _, _, _, _⟩ (.pointer (some ⟨wb.heap.size, 24, none⟩)) rfl (by kernel_rfl) (by kernel_rfl) (by kernel_rfl) (fun _ _ _ h => h) rfl (fun ww => by go_simp) ?_
              simp only [Act.put, List.setIfInBounds_toArray, List.set_cons_zero, List.set_cons_succ]
              refine inO_take 6 ⟨_, _, _, _, _, _⟩ (.pointer (some ⟨wb.heap.size, 24 + k * 3, none⟩)) rfl (by kernel_rfl) (by kernel_rfl) (by kernel_rfl) (fun _ _ _ h => h) rfl (fun ww => by go_simp; intro hh; have := hk8.out; omega) ?_
              simp only [Act.put, List.setIfInBounds_toArray, List.set_cons_zero, List.set_cons_succ]
              refine inO_load 7 ⟨_, _, _, _, _, _⟩ (.agg (p3L (A.get k)).toArray) (fun w' => w'.rangeAt (wb.heap.size) (24 + k * 3) (p3L (A.get k))) rfl (by kernel_rfl) (by kernel_rfl) (by kernel_rfl) (fun _ _ _ h => h) rfl (.head _) (fun ww hw => exec_load_mid _ _ (by rfl) _ _ (by rfl) _ _ hw Try.underlying32 rfl (infoPtr _)) ?_
              simp only [Act.put, List.setIfInBounds_toArray, List.set_cons_zero, List.set_cons_succ]
              refine inO_step 8 ⟨_, _, _, _, _, _⟩ rfl (by kernel_rfl) rfl (fun K hK => ?_)
              refine wp_newPtr rfl ?_
              have K1b := Lib.hid (K1a.out.box 32 (p3L p3z))
              refine hK _ _ (Keeps.cons (fun hh j v hv => cell_alloc (hh j v hv) _) (Keeps.nil _ _ _)) ?_
              clear hK K
              simp only [Act.put, List.setIfInBounds_toArray, List.set_cons_zero, List.set_cons_succ]
              refine inO_step 9 ⟨_, _, _, _, _, _⟩ rfl (by kernel_rfl) rfl (fun K hK => ?_)
              refine wp_store_blk 32 _ _ rfl (wd0.drew.heap.size) 0 (by rfl) (p3L (A.get k)) (by rfl) 32 (p3L p3z) (p3L (A.get k)) K1b.out.T.b0 (Nat.le_of_eq rfl) (p3L_one _) (infoPtr _) (whole_new rfl) fun wc1 h14 k14 z14 => ?_
              have K1c := Lib.hid (K1b.out.over k14 h14)
              clear h14 k14 z14
              refine hK _ _ (Keeps.late (by kernel_rfl) (Keeps.nil _ _ _)) ?_
              clear hK K
              simp only [Act.put]
              refine inO_done (by kernel_rfl) ?_
              obtain ⟨xb1, hxb⟩ : ∃ xb, Hid (xb = wd0.drew.heap.size) := ⟨_, Lib.hid rfl⟩
              rw [← hxb.out] at K1c ⊢
              clear K1a K1b hxb K0h
              go_wp2_with (first
                | ((with_reducible refine n2Dst (some 38) (by rfl) ?_); refine wantList_load (by rfl) 32 _ rfl (xb1) (0) (by rfl) (p3L (A.get k)) _ (rangeN K1c.out.T.b0) Try.underlying32 rfl (infoPtr _) ?_))
              have hC := hw.out wc1 (A.get k) K1c.out.T.p.kept hfmd.out
              rw [hPm.out] at hC
              refine hC.mono ?_
              rintro e wd1 ⟨rfl, b15⟩
              have K1d := Lib.hid (K1c.out.below b15)
              clear b15 K1c hC
              have hrem : (i : Int) % 8 = (j : Int) := ej.out
              have hpos : 0 < j := by have := hz1.out; omega
              have K1h := Lib.hid K1d.out.tail
              clear K1d
              go_wp2
              clear hrem hpos
              cases hPl' : P (C.get j) with
              | false =>
                have hPl := Lib.hid hPl'
                clear hPl'
                rw [rounds_succ]
                go_wp2
                have K2a := Lib.hid K1h.out.drew
                refine inO_region [(7, fun w' => w'.rangeAt (wb.heap.size) (48 + j * 3) (p3L (C.get j)))] (by kernel_rfl) (Owed.cons (on_z (K2a.out.T.b0) hj8.out) (Owed.nil _ _)) ?_
                refine inO_take 0 ⟨_, _, _, _, _, _⟩ (.int .i64 2) rfl (by kernel_rfl) (by kernel_rfl) (by kernel_rfl) (fun _ _ _ h => h) rfl (fun ww => exec_move (by rfl) (by rfl) ww) ?_
                simp only [Act.put, List.setIfInBounds_toArray, List.set_cons_zero, List.set_cons_succ]
                refine inO_take 1 ⟨_, _, _, _, _, _⟩ (.int .i64 (i : Int)) rfl (by kernel_rfl) (by kernel_rfl) (by kernel_rfl) (fun _ _ _ h => h) rfl (fun ww => exec_move (by rfl) (by rfl) ww) ?_
                simp only [Act.put, List.setIfInBounds_toArray, List.set_cons_zero, List.set_cons_succ]
                refine inO_take 2 ⟨_, _, _, _, _, _⟩ (.int .i64 1) rfl (by kernel_rfl) (by kernel_rfl) (by kernel_rfl) (fun _ _ _ h => h) rfl (fun ww => exec_move (by rfl) (by rfl) ww) ?_
                simp only [Act.put, List.setIfInBounds_toArray, List.set_cons_zero, List.set_cons_succ]
                refine inO_take 3 ⟨_, _, _, _, _, _⟩ (.int .i64 (i : Int)) rfl (by kernel_rfl) (by kernel_rfl) (by kernel_rfl) (fun _ _ _ h => h) rfl (fun ww => by go_simp <;> (rw [IntKind.wrap_i64]; omega)) ?_
                simp only [Act.put, List.setIfInBounds_toArray, List.set_cons_zero, List.set_cons_succ]
                refine inO_take 4 ⟨_, _, _, _, _, _⟩ (.int .i64 (j : Int)) rfl (by kernel_rfl) (by kernel_rfl) (by kernel_rfl) (fun _ _ _ h => h) rfl (fun ww => by have e := ej.out; go_simp <;> (first | omega | (rw [Int.tmod_eq_emod_of_nonneg (by omega)]; omega))) ?_
                simp only [Act.put, List.setIfInBounds_toArray, List.set_cons_zero, List.set_cons_succ]
                refine inO_take 5 ⟨_, _, _, _, _, _⟩ (.pointer (some ⟨wb.heap.size, 48, none⟩)) rfl (by kernel_rfl) (by kernel_rfl) (by kernel_rfl) (fun _ _ _ h => h) rfl (fun ww => by go_simp) ?_
                simp only [Act.put, List.setIfInBounds_toArray, List.set_cons_zero, List.set_cons_succ]
                refine inO_take 6 ⟨_, _, _, _, _, _⟩ (.pointer (some ⟨wb.heap.size, 48 + j * 3, none⟩)) rfl (by kernel_rfl) (by kernel_rfl) (by kernel_rfl) (fun _ _ _ h => h) rfl (fun ww => by go_simp; intro hh; have := hj8.out; omega) ?_
                simp only [Act.put, List.setIfInBounds_toArray, List.set_cons_zero, List.set_cons_succ]
                refine inO_load 7 ⟨_, _, _, _, _, _⟩ (.agg (p3L (C.get j)).toArray) (fun w' => w'.rangeAt (wb.heap.size) (48 + j * 3) (p3L (C.get j))) rfl (by kernel_rfl) (by kernel_rfl) (by kernel_rfl) (fun _ _ _ h => h) rfl (.head _) (fun ww hw => exec_load_mid _ _ (by rfl) _ _ (by rfl) _ _ hw Try.underlying32 rfl (infoPtr _)) ?_
                simp only [Act.put, List.setIfInBounds_toArray, List.set_cons_zero, List.set_cons_succ]
                refine inO_step 8 ⟨_, _, _, _, _, _⟩ rfl (by kernel_rfl) rfl (fun K hK => ?_)
                refine wp_newPtr rfl ?_
                have K2b := Lib.hid (K2a.out.box 32 (p3L p3z))
                refine hK _ _ (Keeps.cons (fun hh j v hv => cell_alloc (hh j v hv) _) (Keeps.nil _ _ _)) ?_
                clear hK K
                simp only [Act.put, List.setIfInBounds_toArray, List.set_cons_zero, List.set_cons_succ]
                refine inO_step 9 ⟨_, _, _, _, _, _⟩ rfl (by kernel_rfl) rfl (fun K hK => ?_)
                refine wp_store_blk 32 _ _ rfl (wd1.drew.heap.size) 0 (by rfl) (p3L (C.get j)) (by rfl) 32 (p3L p3z) (p3L (C.get j)) K2b.out.T.b0 (Nat.le_of_eq rfl) (p3L_one _) (infoPtr _) (whole_new rfl) fun wc2 h14 k14 z14 => ?_
                have K2c := Lib.hid (K2b.out.over k14 h14)
                clear h14 k14 z14
                refine hK _ _ (Keeps.late (by kernel_rfl) (Keeps.nil _ _ _)) ?_
                clear hK K
                simp only [Act.put]
                refine inO_done (by kernel_rfl) ?_
                obtain ⟨xb2, hxb⟩ : ∃ xb, Hid (xb = wd1.drew.heap.size) := ⟨_, Lib.hid rfl⟩
                rw [← hxb.out] at K2c ⊢
                clear K2a K2b hxb K1h
                go_wp2_with (first
                  | ((with_reducible refine n2Dst (some 38) (by rfl) ?_); refine wantList_load (by rfl) 32 _ rfl (xb2) (0) (by rfl) (p3L (C.get j)) _ (rangeN K2c.out.T.b0) Try.underlying32 rfl (infoPtr _) ?_))
                have hC := hw.out wc2 (C.get j) K2c.out.T.p.kept hflf.out
                rw [hPl.out] at hC
                refine hC.mono ?_
                rintro e wd2 ⟨rfl, b15⟩
                have K2d := Lib.hid (K2c.out.below b15)
                clear b15 K2c hC
                have KE := Lib.hid K2d.out.tail
                clear K2d
                have hm2 : Hid (t.metUp P (i + 1) = qs) := Lib.hid (by rw [hm1.out]; simp [hPr.out, if_neg hz0.out, hPm.out, if_neg hz1.out, hPl.out])
                have hr2 : Hid (t.reachUp P (i + 1) = ns) := Lib.hid (by rw [hr1.out]; simp [hPr.out, if_neg hz0.out, hPm.out, if_neg hz1.out, hPl.out])
                clear hm1 hr1
                go_wp2
                go_roundw
                case rel => exact ⟨i + 1, _, m', A, C, qs, ns, by omega, by go_num, KE, tp, al, hm2, hr2, Lib.hid (fun _ _ => rfl), Lib.hid (fun h _ _ => by rw [hn8.out h]; exact hC.out.symm)⟩
                case measure => simp [intOf] <;> omega
              | true =>
                have hPl := Lib.hid hPl'
                clear hPl'
                rw [rounds_succ]
                go_wp2
                have K2a := Lib.hid K1h.out.drew
                refine inO_region [(7, fun w' => w'.rangeAt (wb.heap.size) (48 + j * 3) (p3L (C.get j)))] (by kernel_rfl) (Owed.cons (on_z (K2a.out.T.b0) hj8.out) (Owed.nil _ _)) ?_
                refine inO_take 0 ⟨_, _, _, _, _, _⟩ (.int .i64 2) rfl (by kernel_rfl) (by kernel_rfl) (by kernel_rfl) (fun _ _ _ h => h) rfl (fun ww => exec_move (by rfl) (by rfl) ww) ?_
                simp only [Act.put, List.setIfInBounds_toArray, List.set_cons_zero, List.set_cons_succ]
                refine inO_take 1 ⟨_, _, _, _, _, _⟩ (.int .i64 (i : Int)) rfl (by kernel_rfl) (by kernel_rfl) (by kernel_rfl) (fun _ _ _ h => h) rfl (fun ww => exec_move (by rfl) (by rfl) ww) ?_
                simp only [Act.put, List.setIfInBounds_toArray, List.set_cons_zero, List.set_cons_succ]
                refine inO_take 2 ⟨_, _, _, _, _, _⟩ (.int .i64 1) rfl (by kernel_rfl) (by kernel_rfl) (by kernel_rfl) (fun _ _ _ h => h) rfl (fun ww => exec_move (by rfl) (by rfl) ww) ?_
                simp only [Act.put, List.setIfInBounds_toArray, List.set_cons_zero, List.set_cons_succ]
                refine inO_take 3 ⟨_, _, _, _, _, _⟩ (.int .i64 (i : Int)) rfl (by kernel_rfl) (by kernel_rfl) (by kernel_rfl) (fun _ _ _ h => h) rfl (fun ww => by go_simp <;> (rw [IntKind.wrap_i64]; omega)) ?_
                simp only [Act.put, List.setIfInBounds_toArray, List.set_cons_zero, List.set_cons_succ]
                refine inO_take 4 ⟨_, _, _, _, _, _⟩ (.int .i64 (j : Int)) rfl (by kernel_rfl) (by kernel_rfl) (by kernel_rfl) (fun _ _ _ h => h) rfl (fun ww => by have e := ej.out; go_simp <;> (first | omega | (rw [Int.tmod_eq_emod_of_nonneg (by omega)]; omega))) ?_
                simp only [Act.put, List.setIfInBounds_toArray, List.set_cons_zero, List.set_cons_succ]
                refine inO_take 5 ⟨_, _, _, _, _, _⟩ (.pointer (some ⟨wb.heap.size, 48, none⟩)) rfl (by kernel_rfl) (by kernel_rfl) (by kernel_rfl) (fun _ _ _ h => h) rfl (fun ww => by go_simp) ?_
                simp only [Act.put, List.setIfInBounds_toArray, List.set_cons_zero, List.set_cons_succ]
                refine inO_take 6 ⟨_, _, _, _, _, _⟩ (.pointer (some ⟨wb.heap.size, 48 + j * 3, none⟩)) rfl (by kernel_rfl) (by kernel_rfl) (by kernel_rfl) (fun _ _ _ h => h) rfl (fun ww => by go_simp; intro hh; have := hj8.out; omega) ?_
                simp only [Act.put, List.setIfInBounds_toArray, List.set_cons_zero, List.set_cons_succ]
                refine inO_load 7 ⟨_, _, _, _, _, _⟩ (.agg (p3L (C.get j)).toArray) (fun w' => w'.rangeAt (wb.heap.size) (48 + j * 3) (p3L (C.get j))) rfl (by kernel_rfl) (by kernel_rfl) (by kernel_rfl) (fun _ _ _ h => h) rfl (.head _) (fun ww hw => exec_load_mid _ _ (by rfl) _ _ (by rfl) _ _ hw Try.underlying32 rfl (infoPtr _)) ?_
                simp only [Act.put, List.setIfInBounds_toArray, List.set_cons_zero, List.set_cons_succ]
                refine inO_step 8 ⟨_, _, _, _, _, _⟩ rfl (by kernel_rfl) rfl (fun K hK => ?_)
                refine wp_newPtr rfl ?_
                have K2b := Lib.hid (K2a.out.box 32 (p3L p3z))
                refine hK _ _ (Keeps.cons (fun hh j v hv => cell_alloc (hh j v hv) _) (Keeps.nil _ _ _)) ?_
                clear hK K
                simp only [Act.put, List.setIfInBounds_toArray, List.set_cons_zero, List.set_cons_succ]
                refine inO_step 9 ⟨_, _, _, _, _, _⟩ rfl (by kernel_rfl) rfl (fun K hK => ?_)
                refine wp_store_blk 32 _ _ rfl (wd1.drew.heap.size) 0 (by rfl) (p3L (C.get j)) (by rfl) 32 (p3L p3z) (p3L (C.get j)) K2b.out.T.b0 (Nat.le_of_eq rfl) (p3L_one _) (infoPtr _) (whole_new rfl) fun wc2 h14 k14 z14 => ?_
                have K2c := Lib.hid (K2b.out.over k14 h14)
                clear h14 k14 z14
                refine hK _ _ (Keeps.late (by kernel_rfl) (Keeps.nil _ _ _)) ?_
                clear hK K
                simp only [Act.put]
                refine inO_done (by kernel_rfl) ?_
                obtain ⟨xb2, hxb⟩ : ∃ xb, Hid (xb = wd1.drew.heap.size) := ⟨_, Lib.hid rfl⟩
                rw [← hxb.out] at K2c ⊢
                clear K2a K2b hxb K1h
                go_wp2_with (first
                  | ((with_reducible refine n2Dst (some 38) (by rfl) ?_); refine wantList_load (by rfl) 32 _ rfl (xb2) (0) (by rfl) (p3L (C.get j)) _ (rangeN K2c.out.T.b0) Try.underlying32 rfl (infoPtr _) ?_))
                have hC := hw.out wc2 (C.get j) K2c.out.T.p.kept hflf.out
                rw [hPl.out] at hC
                refine hC.mono ?_
                rintro e wd2 ⟨rfl, b15⟩
                have K2d := Lib.hid (K2c.out.below b15)
                clear b15 K2c hC
                go_wp2_with (first
                  | ((with_reducible refine n2Dst (some 46) (by rfl) ?_); refine wantList_load (by rfl) 32 _ rfl (xb2) (0) (by rfl) (p3L (C.get j)) _ (rangeN K2d.out.T.b0) Try.underlying32 rfl (infoPtr _) ?_)
                  | ((with_reducible refine n2Dst (some 47) (by rfl) ?_); refine wpList_bsP (by rfl) (.tmp 46) rfl (C.get j) (by rfl) ?_)
                  | (at_builtin; refine wpList_pushN rfl (.tmp 45) (.tmp 47) 37 rfl w.heap.size 32 j0 _ 3 24 Try.underlying37 hj0 hy0 hy1 hy2 rfl (by decide) u9 _ _ wd2 (by rfl) K2d.out.rv 1 (p3L (C.get j)).toArray (by rfl) (by rfl) (p3L_one _) (by have := hql.out; (try simp only [List.length_append, List.length_cons, List.length_nil]); omega) (by have := hql.out; (try simp only [List.length_append, List.length_cons, List.length_nil]); omega) K2d.out.T.size ?_; intro v2 we2 ho hg hv; have K2e := Lib.hid (K2d.out.pushV (C.get j) ho hg); clear ho hg hv)
                  | ((with_reducible refine n2Dst (some 54) (by rfl) ?_); refine wantList_load (by rfl) 32 _ rfl (xb2) (0) (by rfl) (p3L (C.get j)) _ (rangeN K2e.out.T.b0) Try.underlying32 rfl (infoPtr _) ?_))
                rw [rounds_succ]
                have K9 := Lib.hid K2e.out.tail
                clear K2e K2d
                have hm2 : Hid (t.metUp P (i + 1) = qs ++ [C.get j]) := Lib.hid (by rw [hm1.out]; simp [hPr.out, if_neg hz0.out, hPm.out, if_neg hz1.out, hPl.out])
                have hr2 : Hid (t.reachUp P (i + 1) = ns ++ [i]) := Lib.hid (by rw [hr1.out]; simp [hPr.out, if_neg hz0.out, hPm.out, if_neg hz1.out, hPl.out])
                clear hm1 hr1
                go_wp2_with (first
                  | (at_builtin; refine wpList_pushN rfl (.tmp 66) (.tmp 68) 46 rfl w.heap.size 3 i0 _ 1 8 Try.underlying46 hi0 hx0' hx1' hx2' rfl (by decide) u10 _ _ we2 (by rfl) K9.out.ru 1 #[.int .i64 (i : Int)] (by rfl) (by rfl) (fun x hx => by simp only [List.mem_cons, List.not_mem_nil, or_false] at hx; subst hx; rfl) (by have := hnl.out; omega) (by have := hnl.out; omega) K9.out.T.size ?_; intro v9 w9 ho hg hv; have KA := Lib.hid (K9.out.pushU i ho hg); clear ho hg hv))
                go_roundw
                case rel => exact ⟨i + 1, _, m', A, C, qs ++ [C.get j], ns ++ [i], by omega, by go_num, KA, tp, al, hm2, hr2, Lib.hid (fun _ _ => rfl), Lib.hid (fun h _ _ => by rw [hn8.out h]; exact hC.out.symm)⟩
                case measure => simp [intOf] <;> omega
    · obtain rfl : i = 64 := by omega
      have hmf : Hid (qs = t.metL P) := Lib.hid (by rw [← hqs.out]; exact metUp_64 t P)
      have lp := Lib.hid K.out.lp
      have li := Lib.hid K.out.li
      have pp := Lib.hid K.out.T.p
      go_wp2
      rw [Exit.noGoto_ret]
      (try simp only [Exit.inBlock, Exit.then])
      refine bodyPost_ret (v := .tuple #[u9, u10, .int .i64 0]) (by simp [results, Try.results36, go_sem]) rfl ?_
      refine ⟨m', u9, u10, _, rfl, tp.out, al.out, pp.out, ?_, ?_⟩
      · rw [← hmf.out]; exact lp.out
      · rw [hns.out]; exact li.out

end Go.Proofs.Ytgdefibkemkejaa
