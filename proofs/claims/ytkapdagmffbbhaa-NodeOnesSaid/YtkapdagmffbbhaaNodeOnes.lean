/- NodeOnes, for every input: the law returns true and each argument reads behind the call as before. No condition. -/
import Derived.Test.YtkapdagmffbbhaaNodeI
namespace Go.Proofs.Ytkapdagmffbbhaa.lawNodeOnes
open Go.ChangeShapes Go.WideShapes Go.ChangeAt Go.RowKit Go.Deep
set_option linter.unusedVariables false
set_option maxRecDepth 20000

set_option maxRecDepth 100000 in
set_option maxHeartbeats 8000000 in
theorem walk (i : Int) (q : P3) (w : World) (hi : I64 i) (hqf : q.Fit) : Calls Try.prog 8 #[.int .i64 i, p3V q] w fun e w' => e = .returned (.bool true) ∧ Below w.heap.size w w' := by
  obtain ⟨a, b, sm⟩ := q
  unfold p3V
  dsimp only
  unfold I64 at hi
  have hz := zeroP8
  have hzs := zeroSec
  have T0 := Lib.hid ((NT.start w).box 30 (p3L ⟨a, b, sm⟩))
  have hrt : ∀ W : World, Calls Try.prog 18 #[.agg (p3L ⟨a, b, sm⟩).toArray] W fun e w' => e = .returned (.bool (P3.rightB ⟨a, b, sm⟩)) ∧ Below W.heap.size W w' := fun W => pRight_any a b sm W hqf
  have hrt := Lib.hid hrt
  by_cases h0 : i < 0
  · go_enter Try.func8, Try.ntmps8
    go_wp2_with fail
    refine (nodeAlive_any _).mono ?_
    rintro e w1 ⟨rfl, b1⟩
    have T1 := Lib.hid (T0.out.call b1)
    clear b1
    go_wp2
    go_ret
    exact ⟨rfl, T1.out.q⟩
  by_cases h7 : i > 7
  · go_enter Try.func8, Try.ntmps8
    go_wp2_with fail
    refine (nodeAlive_any _).mono ?_
    rintro e w1 ⟨rfl, b1⟩
    have T1 := Lib.hid (T0.out.call b1)
    clear b1
    go_wp2
    go_ret
    exact ⟨rfl, T1.out.q⟩
  obtain ⟨n, rfl⟩ : ∃ n : Nat, i = (n : Int) := ⟨i.toNat, by omega⟩
  have hn : n < 8 := by omega
  have hd0 : decide ((n : Int) < 0) = false := by simp
  have hd7 : decide (7 < (n : Int)) = false := by simp; omega
  clear hi h0 h7
  cases hr : P3.rightB ⟨a, b, sm⟩ with
  | false =>
    have Hrt := Lib.hid (show _ from by have := hrt.out; rw [hr] at this; exact this)
    clear hrt hr
    go_enter Try.func8, Try.ntmps8
    go_wp2_with fail
    refine (nodeAlive_any _).mono ?_
    rintro e w1 ⟨rfl, b1⟩
    have T1 := Lib.hid (T0.out.call b1)
    clear b1
    go_wp2_with ((with_reducible refine n2Dst (some 22) (by rfl) ?_); refine wantList_load (by rfl) 30 _ rfl w.heap.size 0 (by rfl) (p3L ⟨a, b, sm⟩) _ (rangeN T1.out.b0) Try.underlying30 rfl (infoPtr _) ?_)
    refine (Hrt.out _).mono ?_
    rintro e w2 ⟨rfl, b2⟩
    have T2 := Lib.hid (T1.out.call b2)
    clear b2
    go_wp2
    go_ret
    exact ⟨rfl, T2.out.q⟩
  | true =>
  have Hrt := Lib.hid (show _ from by have := hrt.out; rw [hr] at this; exact this)
  have hmf : (holesP.set n ⟨a, b, sm⟩).Fit := P8.set_fit holesP_fit n hqf
  have hB := fun W => nBytes_any (holesP.set n ⟨a, b, sm⟩) W hmf
  rw [secO_yes (ones_right hr hn)] at hB
  have hE := fun W => Empty_any (holesP.set n ⟨a, b, sm⟩) W
  rw [ones_empty _ hn] at hE
  have hP : ∀ W : World, Calls Try.prog 20 #[.agg (p3L ⟨a, b, sm⟩).toArray] W (BRes 51 (some (P3.bytes ⟨a, b, sm⟩)) W) := fun W => by
    have := pBytes_any a b sm W hqf
    unfold P3.bytesO at this
    rw [hr, if_pos rfl] at this
    exact this
  have hset : Hid (p8L (holesP.set n ⟨a, b, sm⟩) = (p8L holesP).take (n * 3) ++ p3L ⟨a, b, sm⟩ ++ (p8L holesP).drop (n * 3 + (p3L ⟨a, b, sm⟩).length)) := Lib.hid (by rw [p3L_length]; exact p8L_set holesP hn ⟨a, b, sm⟩)
  have hby : Hid (∀ k : Nat, k < 128 → (holesP.set n ⟨a, b, sm⟩).sec.1.getD k 0 = if k / 16 = n then (P3.bytes ⟨a, b, sm⟩).getD (k % 16) 0 else 0) := Lib.hid fun k hk => ones_byteD hn hk
  have hbl : Hid ((P3.bytes ⟨a, b, sm⟩).length = 16) := Lib.hid (P3.bytes_length _)
  have hq3 : ∀ w : World, (Op.equalIn 10000 30 (.agg (p3L ⟨a, b, sm⟩).toArray) (.agg (p3L p3z).toArray)).run Try.prog w = .ok (P3.eqB ⟨a, b, sm⟩ p3z) w := fun w => eqPtr w ⟨a, b, sm⟩ p3z
  clear hrt hr
  generalize holesP.set n ⟨a, b, sm⟩ = m at *
  generalize P3.eqB ⟨a, b, sm⟩ p3z = B at *
  generalize m.sec = S at *
  generalize P3.bytes ⟨a, b, sm⟩ = BS at *
  have hB := Lib.hid hB
  have hE := Lib.hid hE
  have hP := Lib.hid hP
  go_enter Try.func8, Try.ntmps8
  go_wp2_with fail
  refine (nodeAlive_any _).mono ?_
  rintro e w1 ⟨rfl, b1⟩
  have T1 := Lib.hid (T0.out.call b1)
  clear b1
  go_wp2_with ((with_reducible refine n2Dst (some 22) (by rfl) ?_); refine wantList_load (by rfl) 30 _ rfl w.heap.size 0 (by rfl) (p3L ⟨a, b, sm⟩) _ (rangeN T1.out.b0) Try.underlying30 rfl (infoPtr _) ?_)
  refine (Hrt.out _).mono ?_
  rintro e w2 ⟨rfl, b2⟩
  have T2 := Lib.hid (T1.out.call b2)
  clear b2
  go_wp2_with (first
    | ((with_reducible refine n2Dst (some 26) (by rfl) ?_); refine wantList_build (by rfl) 31 [] rfl (p8L holesP) _ (by rfl) builtP8 ?_)
    | ((with_reducible refine n2Dst (some 28) (by rfl) ?_); refine wantList_load (by rfl) 30 _ rfl w.heap.size 0 (by rfl) (p3L ⟨a, b, sm⟩) _ (rangeN T3.out.b1) Try.underlying30 rfl (infoPtr _) ?_)
    | ((with_reducible refine guardList ?_)
       refine wantList_store (by rfl) 30 _ _ rfl w2.heap.size (n * 3) (by rfl) (p3L ⟨a, b, sm⟩) (by rfl) _ (p8L holesP) (p8L m) T3.out.b0 (by simp only [p8L_length, p3L_length]; omega) (p3L_one _) (infoPtr _) hset.out ?_
       intro w4 h4 k4 z4
       have T4 := Lib.hid (T3.out.over (fun x hx => Nat.ne_of_lt (T2.out.blk x hx).1.lt) k4 h4)
       clear h4 k4 z4)
    | ((with_reducible refine guardList ?_)
       refine wantList_store (by rfl) 31 _ _ rfl w2.heap.size 0 (by rfl) (p8L holesP) (by rfl) _ (p8L holesP) (p8L holesP) (Blk.new w2 31 (p8L holesP)) (by simp only [p8L_length]; decide) (p8L_one _) (infoP8 _) wholeP8 ?_
       intro w3 h3 k3 z3
       have T3 := Lib.hid (T2.out.lay k3 h3)
       have hw3 := T3.out.lt0
       clear h3 k3 z3)
    | ((with_reducible refine n2Dst (some 31) (by rfl) ?_); refine wantList_load (by rfl) 31 _ rfl w2.heap.size 0 (by rfl) (p8L m) _ (rangeN T4.out.b0) Try.underlying31 rfl (infoP8 _) ?_))
  refine (hB.out _).mono ?_
  rintro e w5 ⟨rfl, b5⟩
  dsimp only [Option.getD, errI]
  have T5 := Lib.hid (T4.out.call b5)
  clear b5
  go_wp2_with (first
    | ((with_reducible refine guardList ?_)
       refine wantList_store (by rfl) 23 _ _ rfl w5.heap.size 0 (by rfl) (secL S) (by rfl) _ (secL sec0) (secL S) (Blk.new w5 23 (secL sec0)) (by simp only [secL_length]; decide) (secL_one _) (infoSecL _) wholeSn ?_
       intro w6 h6 k6 z6
       have T6 := Lib.hid (T5.out.lay k6 h6)
       clear h6 k6 z6)
    | ((with_reducible refine n2Dst (some 36) (by rfl) ?_); refine wantList_load (by rfl) 30 _ rfl w.heap.size 0 (by rfl) (p3L ⟨a, b, sm⟩) _ (rangeN T6.out.b2) Try.underlying30 rfl (infoPtr _) ?_))
  refine (hP.out _).mono ?_
  intro e w7 hR7
  obtain ⟨ao, cap, rfl, hrd, hc1, hc2, hnil, b7⟩ := hR7.yes rfl (m := 16) hbl.out
  have T7 := Lib.hid (T6.out.call b7)
  clear b7 hR7
  go_wp2
  refine inO_region [(7, fun w' => w'.rangeAt (w2.heap.size) (0) (p8L m)), (9, fun w' => w'.rangeAt (w.heap.size) (0) (p3L ⟨a, b, sm⟩))] (by kernel_rfl) (Owed.cons (rangeN T7.out.drew.b1) (Owed.cons (rangeN T7.out.drew.b2) (Owed.nil _ _))) ?_
  refine inO_take 0 ⟨_, _, _, _, _, _⟩ (.int .i64 0) rfl (by kernel_rfl) (by kernel_rfl) (by kernel_rfl) (fun _ _ _ h => h) rfl (fun ww => exec_move (by rfl) (by rfl) ww) ?_
  simp only [Act.put, List.setIfInBounds_toArray, List.set_cons_zero, List.set_cons_succ]
  refine inO_take 1 ⟨_, _, _, _, _, _⟩ (.bool false) rfl (by kernel_rfl) (by kernel_rfl) (by kernel_rfl) (fun _ _ _ h => h) rfl (fun ww => by go_simp) ?_
  simp only [Act.put, List.setIfInBounds_toArray, List.set_cons_zero, List.set_cons_succ]
  refine inO_take 2 ⟨_, _, _, _, _, _⟩ (.bool false) rfl (by kernel_rfl) (by kernel_rfl) (by kernel_rfl) (fun _ _ _ h => h) rfl (fun ww => exec_move (by rfl) (by rfl) ww) ?_
  simp only [Act.put, List.setIfInBounds_toArray, List.set_cons_zero, List.set_cons_succ]
  refine inO_take 3 ⟨_, _, _, _, _, _⟩ (.int .i64 0) rfl (by kernel_rfl) (by kernel_rfl) (by kernel_rfl) (fun _ _ _ h => h) rfl (fun ww => exec_move (by rfl) (by rfl) ww) ?_
  simp only [Act.put, List.setIfInBounds_toArray, List.set_cons_zero, List.set_cons_succ]
  refine inO_take 4 ⟨_, _, _, _, _, _⟩ (.bool false) rfl (by kernel_rfl) (by kernel_rfl) (by kernel_rfl) (fun _ _ _ h => h) rfl (fun ww => by go_simp) ?_
  simp only [Act.put, List.setIfInBounds_toArray, List.set_cons_zero, List.set_cons_succ]
  refine inO_take 5 ⟨_, _, _, _, _, _⟩ (.bool false) rfl (by kernel_rfl) (by kernel_rfl) (by kernel_rfl) (fun _ _ _ h => h) rfl (fun ww => by go_simp) ?_
  simp only [Act.put, List.setIfInBounds_toArray, List.set_cons_zero, List.set_cons_succ]
  refine inO_take 6 ⟨_, _, _, _, _, _⟩ (.bool false) rfl (by kernel_rfl) (by kernel_rfl) (by kernel_rfl) (fun _ _ _ h => h) rfl (fun ww => exec_move (by rfl) (by rfl) ww) ?_
  simp only [Act.put, List.setIfInBounds_toArray, List.set_cons_zero, List.set_cons_succ]
  refine inO_load 7 ⟨_, _, _, _, _, _⟩ (.agg (p8L m).toArray) (fun w' => w'.rangeAt (w2.heap.size) (0) (p8L m)) rfl (by kernel_rfl) (by kernel_rfl) (by kernel_rfl) (fun _ _ _ h => h) rfl (.head _) (fun ww hw => exec_load_mid _ _ (by rfl) _ _ (by rfl) _ _ hw Try.underlying31 rfl (infoP8 _)) ?_
  simp only [Act.put, List.setIfInBounds_toArray, List.set_cons_zero, List.set_cons_succ]
  refine inO_load 9 ⟨_, _, _, _, _, _⟩ (.agg (p3L ⟨a, b, sm⟩).toArray) (fun w' => w'.rangeAt (w.heap.size) (0) (p3L ⟨a, b, sm⟩)) rfl (by kernel_rfl) (by kernel_rfl) (by kernel_rfl) (fun _ _ _ h => h) rfl (.tail _ (.head _)) (fun ww hw => exec_load_mid _ _ (by rfl) _ _ (by rfl) _ _ hw Try.underlying30 rfl (infoPtr _)) ?_
  simp only [Act.put, List.setIfInBounds_toArray, List.set_cons_zero, List.set_cons_succ]
  refine inO_take 10 ⟨_, _, _, _, _, _⟩ (.agg (p3L p3z).toArray) rfl (by kernel_rfl) (by kernel_rfl) (by kernel_rfl) (fun _ _ _ h => h) rfl (fun ww => exec_build _ _ (by rfl) _ _ (by rfl) built_p3 ww) ?_
  simp only [Act.put, List.setIfInBounds_toArray, List.set_cons_zero, List.set_cons_succ]
  refine inO_take 11 ⟨_, _, _, _, _, _⟩ (.bool B) rfl (by kernel_rfl) (by kernel_rfl) (by kernel_rfl) (fun _ _ _ h => h) rfl (fun ww => by go_simp) ?_
  simp only [Act.put, List.setIfInBounds_toArray, List.set_cons_zero, List.set_cons_succ]
  refine inO_step 8 ⟨_, _, _, _, _, _⟩ rfl (by kernel_rfl) rfl (fun K hK => ?_)
  refine wp_call Try.func11 (by kernel_rfl) rfl _ _ rfl _ rfl _ (hE.out _) fun e w8 R => ?_
  obtain ⟨rfl, bb⟩ := R
  have T8 := Lib.hid (T7.out.drew.call bb)
  have hrd8 := Lib.hid (Reads.below (w := w7.drew) hrd.out bb)
  clear bb
  refine ⟨_, rfl, ?_⟩
  refine hK _ _ (Keeps.cons (fun _ => rangeN T8.out.b1) (Keeps.cons (fun _ => rangeN T8.out.b2) (Keeps.nil _ _ _))) ?_
  clear hK K
  simp only [Act.put, List.setIfInBounds_toArray, List.set_cons_zero, List.set_cons_succ]
  refine inO_take 12 ⟨_, _, _, _, _, _⟩ (.bool false) rfl (by kernel_rfl) (by kernel_rfl) (by kernel_rfl) (fun _ _ _ h => h) rfl (fun ww => by go_simp) ?_
  simp only [Act.put, List.setIfInBounds_toArray, List.set_cons_zero, List.set_cons_succ]
  refine inO_take 13 ⟨_, _, _, _, _, _⟩ (.bool false) rfl (by kernel_rfl) (by kernel_rfl) (by kernel_rfl) (fun _ _ _ h => h) rfl (fun ww => by go_simp) ?_
  simp only [Act.put, List.setIfInBounds_toArray, List.set_cons_zero, List.set_cons_succ]
  refine inO_done (by kernel_rfl) ?_
  clear hq3
  go_wp2_with (first
    | ((with_reducible refine n2Dst (some 54) (by rfl) ?_); refine wantList_load (by rfl) 23 _ rfl w5.heap.size 0 (by rfl) (secL S) _ (rangeN T8.out.b0) Try.underlying23 rfl (infoSecL _) ?_))
  obtain ⟨bb, off, rfl, _, hbb⟩ := Reads.at hrd8.out (k := 0) (by rw [bytesV_length, hbl.out]; decide)
  have hcell : Hid (∀ j : Nat, j < 16 → w8.cell? ⟨bb, off + j, none⟩ = some (byteV (BS.getD j 0))) := Lib.hid fun j hj => by
    obtain ⟨b', off', e', c', _⟩ := Reads.at hrd8.out (k := j) (by rw [bytesV_length, hbl.out]; exact hj)
    cases e'
    rw [c', getD_of (by rw [hbl.out]; exact hj)]
    simp [bytesV]
  have hix : Hid (∀ k : Nat, k < 128 → ∀ W : World, Sem.run Try.prog (Instr.index 23 (.agg (secL S).toArray) (.int .i64 (k : Int))) W = .ok (byteV (S.1.getD k 0)) W) := Lib.hid fun k hk W => idxSecD S hk W
  generalize (secL S).toArray = L at *
  go_loopw [55] (fun i wr => ∃ k : Nat, k ≤ 128 ∧ i = .int .i64 k ∧ wr = w8)
    (fun i _ => 128 - (intOf i).toNat)
  case atStart => exact ⟨0, by omega, rfl, rfl⟩
  case round =>
    obtain ⟨k, hk, rfl, rfl⟩ := hrel
    by_cases hlt : k < 128
    · have hx0 := hix.out k hlt
      have hb0 := hby.out k hlt
      have hq1 : Int.tdiv (k : Int) 16 = ((k / 16 : Nat) : Int) := by rw [Int.tdiv_eq_ediv_of_nonneg (by omega)]; omega
      have hq2 : Int.tmod (k : Int) 16 = ((k % 16 : Nat) : Int) := by rw [Int.tmod_eq_emod_of_nonneg (by omega)]; omega
      have hm16 : k % 16 < 16 := Nat.mod_lt _ (by decide)
      have hc0 := hcell.out (k % 16) hm16
      by_cases hd : k / 16 = n
      · rw [if_pos hd] at hb0
        rw [hb0] at hx0
        generalize BS.getD (k % 16) 0 = y at *
        clear hb0
        have hx1 : ∀ W, Sem.run Try.prog (Instr.index 23 (.agg L) (.int .i64 (k : Int))) W = .ok (.int .u8 (y.toNat : Int)) W := hx0
        have hc1 : wr.cell? ⟨bb, off + k % 16, none⟩ = some (.int .u8 (y.toNat : Int)) := hc0
        clear hx0 hc0
        generalize (y.toNat : Int) = yy at *
        go_wp2
        go_roundw
        case rel => exact ⟨k + 1, by omega, by go_num, trivial⟩
        case measure => simp [intOf] <;> omega
      · rw [if_neg hd] at hb0
        rw [hb0] at hx0
        clear hb0 hc0
        have hx1 : ∀ W, Sem.run Try.prog (Instr.index 23 (.agg L) (.int .i64 (k : Int))) W = .ok (.int .u8 0) W := hx0
        clear hx0
        have hne : (((k / 16 : Nat) : Int) == (n : Int)) = false := by rw [nat_eq_int]; exact decide_eq_false hd
        go_wp2
        go_roundw
        case rel => exact ⟨k + 1, by omega, by go_num, trivial⟩
        case measure => simp [intOf] <;> omega
    · obtain rfl : k = 128 := by omega
      go_wp2
      go_ret
      exact ⟨rfl, T8.out.q⟩

theorem own : ownKnob Try.prog.godebug = none := by kernel_rfl

set_option maxRecDepth 100000 in
theorem lifted (os : Os) (started : os.Started) (H : Type) (enc : TypeId × Value → H) :
    ReturnsInHanded {} Try.checked os 8 .any (Rows.nodeOnesSpec.pre6 enc Try.prog Try.f8 Rows.nodeOnesRow.domain false) (Rows.nodeOnesSpec.post enc Try.prog Try.f8 false true false false) := by
  refine returnsInHanded_of_change_sized (C := Try.checked) own started (by kernel_rfl) Try.func8
    (ChangeSpec.witness6 (enc := enc) (C := Try.checked) false ⟨#[], #[.int .i64 0, .agg #[.int .i64 0, .int .u64 0, .int .u32 0]], []⟩ 8 (by kernel_rfl) (by kernel_rfl) (by kernel_rfl) (by kernel_rfl)) ?_
  intro W base args ds gs before hval0 hW hcnd hsz0 _
  have hval : ∀ (j : Nat) t v, Try.f8.params[j]? = some t → args[j]? = some v → Value.okWide Try.prog W .any base t v := hval0
  have hsz : (DataW.weightsEach Try.prog (Try.f8.params.toList ++ Rows.nodeOnesSpec.plain.varTypes Try.prog) (ds ++ gs)).all (· ≤ reachBytes) = true := hsz0
  have hW' := hW
  obtain ⟨p, q, hA0, hV, rfl, hfz, hnd⟩ := hW
  have hA : DataW.TrodAll enc Try.prog W 0 (fun _ => true) true Try.f8.params.toList args.toList ds p := hA0
  rw [Try.params8] at hA hval hsz
  obtain ⟨v0, vs0, d0, ds0, p0, q0, hargs, rfl, rfl, h0, r0⟩ := trodAll_cons hA
  obtain ⟨v1, vs1, d1, ds1, p1, q1, rfl, rfl, rfl, h1, r1⟩ := trodAll_cons r0
  obtain ⟨rfl, rfl, rfl⟩ := trodAll_nil r1
  obtain rfl : args = #[v0, v1] := by cases args; simp_all
  obtain ⟨rfl, rfl⟩ := trodVars_none hV
  obtain ⟨a0, rfl, rfl, rfl, wf0⟩ := open_int Try.underlying3 (hval 0 3 v0 rfl rfl) h0
  obtain ⟨a1, rfl, rfl, rfl, wf1⟩ := open_ptr (hval 1 30 v1 rfl rfl) h1
  clear hA0 hval0 hsz0
  refine (walk a0 a1 W (wf_i64 wf0) wf1).mono fun e W' ⟨he, bel⟩ => ?_
  subst he
  exact ⟨_, rfl, _, _, _, [], _, [], hW', trodAll_mk1 (shut_bool Try.underlying4 _), (trodAll_cons_mk (shut_int Try.underlying3 wf0) (trodAll_cons_mk (shut_ptr wf1) trodAll_mk0)), rfl, bel.frame _, fun h => by cases h⟩

theorem proved : Rows.NodeOnesSaid :=
  OpenClaim.holds_of_wide 8 Try.f8 rfl rfl rfl rfl rfl rfl rfl ⟨rfl, rfl, rfl, rfl, rfl⟩ rfl rfl rfl rfl rfl (by kernel_rfl) Try.func8 (by kernel_rfl)
    (of_decide_eq_true (by kernel_rfl)) (by unfold Func.isWrapper; first | (rw [if_pos (by decide +kernel)]; kernel_rfl) | (rw [if_neg (by decide +kernel)]; exact ⟨rfl, rfl⟩))
    (fun os started H enc _ => lifted os started H enc)
end Go.Proofs.Ytkapdagmffbbhaa.lawNodeOnes
