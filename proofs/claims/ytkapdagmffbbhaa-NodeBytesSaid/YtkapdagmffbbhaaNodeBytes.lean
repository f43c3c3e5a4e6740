/- NodeBytes, for every input: the law returns true and each argument reads behind the call as before. No condition. -/
import Derived.Test.YtkapdagmffbbhaaNodeH
namespace Go.Proofs.Ytkapdagmffbbhaa.lawNodeBytes
open Go.ChangeShapes Go.WideShapes Go.ChangeAt Go.RowKit Go.Deep
set_option linter.unusedVariables false
set_option maxRecDepth 20000

set_option maxRecDepth 100000 in
set_option maxHeartbeats 4000000 in
theorem walk (l : P8) (w : World) (hf : l.Fit) : Calls Try.prog 4 #[.agg (p8L l).toArray] w fun e w' => e = .returned (.bool true) ∧ Below w.heap.size w w' := by
  have hB := fun W => nBytes_any l W hf
  have hB2 := fun W => rnBytes_any l W hf
  have hE := fun W => Empty_any l W
  have hE2 := fun W => refEmpty_any l W
  have hN := fun W => Newest_any l W
  have hN2 := fun W => refNewest_any l W
  generalize l.secO = O at *
  generalize nodeEmpty l.1 = em at *
  generalize newestN 0 l.1 = nn at *
  have hq : ∀ w : World, (Op.equalIn 10000 23 (.agg (secL (O.getD sec0)).toArray) (.agg (secL (O.getD sec0)).toArray)).run Try.prog w = .ok true w := fun w => by rw [eqSec, decide_eq_true rfl]
  unfold NSRes at hB hB2
  generalize O.getD sec0 = S at *
  generalize errI 51 O = er at *
  have hB := Lib.hid hB
  have hB2 := Lib.hid hB2
  have hE := Lib.hid hE
  have hE2 := Lib.hid hE2
  have hN := Lib.hid hN
  have hN2 := Lib.hid hN2
  have hzs := zeroSec
  have T0 := Lib.hid ((NT.start w).box 31 (p8L l))
  go_enter Try.func4, Try.ntmps4
  go_wp2_with ((with_reducible refine n2Dst (some 8) (by rfl) ?_); refine wantList_load (by rfl) 31 _ rfl w.heap.size 0 (by rfl) (p8L l) _ (rangeN T0.out.b0) Try.underlying31 rfl (infoP8 _) ?_)
  refine (hB.out _).mono ?_
  rintro e w1 ⟨rfl, b1⟩
  have T1 := Lib.hid (T0.out.call b1)
  clear b1
  go_wp2_with (first
    | ((with_reducible refine guardList ?_)
       refine wantList_store (by rfl) 23 _ _ rfl w1.heap.size 0 (by rfl) (secL S) (by rfl) _ (secL sec0) (secL S) (Blk.new w1 23 (secL sec0)) (by simp only [secL_length]; decide) (secL_one _) (infoSecL _) wholeSn ?_
       intro w2 h2 k2 z2
       have T2 := Lib.hid (T1.out.lay k2 h2)
       clear h2 k2 z2)
    | ((with_reducible refine n2Dst (some 13) (by rfl) ?_); refine wantList_load (by rfl) 31 _ rfl w.heap.size 0 (by rfl) (p8L l) _ (rangeN T2.out.b1) Try.underlying31 rfl (infoP8 _) ?_))
  refine (hB2.out _).mono ?_
  rintro e w3 ⟨rfl, b3⟩
  have T3 := Lib.hid (T2.out.call b3)
  clear b3
  go_wp2_with (first
    | ((with_reducible refine guardList ?_)
       refine wantList_store (by rfl) 23 _ _ rfl w3.heap.size 0 (by rfl) (secL S) (by rfl) _ (secL sec0) (secL S) (Blk.new w3 23 (secL sec0)) (by simp only [secL_length]; decide) (secL_one _) (infoSecL _) wholeSn ?_
       intro w4 h4 k4 z4
       have T4 := Lib.hid (T3.out.lay k4 h4)
       clear h4 k4 z4))
  refine inO_region [(2, fun w' => w'.rangeAt (w1.heap.size) (0) (secL S)), (3, fun w' => w'.rangeAt (w3.heap.size) (0) (secL S)), (12, fun w' => w'.rangeAt (w.heap.size) (0) (p8L l)), (14, fun w' => w'.rangeAt (w.heap.size) (0) (p8L l)), (19, fun w' => w'.rangeAt (w.heap.size) (0) (p8L l)), (21, fun w' => w'.rangeAt (w.heap.size) (0) (p8L l))] (by kernel_rfl) (Owed.cons (rangeN T4.out.drew.b1) (Owed.cons (rangeN T4.out.drew.b0) (Owed.cons (rangeN T4.out.drew.b2) (Owed.cons (rangeN T4.out.drew.b2) (Owed.cons (rangeN T4.out.drew.b2) (Owed.cons (rangeN T4.out.drew.b2) (Owed.nil _ _))))))) ?_
  refine inO_step 0 ⟨_, _, _, _, _, _⟩ rfl (by kernel_rfl) rfl (fun K hK => ?_)
  refine wp_call Try.func10 (by kernel_rfl) rfl _ _ rfl _ rfl _ (nodeAlive_any _) fun e w5 R => ?_
  obtain ⟨rfl, bb⟩ := R
  have T5 := Lib.hid (T4.out.drew.call bb)
  clear bb
  refine ⟨_, rfl, ?_⟩
  refine hK _ _ (Keeps.cons (fun _ => rangeN T5.out.b1) (Keeps.cons (fun _ => rangeN T5.out.b0) (Keeps.cons (fun _ => rangeN T5.out.b2) (Keeps.cons (fun _ => rangeN T5.out.b2) (Keeps.cons (fun _ => rangeN T5.out.b2) (Keeps.cons (fun _ => rangeN T5.out.b2) (Keeps.nil _ _ _))))))) ?_
  clear hK K
  simp only [Act.put, List.setIfInBounds_toArray, List.set_cons_zero, List.set_cons_succ]
  refine inO_take 1 ⟨_, _, _, _, _, _⟩ (.bool true) rfl (by kernel_rfl) (by kernel_rfl) (by kernel_rfl) (fun _ _ _ h => h) rfl (fun ww => exec_move (by rfl) (by rfl) ww) ?_
  simp only [Act.put, List.setIfInBounds_toArray, List.set_cons_zero, List.set_cons_succ]
  refine inO_load 2 ⟨_, _, _, _, _, _⟩ (.agg (secL S).toArray) (fun w' => w'.rangeAt (w1.heap.size) (0) (secL S)) rfl (by kernel_rfl) (by kernel_rfl) (by kernel_rfl) (fun _ _ _ h => h) rfl (.head _) (fun ww hw => exec_load_mid _ _ (by rfl) _ _ (by rfl) _ _ hw Try.underlying23 rfl (infoSecL _)) ?_
  simp only [Act.put, List.setIfInBounds_toArray, List.set_cons_zero, List.set_cons_succ]
  refine inO_load 3 ⟨_, _, _, _, _, _⟩ (.agg (secL S).toArray) (fun w' => w'.rangeAt (w3.heap.size) (0) (secL S)) rfl (by kernel_rfl) (by kernel_rfl) (by kernel_rfl) (fun _ _ _ h => h) rfl (.tail _ (.head _)) (fun ww hw => exec_load_mid _ _ (by rfl) _ _ (by rfl) _ _ hw Try.underlying23 rfl (infoSecL _)) ?_
  simp only [Act.put, List.setIfInBounds_toArray, List.set_cons_zero, List.set_cons_succ]
  refine inO_take 4 ⟨_, _, _, _, _, _⟩ (.bool true) rfl (by kernel_rfl) (by kernel_rfl) (by kernel_rfl) (fun _ _ _ h => h) rfl (fun ww => by go_simp) ?_
  simp only [Act.put, List.setIfInBounds_toArray, List.set_cons_zero, List.set_cons_succ]
  refine inO_take 5 ⟨_, _, _, _, _, _⟩ (.bool true) rfl (by kernel_rfl) (by kernel_rfl) (by kernel_rfl) (fun _ _ _ h => h) rfl (fun ww => by go_simp) ?_
  simp only [Act.put, List.setIfInBounds_toArray, List.set_cons_zero, List.set_cons_succ]
  refine inO_take 6 ⟨_, _, _, _, _, _⟩ (.bool true) rfl (by kernel_rfl) (by kernel_rfl) (by kernel_rfl) (fun _ _ _ h => h) rfl (fun ww => exec_move (by rfl) (by rfl) ww) ?_
  simp only [Act.put, List.setIfInBounds_toArray, List.set_cons_zero, List.set_cons_succ]
  refine inO_take 7 ⟨_, _, _, _, _, _⟩ (.int .i64 er) rfl (by kernel_rfl) (by kernel_rfl) (by kernel_rfl) (fun _ _ _ h => h) rfl (fun ww => exec_move (by rfl) (by rfl) ww) ?_
  simp only [Act.put, List.setIfInBounds_toArray, List.set_cons_zero, List.set_cons_succ]
  refine inO_take 8 ⟨_, _, _, _, _, _⟩ (.int .i64 er) rfl (by kernel_rfl) (by kernel_rfl) (by kernel_rfl) (fun _ _ _ h => h) rfl (fun ww => exec_move (by rfl) (by rfl) ww) ?_
  simp only [Act.put, List.setIfInBounds_toArray, List.set_cons_zero, List.set_cons_succ]
  refine inO_take 9 ⟨_, _, _, _, _, _⟩ (.bool true) rfl (by kernel_rfl) (by kernel_rfl) (by kernel_rfl) (fun _ _ _ h => h) rfl (fun ww => by go_simp) ?_
  simp only [Act.put, List.setIfInBounds_toArray, List.set_cons_zero, List.set_cons_succ]
  refine inO_take 10 ⟨_, _, _, _, _, _⟩ (.bool true) rfl (by kernel_rfl) (by kernel_rfl) (by kernel_rfl) (fun _ _ _ h => h) rfl (fun ww => by go_simp) ?_
  simp only [Act.put, List.setIfInBounds_toArray, List.set_cons_zero, List.set_cons_succ]
  refine inO_take 11 ⟨_, _, _, _, _, _⟩ (.bool true) rfl (by kernel_rfl) (by kernel_rfl) (by kernel_rfl) (fun _ _ _ h => h) rfl (fun ww => exec_move (by rfl) (by rfl) ww) ?_
  simp only [Act.put, List.setIfInBounds_toArray, List.set_cons_zero, List.set_cons_succ]
  refine inO_load 12 ⟨_, _, _, _, _, _⟩ (.agg (p8L l).toArray) (fun w' => w'.rangeAt (w.heap.size) (0) (p8L l)) rfl (by kernel_rfl) (by kernel_rfl) (by kernel_rfl) (fun _ _ _ h => h) rfl (.tail _ (.tail _ (.head _))) (fun ww hw => exec_load_mid _ _ (by rfl) _ _ (by rfl) _ _ hw Try.underlying31 rfl (infoP8 _)) ?_
  simp only [Act.put, List.setIfInBounds_toArray, List.set_cons_zero, List.set_cons_succ]
  refine inO_load 14 ⟨_, _, _, _, _, _⟩ (.agg (p8L l).toArray) (fun w' => w'.rangeAt (w.heap.size) (0) (p8L l)) rfl (by kernel_rfl) (by kernel_rfl) (by kernel_rfl) (fun _ _ _ h => h) rfl (.tail _ (.tail _ (.tail _ (.head _)))) (fun ww hw => exec_load_mid _ _ (by rfl) _ _ (by rfl) _ _ hw Try.underlying31 rfl (infoP8 _)) ?_
  simp only [Act.put, List.setIfInBounds_toArray, List.set_cons_zero, List.set_cons_succ]
  refine inO_step 13 ⟨_, _, _, _, _, _⟩ rfl (by kernel_rfl) rfl (fun K hK => ?_)
  refine wp_call Try.func11 (by kernel_rfl) rfl _ _ rfl _ rfl _ (hE.out _) fun e w6 R => ?_
  obtain ⟨rfl, bb⟩ := R
  have T6 := Lib.hid (T5.out.call bb)
  clear bb
  refine ⟨_, rfl, ?_⟩
  refine hK _ _ (Keeps.cons (fun _ => rangeN T6.out.b1) (Keeps.cons (fun _ => rangeN T6.out.b0) (Keeps.cons (fun _ => rangeN T6.out.b2) (Keeps.cons (fun _ => rangeN T6.out.b2) (Keeps.cons (fun _ => rangeN T6.out.b2) (Keeps.cons (fun _ => rangeN T6.out.b2) (Keeps.nil _ _ _))))))) ?_
  clear hK K
  simp only [Act.put, List.setIfInBounds_toArray, List.set_cons_zero, List.set_cons_succ]
  refine inO_step 15 ⟨_, _, _, _, _, _⟩ rfl (by kernel_rfl) rfl (fun K hK => ?_)
  refine wp_call Try.func13 (by kernel_rfl) rfl _ _ rfl _ rfl _ (hE2.out _) fun e w7 R => ?_
  obtain ⟨rfl, bb⟩ := R
  have T7 := Lib.hid (T6.out.call bb)
  clear bb
  refine ⟨_, rfl, ?_⟩
  refine hK _ _ (Keeps.cons (fun _ => rangeN T7.out.b1) (Keeps.cons (fun _ => rangeN T7.out.b0) (Keeps.cons (fun _ => rangeN T7.out.b2) (Keeps.cons (fun _ => rangeN T7.out.b2) (Keeps.cons (fun _ => rangeN T7.out.b2) (Keeps.cons (fun _ => rangeN T7.out.b2) (Keeps.nil _ _ _))))))) ?_
  clear hK K
  simp only [Act.put, List.setIfInBounds_toArray, List.set_cons_zero, List.set_cons_succ]
  refine inO_take 16 ⟨_, _, _, _, _, _⟩ (.bool true) rfl (by kernel_rfl) (by kernel_rfl) (by kernel_rfl) (fun _ _ _ h => h) rfl (fun ww => by go_simp) ?_
  simp only [Act.put, List.setIfInBounds_toArray, List.set_cons_zero, List.set_cons_succ]
  refine inO_take 17 ⟨_, _, _, _, _, _⟩ (.bool true) rfl (by kernel_rfl) (by kernel_rfl) (by kernel_rfl) (fun _ _ _ h => h) rfl (fun ww => by go_simp) ?_
  simp only [Act.put, List.setIfInBounds_toArray, List.set_cons_zero, List.set_cons_succ]
  refine inO_take 18 ⟨_, _, _, _, _, _⟩ (.bool true) rfl (by kernel_rfl) (by kernel_rfl) (by kernel_rfl) (fun _ _ _ h => h) rfl (fun ww => exec_move (by rfl) (by rfl) ww) ?_
  simp only [Act.put, List.setIfInBounds_toArray, List.set_cons_zero, List.set_cons_succ]
  refine inO_load 19 ⟨_, _, _, _, _, _⟩ (.agg (p8L l).toArray) (fun w' => w'.rangeAt (w.heap.size) (0) (p8L l)) rfl (by kernel_rfl) (by kernel_rfl) (by kernel_rfl) (fun _ _ _ h => h) rfl (.tail _ (.tail _ (.tail _ (.tail _ (.head _))))) (fun ww hw => exec_load_mid _ _ (by rfl) _ _ (by rfl) _ _ hw Try.underlying31 rfl (infoP8 _)) ?_
  simp only [Act.put, List.setIfInBounds_toArray, List.set_cons_zero, List.set_cons_succ]
  refine inO_load 21 ⟨_, _, _, _, _, _⟩ (.agg (p8L l).toArray) (fun w' => w'.rangeAt (w.heap.size) (0) (p8L l)) rfl (by kernel_rfl) (by kernel_rfl) (by kernel_rfl) (fun _ _ _ h => h) rfl (.tail _ (.tail _ (.tail _ (.tail _ (.tail _ (.head _)))))) (fun ww hw => exec_load_mid _ _ (by rfl) _ _ (by rfl) _ _ hw Try.underlying31 rfl (infoP8 _)) ?_
  simp only [Act.put, List.setIfInBounds_toArray, List.set_cons_zero, List.set_cons_succ]
  refine inO_step 20 ⟨_, _, _, _, _, _⟩ rfl (by kernel_rfl) rfl (fun K hK => ?_)
  refine wp_call Try.func14 (by kernel_rfl) rfl _ _ rfl _ rfl _ (hN.out _) fun e w8 R => ?_
  obtain ⟨rfl, bb⟩ := R
  have T8 := Lib.hid (T7.out.call bb)
  clear bb
  refine ⟨_, rfl, ?_⟩
  refine hK _ _ (Keeps.cons (fun _ => rangeN T8.out.b1) (Keeps.cons (fun _ => rangeN T8.out.b0) (Keeps.cons (fun _ => rangeN T8.out.b2) (Keeps.cons (fun _ => rangeN T8.out.b2) (Keeps.cons (fun _ => rangeN T8.out.b2) (Keeps.cons (fun _ => rangeN T8.out.b2) (Keeps.nil _ _ _))))))) ?_
  clear hK K
  simp only [Act.put, List.setIfInBounds_toArray, List.set_cons_zero, List.set_cons_succ]
  refine inO_step 22 ⟨_, _, _, _, _, _⟩ rfl (by kernel_rfl) rfl (fun K hK => ?_)
  refine wp_call Try.func15 (by kernel_rfl) rfl _ _ rfl _ rfl _ (hN2.out _) fun e w9 R => ?_
  obtain ⟨rfl, bb⟩ := R
  have T9 := Lib.hid (T8.out.call bb)
  clear bb
  refine ⟨_, rfl, ?_⟩
  refine hK _ _ (Keeps.cons (fun _ => rangeN T9.out.b1) (Keeps.cons (fun _ => rangeN T9.out.b0) (Keeps.cons (fun _ => rangeN T9.out.b2) (Keeps.cons (fun _ => rangeN T9.out.b2) (Keeps.cons (fun _ => rangeN T9.out.b2) (Keeps.cons (fun _ => rangeN T9.out.b2) (Keeps.nil _ _ _))))))) ?_
  clear hK K
  simp only [Act.put, List.setIfInBounds_toArray, List.set_cons_zero, List.set_cons_succ]
  refine inO_take 23 ⟨_, _, _, _, _, _⟩ (.bool true) rfl (by kernel_rfl) (by kernel_rfl) (by kernel_rfl) (fun _ _ _ h => h) rfl (fun ww => by go_simp) ?_
  simp only [Act.put, List.setIfInBounds_toArray, List.set_cons_zero, List.set_cons_succ]
  refine inO_take 24 ⟨_, _, _, _, _, _⟩ (.bool true) rfl (by kernel_rfl) (by kernel_rfl) (by kernel_rfl) (fun _ _ _ h => h) rfl (fun ww => by go_simp) ?_
  simp only [Act.put, List.setIfInBounds_toArray, List.set_cons_zero, List.set_cons_succ]
  refine inO_take 25 ⟨_, _, _, _, _, _⟩ (.bool true) rfl (by kernel_rfl) (by kernel_rfl) (by kernel_rfl) (fun _ _ _ h => h) rfl (fun ww => by go_simp) ?_
  simp only [Act.put, List.setIfInBounds_toArray, List.set_cons_zero, List.set_cons_succ]
  refine inO_done (by kernel_rfl) ?_
  go_wp2
  go_ret
  exact ⟨rfl, T9.out.q⟩

theorem own : ownKnob Try.prog.godebug = none := by kernel_rfl
theorem laidOut : laidOutB Try.prog = true := by kernel_rfl

set_option maxRecDepth 100000 in
theorem lifted (os : Os) (started : os.Started) (H : Type) (enc : TypeId × Value → H) :
    ReturnsInHanded {} Try.checked os 4 .any (Rows.nodeBytesSpec.pre6 enc Try.prog Try.f4 Rows.nodeBytesRow.domain false) (Rows.nodeBytesSpec.post enc Try.prog Try.f4 false true false false) := by
  refine returnsInHanded_of_change_sized (C := Try.checked) own started (by kernel_rfl) Try.func4
    (ChangeSpec.witness6 (enc := enc) (C := Try.checked) false ⟨#[], #[.agg (Array.replicate 8 #[.int .i64 0, .int .u64 0, .int .u32 0]).flatten], []⟩ 8 (by kernel_rfl) (by kernel_rfl) (by kernel_rfl) (by kernel_rfl)) ?_
  intro W base args ds gs before hval0 hW hcnd hsz0 _
  have hval : ∀ (j : Nat) t v, Try.f4.params[j]? = some t → args[j]? = some v → Value.okWide Try.prog W .any base t v := hval0
  have hsz : (DataW.weightsEach Try.prog (Try.f4.params.toList ++ Rows.nodeBytesSpec.plain.varTypes Try.prog) (ds ++ gs)).all (· ≤ reachBytes) = true := hsz0
  have hW' := hW
  obtain ⟨p, q, hA0, hV, rfl, hfz, hnd⟩ := hW
  have hA : DataW.TrodAll enc Try.prog W 0 (fun _ => true) true Try.f4.params.toList args.toList ds p := hA0
  rw [Try.params4] at hA hval hsz
  obtain ⟨v0, vs0, d0, ds0, p0, q0, hargs, rfl, rfl, h0, r0⟩ := trodAll_cons hA
  obtain ⟨rfl, rfl, rfl⟩ := trodAll_nil r0
  obtain rfl : args = #[v0] := by cases args; simp_all
  obtain ⟨rfl, rfl⟩ := trodVars_none hV
  have k0 := h0
  have lt0 : ∀ x ∈ p0, x.block < W.heap.size := by obtain ⟨m, hm⟩ := k0; exact DataW.trod_lt m _ _ _ hm
  obtain ⟨a0, rfl, fi0⟩ := open_ptrs8 h0 (hval 0 31 v0 rfl rfl)
  clear hA0 hval0 hsz0
  refine (walk a0 W fi0).mono fun e W' ⟨he, bel⟩ => ?_
  subst he
  exact ⟨_, rfl, _, _, _, [], _, [], hW', trodAll_mk1 (shut_bool Try.underlying4 _), (trodAll_cons_mk (Below.trod laidOut (by kernel_rfl) (of_decide_eq_true (by kernel_rfl)) k0 bel lt0) trodAll_mk0), rfl, bel.frame _, fun h => by cases h⟩

theorem proved : Rows.NodeBytesSaid :=
  OpenClaim.holds_of_wide 4 Try.f4 rfl rfl rfl rfl rfl rfl rfl ⟨rfl, rfl, rfl, rfl, rfl⟩ rfl rfl rfl rfl rfl (by kernel_rfl) Try.func4 (by kernel_rfl)
    (of_decide_eq_true (by kernel_rfl)) (by unfold Func.isWrapper; first | (rw [if_pos (by decide +kernel)]; kernel_rfl) | (rw [if_neg (by decide +kernel)]; exact ⟨rfl, rfl⟩))
    (fun os started H enc _ => lifted os started H enc)
end Go.Proofs.Ytkapdagmffbbhaa.lawNodeBytes
