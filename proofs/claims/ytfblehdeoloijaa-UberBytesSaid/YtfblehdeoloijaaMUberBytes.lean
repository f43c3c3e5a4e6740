/- UberBytes, for every input: the law returns true and each argument reads behind the call as before. No condition. -/
import Derived.Test.YtfblehdeoloijaaGUberR
namespace Go.Proofs.Ytfblehdeoloijaa.lawUberBytes
open Go.ChangeShapes Go.WideShapes Go.ChangeAt Go.RowKit Go.Deep
set_option linter.unusedVariables false
set_option maxRecDepth 20000

theorem atDst (dst : Option Nat) {P : Program} {ops : Array Oper} {rest : List Oper} {o : Oper} {a : Act} {w : World} {Q : Exit → Act → World → Prop} (hd : o.dst = dst) (h : wpList P ops Q (o :: rest) a w) : wpList P ops Q (o :: rest) a w := h
/-- the operation is a store through this slot -/
def storeAt (o : Oper) : Option Nat := match o.op with | .store _ (.tmp t) _ => some t | _ => none
theorem atOper (t : Nat) {P : Program} {ops : Array Oper} {rest : List Oper} {o : Oper} {a : Act} {w : World} {Q : Exit → Act → World → Prop} (hd : storeAt o = some t) (h : wpList P ops Q (o :: rest) a w) : wpList P ops Q (o :: rest) a w := h
/-- blocks known whole, and all below is as it was -/
structure Bks (w0 w : World) (L : List (Nat × TypeId × List Value)) : Prop where
  blk : ∀ x ∈ L, Blk w x.1 x.2.1 x.2.2
  q : Below w0.heap.size w0 w
theorem Bks.call {w0 w w' : World} {L : List (Nat × TypeId × List Value)} (h : Bks w0 w L) (hb : Below w.heap.size w w') : Bks w0 w' L := ⟨fun x hx => blk_out (h.blk x hx) hb, h.q.trans (hb.mono h.q.size)⟩
theorem Bks.new {w0 w w' : World} {L : List (Nat × TypeId × List Value)} (h : Bks w0 w L) (t : TypeId) {o : Obj} {cs : List Value} (k : Kept (· = w.heap.size) (w.alloc o) w') (hb : Blk w' w.heap.size t cs) : Bks w0 w' ((w.heap.size, t, cs) :: L) := by
  have hq : Below w.heap.size w w' := Kept.out ((Below.refl _ _).alloc (Nat.le_refl _) o) k (fun i _ e => by omega) (by simp)
  refine ⟨fun x hx => ?_, h.q.trans (hq.mono h.q.size)⟩
  rcases List.mem_cons.1 hx with rfl | hx
  · exact hb
  · exact blk_out (h.blk x hx) hq

set_option maxRecDepth 100000 in
set_option maxHeartbeats 8000000 in
theorem way (u : U5) (s X : Sec) (E : Int) (V : U5) (K R : Bool) (w : World)
    (hB1 : ∀ W, Calls Try.prog 12 #[.agg (u5L u).toArray] W fun e w' => e = .returned (.tuple #[.agg (secL X).toArray, .int .i64 E]) ∧ Below W.heap.size W w')
    (hB2 : ∀ W, Calls Try.prog 13 #[.agg (u5L u).toArray] W fun e w' => e = .returned (.tuple #[.agg (secL X).toArray, .int .i64 E]) ∧ Below W.heap.size W w')
    (hD1 : ∀ W, Calls Try.prog 14 #[.agg (secL s).toArray] W fun e w' => e = .returned (.tuple #[.agg (u5L V).toArray, .bool K]) ∧ Below W.heap.size W w')
    (hD2 : ∀ W, Calls Try.prog 15 #[.agg (secL s).toArray] W fun e w' => e = .returned (.tuple #[.agg (u5L V).toArray, .bool K]) ∧ Below W.heap.size W w')
    (hR1 : ∀ W, Calls Try.prog 16 #[.agg (u5L u).toArray] W fun e w' => e = .returned (.bool R) ∧ Below W.heap.size W w')
    (hR2 : ∀ W, Calls Try.prog 17 #[.agg (u5L u).toArray] W fun e w' => e = .returned (.bool R) ∧ Below W.heap.size W w') :
    Calls Try.prog 4 #[.agg (u5L u).toArray, .agg (secL s).toArray] w fun e w' => e = .returned (.bool true) ∧ Below w.heap.size w w' := by
  have hz := zeroSec
  have hB1 := Lib.hid hB1
  have hB2 := Lib.hid hB2
  have hD1 := Lib.hid hD1
  have hD2 := Lib.hid hD2
  have hR1 := Lib.hid hR1
  have hR2 := Lib.hid hR2
  have hsl := Lib.hid (secL_length s)
  have hxl := Lib.hid (secL_length X)
  have C1 : Hid (Bks w ((w.alloc (.cells (u5L u).toArray 27)).alloc (.cells (secL s).toArray 34)) [((w.heap.size + 1), 34, secL s), (w.heap.size, 27, u5L u)]) := Lib.hid ⟨fun x hx => by
    simp only [List.mem_cons, List.not_mem_nil, or_false] at hx
    rcases hx with rfl | rfl
    · exact two_new w _ _ _
    · exact (Blk.new w 27 (u5L u)).alloc _, two_below w _ _⟩
  go_enter Try.func4, Try.ntmps4
  go_wp2_with (first
    | ((with_reducible refine atDst (some 14) (by rfl) ?_); refine wantList_load (by rfl) 27 _ rfl w.heap.size 0 (by rfl) (u5L u) _ (range_blk (C1.out.blk _ (.tail _ (.head _)))) Try.underlying27 rfl (infoUberL _) ?_))
  refine (hB1.out _).mono ?_
  rintro e w2 ⟨rfl, b2⟩
  have hC2 := Lib.hid (C1.out.call b2)
  clear b2
  go_wp2_with (first
    | ((with_reducible refine guardList ?_); refine atOper 5 (by rfl) ?_
       refine wantList_store (by rfl) 34 _ _ rfl w2.heap.size 0 (by rfl) (secL X) (by rfl) _ (secL sec0) (secL X) (Blk.new w2 34 (secL sec0)) (by simp only [secL_length]; decide) (secL_one _) (infoSecL _) whole_sec ?_
       intro w3 b3 k3 z3
       have hS3 := Lib.hid (Bks.new hC2.out 34 k3 b3)
       clear b3 k3 z3)
    | ((with_reducible refine atDst (some 19) (by rfl) ?_); refine wantList_load (by rfl) 27 _ rfl w.heap.size 0 (by rfl) (u5L u) _ (range_blk (hS3.out.blk _ (.tail _ (.tail _ (.head _))))) Try.underlying27 rfl (infoUberL _) ?_))
  refine (hB2.out _).mono ?_
  rintro e w4 ⟨rfl, b4⟩
  have hC4 := Lib.hid (hS3.out.call b4)
  clear b4
  go_wp2_with (first
    | ((with_reducible refine guardList ?_); refine atOper 7 (by rfl) ?_
       refine wantList_store (by rfl) 34 _ _ rfl w4.heap.size 0 (by rfl) (secL X) (by rfl) _ (secL sec0) (secL X) (Blk.new w4 34 (secL sec0)) (by simp only [secL_length]; decide) (secL_one _) (infoSecL _) whole_sec ?_
       intro w5 b5 k5 z5
       have hS5 := Lib.hid (Bks.new hC4.out 34 k5 b5)
       clear b5 k5 z5)
    | ((with_reducible refine atDst (some 24) (by rfl) ?_); refine wantList_load (by rfl) 34 _ rfl (w.heap.size + 1) 0 (by rfl) (secL s) _ (range_blk (hS5.out.blk _ (.tail _ (.tail _ (.head _))))) Try.underlying34 rfl (infoSecL _) ?_))
  refine (hD1.out _).mono ?_
  rintro e w6 ⟨rfl, b6⟩
  have hC6 := Lib.hid (hS5.out.call b6)
  clear b6
  go_wp2_with (first
    | ((with_reducible refine guardList ?_); refine atOper 9 (by rfl) ?_
       refine wantList_store (by rfl) 27 _ _ rfl w6.heap.size 0 (by rfl) (u5L V) (by rfl) _ (u5L u5z) (u5L V) (Blk.new w6 27 (u5L u5z)) (Nat.le_of_eq rfl) (u5L_one _) (infoUberL _) rfl ?_
       intro w7 b7 k7 z7
       have hS7 := Lib.hid (Bks.new hC6.out 27 k7 b7)
       clear b7 k7 z7)
    | ((with_reducible refine atDst (some 29) (by rfl) ?_); refine wantList_load (by rfl) 34 _ rfl (w.heap.size + 1) 0 (by rfl) (secL s) _ (range_blk (hS7.out.blk _ (.tail _ (.tail _ (.tail _ (.head _)))))) Try.underlying34 rfl (infoSecL _) ?_))
  refine (hD2.out _).mono ?_
  rintro e w8 ⟨rfl, b8⟩
  have hC8 := Lib.hid (hS7.out.call b8)
  clear b8
  go_wp2_with (first
    | ((with_reducible refine guardList ?_); refine atOper 11 (by rfl) ?_
       refine wantList_store (by rfl) 27 _ _ rfl w8.heap.size 0 (by rfl) (u5L V) (by rfl) _ (u5L u5z) (u5L V) (Blk.new w8 27 (u5L u5z)) (Nat.le_of_eq rfl) (u5L_one _) (infoUberL _) rfl ?_
       intro w9 b9 k9 z9
       have hS9 := Lib.hid (Bks.new hC8.out 27 k9 b9)
       clear b9 k9 z9))
  have hq1 : ∀ w, (Op.equalIn 10000 34 (.agg (secL X).toArray) (.agg (secL X).toArray)).run Try.prog w = .ok true w := fun w => by rw [eqSec]; simp
  have hq2 : ∀ w, (Op.equalIn 10000 27 (.agg (u5L V).toArray) (.agg (u5L V).toArray)).run Try.prog w = .ok true w := fun w => by rw [eqUber_L, U5.eqB_self]
  have hS := Lib.hid (hS9.out.call (Below.refl _ _).drew)
  refine inO_region [(2, fun w' => w'.rangeAt (w.heap.size) (0) (u5L u)), (4, fun w' => w'.rangeAt (w.heap.size) (0) (u5L u)), (9, fun w' => w'.rangeAt (w2.heap.size) (0) (secL X)), (10, fun w' => w'.rangeAt (w4.heap.size) (0) (secL X)), (19, fun w' => w'.rangeAt (w6.heap.size) (0) (u5L V)), (20, fun w' => w'.rangeAt (w8.heap.size) (0) (u5L V))] (by kernel_rfl) (Owed.cons (range_blk (hS.out.blk _ (.tail _ (.tail _ (.tail _ (.tail _ (.tail _ (.head _)))))))) (Owed.cons (range_blk (hS.out.blk _ (.tail _ (.tail _ (.tail _ (.tail _ (.tail _ (.head _)))))))) (Owed.cons (range_blk (hS.out.blk _ (.tail _ (.tail _ (.tail _ (.head _)))))) (Owed.cons (range_blk (hS.out.blk _ (.tail _ (.tail _ (.head _))))) (Owed.cons (range_blk (hS.out.blk _ (.tail _ (.head _)))) (Owed.cons (range_blk (hS.out.blk _ (.head _))) (Owed.nil _ _))))))) ?_
  refine inO_step 0 ⟨_, _, _, _, _, _⟩ rfl (by kernel_rfl) rfl (fun K hK => ?_)
  refine wp_call Try.func11 (by kernel_rfl) rfl _ _ rfl _ rfl _ ((uberAlive_any _)) fun e v1 h => ?_
  obtain ⟨rfl, hb⟩ := h
  refine ⟨_, rfl, ?_⟩
  have hS := Lib.hid (hS.out.call hb)
  refine hK _ _ (Keeps.cons (fun h j v hv => keepCell hb (h j v hv)) (Keeps.cons (fun h j v hv => keepCell hb (h j v hv)) (Keeps.cons (fun h j v hv => keepCell hb (h j v hv)) (Keeps.cons (fun h j v hv => keepCell hb (h j v hv)) (Keeps.cons (fun h j v hv => keepCell hb (h j v hv)) (Keeps.cons (fun h j v hv => keepCell hb (h j v hv)) (Keeps.nil _ _ _))))))) ?_
  clear hK K
  simp only [Act.put, List.setIfInBounds_toArray, List.set_cons_zero, List.set_cons_succ]
  refine inO_take 1 ⟨_, _, _, _, _, _⟩ (.bool true) rfl (by kernel_rfl) (by kernel_rfl) (by kernel_rfl) (fun _ _ _ h => h) rfl (fun ww => exec_move (by rfl) (by rfl) ww) ?_
  simp only [Act.put, List.setIfInBounds_toArray, List.set_cons_zero, List.set_cons_succ]
  refine inO_load 2 ⟨_, _, _, _, _, _⟩ (.agg (u5L u).toArray) (fun w' => w'.rangeAt (w.heap.size) (0) (u5L u)) rfl (by kernel_rfl) (by kernel_rfl) (by kernel_rfl) (fun _ _ _ h => h) rfl (.head _) (fun ww hw => exec_load_mid _ _ (by rfl) _ _ (by rfl) _ _ hw Try.underlying27 rfl (infoUberL _)) ?_
  simp only [Act.put, List.setIfInBounds_toArray, List.set_cons_zero, List.set_cons_succ]
  refine inO_load 4 ⟨_, _, _, _, _, _⟩ (.agg (u5L u).toArray) (fun w' => w'.rangeAt (w.heap.size) (0) (u5L u)) rfl (by kernel_rfl) (by kernel_rfl) (by kernel_rfl) (fun _ _ _ h => h) rfl (.tail _ (.head _)) (fun ww hw => exec_load_mid _ _ (by rfl) _ _ (by rfl) _ _ hw Try.underlying27 rfl (infoUberL _)) ?_
  simp only [Act.put, List.setIfInBounds_toArray, List.set_cons_zero, List.set_cons_succ]
  refine inO_step 3 ⟨_, _, _, _, _, _⟩ rfl (by kernel_rfl) rfl (fun K hK => ?_)
  refine wp_call Try.func16 (by kernel_rfl) rfl _ _ rfl _ rfl _ ((hR1.out _)) fun e v2 h => ?_
  obtain ⟨rfl, hb⟩ := h
  refine ⟨_, rfl, ?_⟩
  have hS := Lib.hid (hS.out.call hb)
  refine hK _ _ (Keeps.cons (fun h j v hv => keepCell hb (h j v hv)) (Keeps.cons (fun h j v hv => keepCell hb (h j v hv)) (Keeps.cons (fun h j v hv => keepCell hb (h j v hv)) (Keeps.cons (fun h j v hv => keepCell hb (h j v hv)) (Keeps.cons (fun h j v hv => keepCell hb (h j v hv)) (Keeps.cons (fun h j v hv => keepCell hb (h j v hv)) (Keeps.nil _ _ _))))))) ?_
  clear hK K
  simp only [Act.put, List.setIfInBounds_toArray, List.set_cons_zero, List.set_cons_succ]
  refine inO_step 5 ⟨_, _, _, _, _, _⟩ rfl (by kernel_rfl) rfl (fun K hK => ?_)
  refine wp_call Try.func17 (by kernel_rfl) rfl _ _ rfl _ rfl _ ((hR2.out _)) fun e v3 h => ?_
  obtain ⟨rfl, hb⟩ := h
  refine ⟨_, rfl, ?_⟩
  have hS := Lib.hid (hS.out.call hb)
  refine hK _ _ (Keeps.cons (fun h j v hv => keepCell hb (h j v hv)) (Keeps.cons (fun h j v hv => keepCell hb (h j v hv)) (Keeps.cons (fun h j v hv => keepCell hb (h j v hv)) (Keeps.cons (fun h j v hv => keepCell hb (h j v hv)) (Keeps.cons (fun h j v hv => keepCell hb (h j v hv)) (Keeps.cons (fun h j v hv => keepCell hb (h j v hv)) (Keeps.nil _ _ _))))))) ?_
  clear hK K
  simp only [Act.put, List.setIfInBounds_toArray, List.set_cons_zero, List.set_cons_succ]
  refine inO_take 6 ⟨_, _, _, _, _, _⟩ (.bool true) rfl (by kernel_rfl) (by kernel_rfl) (by kernel_rfl) (fun _ _ _ h => h) rfl (fun ww => by go_simp) ?_
  simp only [Act.put, List.setIfInBounds_toArray, List.set_cons_zero, List.set_cons_succ]
  refine inO_take 7 ⟨_, _, _, _, _, _⟩ (.bool true) rfl (by kernel_rfl) (by kernel_rfl) (by kernel_rfl) (fun _ _ _ h => h) rfl (fun ww => by go_simp) ?_
  simp only [Act.put, List.setIfInBounds_toArray, List.set_cons_zero, List.set_cons_succ]
  refine inO_take 8 ⟨_, _, _, _, _, _⟩ (.bool true) rfl (by kernel_rfl) (by kernel_rfl) (by kernel_rfl) (fun _ _ _ h => h) rfl (fun ww => exec_move (by rfl) (by rfl) ww) ?_
  simp only [Act.put, List.setIfInBounds_toArray, List.set_cons_zero, List.set_cons_succ]
  refine inO_load 9 ⟨_, _, _, _, _, _⟩ (.agg (secL X).toArray) (fun w' => w'.rangeAt (w2.heap.size) (0) (secL X)) rfl (by kernel_rfl) (by kernel_rfl) (by kernel_rfl) (fun _ _ _ h => h) rfl (.tail _ (.tail _ (.head _))) (fun ww hw => exec_load_mid _ _ (by rfl) _ _ (by rfl) _ _ hw Try.underlying34 rfl (infoSecL _)) ?_
  simp only [Act.put, List.setIfInBounds_toArray, List.set_cons_zero, List.set_cons_succ]
  refine inO_load 10 ⟨_, _, _, _, _, _⟩ (.agg (secL X).toArray) (fun w' => w'.rangeAt (w4.heap.size) (0) (secL X)) rfl (by kernel_rfl) (by kernel_rfl) (by kernel_rfl) (fun _ _ _ h => h) rfl (.tail _ (.tail _ (.tail _ (.head _)))) (fun ww hw => exec_load_mid _ _ (by rfl) _ _ (by rfl) _ _ hw Try.underlying34 rfl (infoSecL _)) ?_
  simp only [Act.put, List.setIfInBounds_toArray, List.set_cons_zero, List.set_cons_succ]
  refine inO_take 11 ⟨_, _, _, _, _, _⟩ (.bool true) rfl (by kernel_rfl) (by kernel_rfl) (by kernel_rfl) (fun _ _ _ h => h) rfl (fun ww => by go_simp) ?_
  simp only [Act.put, List.setIfInBounds_toArray, List.set_cons_zero, List.set_cons_succ]
  refine inO_take 12 ⟨_, _, _, _, _, _⟩ (.bool true) rfl (by kernel_rfl) (by kernel_rfl) (by kernel_rfl) (fun _ _ _ h => h) rfl (fun ww => by go_simp) ?_
  simp only [Act.put, List.setIfInBounds_toArray, List.set_cons_zero, List.set_cons_succ]
  refine inO_take 13 ⟨_, _, _, _, _, _⟩ (.bool true) rfl (by kernel_rfl) (by kernel_rfl) (by kernel_rfl) (fun _ _ _ h => h) rfl (fun ww => exec_move (by rfl) (by rfl) ww) ?_
  simp only [Act.put, List.setIfInBounds_toArray, List.set_cons_zero, List.set_cons_succ]
  refine inO_take 14 ⟨_, _, _, _, _, _⟩ (.int .i64 E) rfl (by kernel_rfl) (by kernel_rfl) (by kernel_rfl) (fun _ _ _ h => h) rfl (fun ww => exec_move (by rfl) (by rfl) ww) ?_
  simp only [Act.put, List.setIfInBounds_toArray, List.set_cons_zero, List.set_cons_succ]
  refine inO_take 15 ⟨_, _, _, _, _, _⟩ (.int .i64 E) rfl (by kernel_rfl) (by kernel_rfl) (by kernel_rfl) (fun _ _ _ h => h) rfl (fun ww => exec_move (by rfl) (by rfl) ww) ?_
  simp only [Act.put, List.setIfInBounds_toArray, List.set_cons_zero, List.set_cons_succ]
  refine inO_take 16 ⟨_, _, _, _, _, _⟩ (.bool true) rfl (by kernel_rfl) (by kernel_rfl) (by kernel_rfl) (fun _ _ _ h => h) rfl (fun ww => by go_simp) ?_
  simp only [Act.put, List.setIfInBounds_toArray, List.set_cons_zero, List.set_cons_succ]
  refine inO_take 17 ⟨_, _, _, _, _, _⟩ (.bool true) rfl (by kernel_rfl) (by kernel_rfl) (by kernel_rfl) (fun _ _ _ h => h) rfl (fun ww => by go_simp) ?_
  simp only [Act.put, List.setIfInBounds_toArray, List.set_cons_zero, List.set_cons_succ]
  refine inO_take 18 ⟨_, _, _, _, _, _⟩ (.bool true) rfl (by kernel_rfl) (by kernel_rfl) (by kernel_rfl) (fun _ _ _ h => h) rfl (fun ww => exec_move (by rfl) (by rfl) ww) ?_
  simp only [Act.put, List.setIfInBounds_toArray, List.set_cons_zero, List.set_cons_succ]
  refine inO_load 19 ⟨_, _, _, _, _, _⟩ (.agg (u5L V).toArray) (fun w' => w'.rangeAt (w6.heap.size) (0) (u5L V)) rfl (by kernel_rfl) (by kernel_rfl) (by kernel_rfl) (fun _ _ _ h => h) rfl (.tail _ (.tail _ (.tail _ (.tail _ (.head _))))) (fun ww hw => exec_load_mid _ _ (by rfl) _ _ (by rfl) _ _ hw Try.underlying27 rfl (infoUberL _)) ?_
  simp only [Act.put, List.setIfInBounds_toArray, List.set_cons_zero, List.set_cons_succ]
  refine inO_load 20 ⟨_, _, _, _, _, _⟩ (.agg (u5L V).toArray) (fun w' => w'.rangeAt (w8.heap.size) (0) (u5L V)) rfl (by kernel_rfl) (by kernel_rfl) (by kernel_rfl) (fun _ _ _ h => h) rfl (.tail _ (.tail _ (.tail _ (.tail _ (.tail _ (.head _)))))) (fun ww hw => exec_load_mid _ _ (by rfl) _ _ (by rfl) _ _ hw Try.underlying27 rfl (infoUberL _)) ?_
  simp only [Act.put, List.setIfInBounds_toArray, List.set_cons_zero, List.set_cons_succ]
  refine inO_take 21 ⟨_, _, _, _, _, _⟩ (.bool true) rfl (by kernel_rfl) (by kernel_rfl) (by kernel_rfl) (fun _ _ _ h => h) rfl (fun ww => by go_simp) ?_
  simp only [Act.put, List.setIfInBounds_toArray, List.set_cons_zero, List.set_cons_succ]
  refine inO_take 22 ⟨_, _, _, _, _, _⟩ (.bool true) rfl (by kernel_rfl) (by kernel_rfl) (by kernel_rfl) (fun _ _ _ h => h) rfl (fun ww => by go_simp) ?_
  simp only [Act.put, List.setIfInBounds_toArray, List.set_cons_zero, List.set_cons_succ]
  refine inO_take 23 ⟨_, _, _, _, _, _⟩ (.bool true) rfl (by kernel_rfl) (by kernel_rfl) (by kernel_rfl) (fun _ _ _ h => h) rfl (fun ww => exec_move (by rfl) (by rfl) ww) ?_
  simp only [Act.put, List.setIfInBounds_toArray, List.set_cons_zero, List.set_cons_succ]
  refine inO_take 24 ⟨_, _, _, _, _, _⟩ (.bool K) rfl (by kernel_rfl) (by kernel_rfl) (by kernel_rfl) (fun _ _ _ h => h) rfl (fun ww => exec_move (by rfl) (by rfl) ww) ?_
  simp only [Act.put, List.setIfInBounds_toArray, List.set_cons_zero, List.set_cons_succ]
  refine inO_take 25 ⟨_, _, _, _, _, _⟩ (.bool K) rfl (by kernel_rfl) (by kernel_rfl) (by kernel_rfl) (fun _ _ _ h => h) rfl (fun ww => exec_move (by rfl) (by rfl) ww) ?_
  simp only [Act.put, List.setIfInBounds_toArray, List.set_cons_zero, List.set_cons_succ]
  refine inO_take 26 ⟨_, _, _, _, _, _⟩ (.bool true) rfl (by kernel_rfl) (by kernel_rfl) (by kernel_rfl) (fun _ _ _ h => h) rfl (fun ww => by go_simp) ?_
  simp only [Act.put, List.setIfInBounds_toArray, List.set_cons_zero, List.set_cons_succ]
  refine inO_take 27 ⟨_, _, _, _, _, _⟩ (.bool true) rfl (by kernel_rfl) (by kernel_rfl) (by kernel_rfl) (fun _ _ _ h => h) rfl (fun ww => by go_simp) ?_
  simp only [Act.put, List.setIfInBounds_toArray, List.set_cons_zero, List.set_cons_succ]
  refine inO_take 28 ⟨_, _, _, _, _, _⟩ (.bool true) rfl (by kernel_rfl) (by kernel_rfl) (by kernel_rfl) (fun _ _ _ h => h) rfl (fun ww => by go_simp) ?_
  simp only [Act.put, List.setIfInBounds_toArray, List.set_cons_zero, List.set_cons_succ]
  refine inO_done (by kernel_rfl) ?_
  go_wp2
  go_ret
  exact ⟨rfl, hS.out.q⟩

theorem walk (u : U5) (s : Sec) (w : World) (h : u.Fit) :
    Calls Try.prog 4 #[u5V u, .agg (secL s).toArray] w fun e w' => e = .returned (.bool true) ∧ Below w.heap.size w w' :=
  way u s (u.secO.getD sec0) (errI 61 u.secO) ((u5O s).getD u5z) (u5O s).isSome u.rightB w (fun W => uBytes_any u W h) (fun W => refUBytes_any u W h) (fun W => uRead_any s W) (fun W => refURead_any s W) (fun W => uRight_any u W h) (fun W => refURight_any u W h)


theorem own : ownKnob Try.prog.godebug = none := by kernel_rfl
theorem laidOut : laidOutB Try.prog = true := by kernel_rfl

set_option maxRecDepth 100000 in
theorem lifted (os : Os) (started : os.Started) (H : Type) (enc : TypeId × Value → H) :
    ReturnsInHanded {} Try.checked os 4 .any (Rows.uberBytesSpec.pre6 enc Try.prog Try.f4 Rows.uberBytesRow.domain false) (Rows.uberBytesSpec.post enc Try.prog Try.f4 false true false false) := by
  refine returnsInHanded_of_change_sized (C := Try.checked) own started (by kernel_rfl) Try.func4
    (ChangeSpec.witness6 (enc := enc) (C := Try.checked) false ⟨#[], #[.agg #[.int .u64 0, .int .u64 0, .int .i64 0, .int .u64 0, .int .u32 0, .int .i64 0, .int .i64 0], .agg (Array.replicate 128 (.int .u8 0))], []⟩ 8 (by kernel_rfl) (by kernel_rfl) (by kernel_rfl) (by kernel_rfl)) ?_
  intro W base args ds gs before hval0 hW hcnd hsz0 _
  have hval : ∀ (j : Nat) t v, Try.f4.params[j]? = some t → args[j]? = some v → Value.okWide Try.prog W .any base t v := hval0
  have hsz : (DataW.weightsEach Try.prog (Try.f4.params.toList ++ Rows.uberBytesSpec.plain.varTypes Try.prog) (ds ++ gs)).all (· ≤ reachBytes) = true := hsz0
  have hW' := hW
  obtain ⟨p, q, hA0, hV, rfl, hfz, hnd⟩ := hW
  have hA : DataW.TrodAll enc Try.prog W 0 (fun _ => true) true Try.f4.params.toList args.toList ds p := hA0
  rw [Try.params4] at hA hval hsz
  obtain ⟨v0, vs0, d0, ds0, p0, q0, hargs, rfl, rfl, h0, r0⟩ := trodAll_cons hA
  obtain ⟨v1, vs1, d1, ds1, p1, q1, rfl, rfl, rfl, h1, r1⟩ := trodAll_cons r0
  obtain ⟨rfl, rfl, rfl⟩ := trodAll_nil r1
  obtain rfl : args = #[v0, v1] := by cases args; simp_all
  obtain ⟨rfl, rfl⟩ := trodVars_none hV
  have k0 := h0
  have lt0 : ∀ x ∈ p0, x.block < W.heap.size := by obtain ⟨m, hm⟩ := k0; exact DataW.trod_lt m _ _ _ hm
  obtain ⟨a0, rfl, fi0⟩ := open_uber h0 (hval 0 27 v0 rfl rfl)
  have k1 := h1
  have lt1 : ∀ x ∈ p1, x.block < W.heap.size := by obtain ⟨m, hm⟩ := k1; exact DataW.trod_lt m _ _ _ hm
  obtain ⟨a1, rfl⟩ := open_secA h1 (hval 1 34 v1 rfl rfl)
  clear hA0 hval0 hsz0
  refine (walk a0 a1 W fi0 ).mono fun e W' ⟨he, bel⟩ => ?_
  subst he
  exact ⟨_, rfl, _, _, _, [], _, [], hW', trodAll_mk1 (shut_bool Try.underlying4 _), (trodAll_cons_mk (Below.trod laidOut (by kernel_rfl) (of_decide_eq_true (by kernel_rfl)) k0 bel lt0) (trodAll_cons_mk (Below.trod laidOut (by kernel_rfl) (of_decide_eq_true (by kernel_rfl)) k1 bel lt1) trodAll_mk0)), rfl, bel.frame _, fun h => by cases h⟩

theorem proved : Rows.UberBytesSaid :=
  OpenClaim.holds_of_wide 4 Try.f4 rfl rfl rfl rfl rfl rfl rfl ⟨rfl, rfl, rfl, rfl, rfl⟩ rfl rfl rfl rfl rfl (by kernel_rfl) Try.func4 (by kernel_rfl)
    (of_decide_eq_true (by kernel_rfl)) (by unfold Func.isWrapper; first | (rw [if_pos (by decide +kernel)]; kernel_rfl) | (rw [if_neg (by decide +kernel)]; exact ⟨rfl, rfl⟩))
    (fun os started H enc _ => lifted os started H enc)
end Go.Proofs.Ytfblehdeoloijaa.lawUberBytes
