/- UberApart, for every input: the law returns true and each argument reads behind the call as before. No condition. -/
import Derived.Test.YtfblehdeoloijaaGUberB
namespace Go.Proofs.Ytfblehdeoloijaa.lawUberApart
open Go.ChangeShapes Go.WideShapes Go.ChangeAt Go.RowKit Go.Deep
set_option linter.unusedVariables false
set_option maxRecDepth 20000

set_option maxHeartbeats 4000000 in
theorem way (x y : Nat) (a : Int) (b s : Nat) (l n : Int) (x' y' : Nat) (a' : Int) (b' s' : Nat) (l' n' : Int) (w : World) (S T : Sec) (eu ev : Int) (RU RV B : Bool)
    (hBu : ∀ W, Calls Try.prog 12 #[.agg #[.int .u64 (x : Int), .int .u64 (y : Int), .int .i64 a, .int .u64 (b : Int), .int .u32 (s : Int), .int .i64 l, .int .i64 n]] W fun e w' => e = .returned (.tuple #[.agg (secL S).toArray, .int .i64 eu]) ∧ Below W.heap.size W w')
    (hBv : ∀ W, Calls Try.prog 12 #[.agg #[.int .u64 (x' : Int), .int .u64 (y' : Int), .int .i64 a', .int .u64 (b' : Int), .int .u32 (s' : Int), .int .i64 l', .int .i64 n']] W fun e w' => e = .returned (.tuple #[.agg (secL T).toArray, .int .i64 ev]) ∧ Below W.heap.size W w')
    (hRu : ∀ W, Calls Try.prog 16 #[.agg #[.int .u64 (x : Int), .int .u64 (y : Int), .int .i64 a, .int .u64 (b : Int), .int .u32 (s : Int), .int .i64 l, .int .i64 n]] W fun e w' => e = .returned (.bool RU) ∧ Below W.heap.size W w')
    (hRv : ∀ W, Calls Try.prog 16 #[.agg #[.int .u64 (x' : Int), .int .u64 (y' : Int), .int .i64 a', .int .u64 (b' : Int), .int .u32 (s' : Int), .int .i64 l', .int .i64 n']] W fun e w' => e = .returned (.bool RV) ∧ Below W.heap.size W w')
    (hou : (eu = 0 ∧ RU = true) ∨ (eu = 61 ∧ RU = false)) (hov : (ev = 0 ∧ RV = true) ∨ (ev = 61 ∧ RV = false))
    (hq1 : ∀ w, (Op.equalIn 10000 34 (.agg (secL S).toArray) (.agg (secL T).toArray)).run Try.prog w = .ok (decide (S = T)) w)
    (hq2 : ∀ w, (Op.equalIn 10000 27 (.agg #[.int .u64 (x : Int), .int .u64 (y : Int), .int .i64 a, .int .u64 (b : Int), .int .u32 (s : Int), .int .i64 l, .int .i64 n]) (.agg #[.int .u64 (x' : Int), .int .u64 (y' : Int), .int .i64 a', .int .u64 (b' : Int), .int .u32 (s' : Int), .int .i64 l', .int .i64 n'])).run Try.prog w = .ok B w)
    (hq3 : ∀ w, (Op.equalIn 10000 27 (.agg #[.int .u64 (x : Int), .int .u64 (y : Int), .int .i64 a, .int .u64 (b : Int), .int .u32 (s : Int), .int .i64 l, .int .i64 n]) (.agg #[.int .u64 (x : Int), .int .u64 (y : Int), .int .i64 a, .int .u64 (b : Int), .int .u32 (s : Int), .int .i64 l, .int .i64 n])).run Try.prog w = .ok true w)
    (hboth : eu = 0 → ev = 0 → decide (S = T) = B)
    (hRd : eu = 0 → ∀ W, Calls Try.prog 14 #[.agg (secL S).toArray] W fun e w' => e = .returned (.tuple #[.agg #[.int .u64 (x : Int), .int .u64 (y : Int), .int .i64 a, .int .u64 (b : Int), .int .u32 (s : Int), .int .i64 l, .int .i64 n], .bool true]) ∧ Below W.heap.size W w') :
    Calls Try.prog 8 #[.agg #[.int .u64 (x : Int), .int .u64 (y : Int), .int .i64 a, .int .u64 (b : Int), .int .u32 (s : Int), .int .i64 l, .int .i64 n], .agg #[.int .u64 (x' : Int), .int .u64 (y' : Int), .int .i64 a', .int .u64 (b' : Int), .int .u32 (s' : Int), .int .i64 l', .int .i64 n']] w fun e w' => e = .returned (.bool true) ∧ Below w.heap.size w w' := by
  have hz := zeroSec
  have hBu := Lib.hid hBu
  have hBv := Lib.hid hBv
  have hRu := Lib.hid hRu
  have hRv := Lib.hid hRv
  have hRd := Lib.hid hRd
  have hboth := Lib.hid hboth
  have hou := Lib.hid hou
  have hov := Lib.hid hov
  have hq1' := Lib.hid hq1
  have hq2' := Lib.hid hq2
  have hq3' := Lib.hid hq3
  clear hq1 hq2 hq3
  have hU0 := Lib.hid ((Blk.new w 27 (u5L ⟨x, y, ⟨a, b, s⟩, l, n⟩)).alloc (.cells #[.int .u64 (x' : Int), .int .u64 (y' : Int), .int .i64 a', .int .u64 (b' : Int), .int .u32 (s' : Int), .int .i64 l', .int .i64 n'] 27))
  have hV0 := Lib.hid (two_new w (.cells #[.int .u64 (x : Int), .int .u64 (y : Int), .int .i64 a, .int .u64 (b : Int), .int .u32 (s : Int), .int .i64 l, .int .i64 n] 27) 27 (u5L ⟨x', y', ⟨a', b', s'⟩, l', n'⟩))
  have q0 := Lib.hid (two_below w (.cells #[.int .u64 (x : Int), .int .u64 (y : Int), .int .i64 a, .int .u64 (b : Int), .int .u32 (s : Int), .int .i64 l, .int .i64 n] 27) (.cells #[.int .u64 (x' : Int), .int .u64 (y' : Int), .int .i64 a', .int .u64 (b' : Int), .int .u32 (s' : Int), .int .i64 l', .int .i64 n'] 27))
  go_enter Try.func8, Try.ntmps8
  go_wp2_with fail
  refine (uberAlive_any _).mono ?_
  rintro e w1 ⟨rfl, b1⟩
  have hU1 : Hid (Blk w1 w.heap.size 27 (u5L ⟨x, y, ⟨a, b, s⟩, l, n⟩)) := Lib.hid (blk_out hU0.out b1)
  have hV1 : Hid (Blk w1 (w.heap.size + 1) 27 (u5L ⟨x', y', ⟨a', b', s'⟩, l', n'⟩)) := Lib.hid (blk_out hV0.out b1)
  have q1 := Lib.hid (q0.out.trans (b1.mono q0.out.size))
  clear b1 hU0 hV0 q0
  have hlt1 : Hid (w.heap.size + 1 < w1.heap.size) := Lib.hid hV1.out.lt
  obtain ⟨c0, c1, c2, c3, c4, c5, c6⟩ := UAt.cells hU1.out
  go_wp2_with fail
  refine (hBu.out _).mono ?_
  rintro e w2 ⟨rfl, b2⟩
  have hU2 := Lib.hid (blk_out hU1.out b2)
  have hV2 := Lib.hid (blk_out hV1.out b2)
  have q2 := Lib.hid (q1.out.trans (b2.mono q1.out.size))
  have hlt2 : Hid (w1.heap.size ≤ w2.heap.size) := Lib.hid b2.size
  clear b2 c0 c1 c2 c3 c4 c5 c6
  go_wp2_with (first
    | ((with_reducible refine guardList ?_)
       refine wantList_store (by rfl) 34 _ _ rfl w2.heap.size 0 (by rfl) (secL S) (by rfl) _ (secL sec0) (secL S) (Blk.new _ 34 (secL sec0)) (by simp only [secL_length]; decide) (secL_one _) (infoSecL _) whole_sec ?_
       intro w3 hs3 k3 z3
       have hS3 := Lib.hid hs3
       have hU3 := Lib.hid ((hU2.out.alloc (.cells (secL sec0).toArray 34)).kept k3 (by have := hU2.out.lt; omega))
       have hV3 := Lib.hid ((hV2.out.alloc (.cells (secL sec0).toArray 34)).kept k3 (by have := hV2.out.lt; omega))
       have q3 := Lib.hid (Kept.out (q2.out.alloc q2.out.size (.cells (secL sec0).toArray 34)) k3 (fun i _ e => by have := q2.out.size; omega) (by have := q2.out.size; simp; omega))
       clear hs3 k3
       obtain ⟨c0, c1, c2, c3, c4, c5, c6⟩ := UAt.cells hV3.out
       clear z3))
  refine (hBv.out _).mono ?_
  rintro e w4 ⟨rfl, b4⟩
  have hU4 := Lib.hid (blk_out hU3.out b4)
  have hV4 := Lib.hid (blk_out hV3.out b4)
  have hS4 := Lib.hid (blk_out hS3.out b4)
  have q4 := Lib.hid (q3.out.trans (b4.mono q3.out.size))
  clear b4 c0 c1 c2 c3 c4 c5 c6
  rcases hou.out with ⟨rfl, rfl⟩ | ⟨rfl, rfl⟩
  · rcases hov.out with ⟨rfl, rfl⟩ | ⟨rfl, rfl⟩
    · have hB := hboth.out rfl rfl
      have hRd0 := Lib.hid (hRd.out rfl)
      go_wp2_with (first
        | ((with_reducible refine guardList ?_)
           refine wantList_store (by rfl) 34 _ _ rfl w4.heap.size 0 (by rfl) (secL T) (by rfl) _ (secL sec0) (secL T) (Blk.new _ 34 (secL sec0)) (by simp only [secL_length]; decide) (secL_one _) (infoSecL _) whole_sec ?_
           intro w5 hs5 k5 z5
           have hT5 := Lib.hid hs5
           have hS5 := Lib.hid ((hS4.out.alloc (.cells (secL sec0).toArray 34)).kept k5 (by have := hS4.out.lt; omega))
           have hU5 := Lib.hid ((hU4.out.alloc (.cells (secL sec0).toArray 34)).kept k5 (by have := hU4.out.lt; omega))
           have hV5 := Lib.hid ((hV4.out.alloc (.cells (secL sec0).toArray 34)).kept k5 (by have := hV4.out.lt; omega))
           have q5 := Lib.hid (Kept.out (q4.out.alloc q4.out.size (.cells (secL sec0).toArray 34)) k5 (fun i _ e => by have := q4.out.size; omega) (by have := q4.out.size; simp; omega))
           clear hs5 k5
           obtain ⟨c0, c1, c2, c3, c4, c5, c6⟩ := UAt.cells hU5.out
           clear z5)
        | ((with_reducible refine guardList ?_); refine wantList_load (by rfl) 34 _ rfl w2.heap.size 0 (by rfl) (secL S) _ (range_blk hS5.out) Try.underlying34 rfl (infoSecL _) ?_))
      refine (hRd0.out _).mono ?_
      rintro e w6 ⟨rfl, b6⟩
      have hS := Lib.hid ((blk_out hS5.out b6).alloc (.cells #[.int .u64 (x : Int), .int .u64 (y : Int), .int .i64 a, .int .u64 (b : Int), .int .u32 (s : Int), .int .i64 l, .int .i64 n] 27))
      have hT := Lib.hid ((blk_out hT5.out b6).alloc (.cells #[.int .u64 (x : Int), .int .u64 (y : Int), .int .i64 a, .int .u64 (b : Int), .int .u32 (s : Int), .int .i64 l, .int .i64 n] 27))
      have hU := Lib.hid ((blk_out hU5.out b6).alloc (.cells #[.int .u64 (x : Int), .int .u64 (y : Int), .int .i64 a, .int .u64 (b : Int), .int .u32 (s : Int), .int .i64 l, .int .i64 n] 27))
      have hV := Lib.hid ((blk_out hV5.out b6).alloc (.cells #[.int .u64 (x : Int), .int .u64 (y : Int), .int .i64 a, .int .u64 (b : Int), .int .u32 (s : Int), .int .i64 l, .int .i64 n] 27))
      have hR : Hid (Blk (w6.alloc (.cells #[.int .u64 (x : Int), .int .u64 (y : Int), .int .i64 a, .int .u64 (b : Int), .int .u32 (s : Int), .int .i64 l, .int .i64 n] 27)) w6.heap.size 27 (u5L ⟨x, y, ⟨a, b, s⟩, l, n⟩)) := Lib.hid (Blk.new w6 27 (u5L ⟨x, y, ⟨a, b, s⟩, l, n⟩))
      have q6 := Lib.hid (q5.out.trans (b6.mono q5.out.size))
      have q7 := Lib.hid (q6.out.alloc q6.out.size (.cells #[.int .u64 (x : Int), .int .u64 (y : Int), .int .i64 a, .int .u64 (b : Int), .int .u32 (s : Int), .int .i64 l, .int .i64 n] 27))
      clear b6
      cases hdec : decide (S = T) with
      | true =>
        have hq1 := hq1'.out
        have hq2 : ∀ w, (Op.equalIn 10000 27 (.agg (u5L ⟨x, y, ⟨a, b, s⟩, l, n⟩).toArray) (.agg (u5L ⟨x', y', ⟨a', b', s'⟩, l', n'⟩).toArray)).run Try.prog w = .ok B w := hq2'.out
        have hq3 : ∀ w, (Op.equalIn 10000 27 (.agg (u5L ⟨x, y, ⟨a, b, s⟩, l, n⟩).toArray) (.agg (u5L ⟨x, y, ⟨a, b, s⟩, l, n⟩).toArray)).run Try.prog w = .ok true w := hq3'.out
        rw [hdec] at hq1 hB
        subst hB
        have hq1 := hq1
        go_wp2
        refine inO_region [(0, fun w' => w'.rangeAt (w2.heap.size) (0) (secL S)), (1, fun w' => w'.rangeAt (w4.heap.size) (0) (secL T)), (3, fun w' => w'.rangeAt (w.heap.size) (0) (u5L ⟨x, y, ⟨a, b, s⟩, l, n⟩)), (4, fun w' => w'.rangeAt (w.heap.size + 1) (0) (u5L ⟨x', y', ⟨a', b', s'⟩, l', n'⟩)), (11, fun w' => w'.rangeAt (w6.heap.size) (0) (u5L ⟨x, y, ⟨a, b, s⟩, l, n⟩)), (12, fun w' => w'.rangeAt (w.heap.size) (0) (u5L ⟨x, y, ⟨a, b, s⟩, l, n⟩))] (by kernel_rfl) (Owed.cons (range_blk hS.out) (Owed.cons (range_blk hT.out) (Owed.cons (range_blk hU.out) (Owed.cons (range_blk hV.out) (Owed.cons (range_blk hR.out) (Owed.cons (range_blk hU.out) (Owed.nil _ _))))))) ?_
        refine inO_load 0 ⟨_, _, _, _, _, _⟩ (.agg (secL S).toArray) (fun w' => w'.rangeAt (w2.heap.size) (0) (secL S)) rfl (by kernel_rfl) (by kernel_rfl) (by kernel_rfl) (fun _ _ _ h => h) rfl (.head _) (fun ww hw => exec_load_mid _ _ (by rfl) _ _ (by rfl) _ _ hw Try.underlying34 rfl (infoSecL _)) ?_
        simp only [Act.put, List.setIfInBounds_toArray, List.set_cons_zero, List.set_cons_succ]
        refine inO_load 1 ⟨_, _, _, _, _, _⟩ (.agg (secL T).toArray) (fun w' => w'.rangeAt (w4.heap.size) (0) (secL T)) rfl (by kernel_rfl) (by kernel_rfl) (by kernel_rfl) (fun _ _ _ h => h) rfl (.tail _ (.head _)) (fun ww hw => exec_load_mid _ _ (by rfl) _ _ (by rfl) _ _ hw Try.underlying34 rfl (infoSecL _)) ?_
        simp only [Act.put, List.setIfInBounds_toArray, List.set_cons_zero, List.set_cons_succ]
        refine inO_take 2 ⟨_, _, _, _, _, _⟩ (.bool true) rfl (by kernel_rfl) (by kernel_rfl) (by kernel_rfl) (fun _ _ _ h => h) rfl (fun ww => by go_simp) ?_
        simp only [Act.put, List.setIfInBounds_toArray, List.set_cons_zero, List.set_cons_succ]
        refine inO_load 3 ⟨_, _, _, _, _, _⟩ (.agg (u5L ⟨x, y, ⟨a, b, s⟩, l, n⟩).toArray) (fun w' => w'.rangeAt (w.heap.size) (0) (u5L ⟨x, y, ⟨a, b, s⟩, l, n⟩)) rfl (by kernel_rfl) (by kernel_rfl) (by kernel_rfl) (fun _ _ _ h => h) rfl (.tail _ (.tail _ (.head _))) (fun ww hw => exec_load_mid _ _ (by rfl) _ _ (by rfl) _ _ hw Try.underlying27 rfl (infoUberL _)) ?_
        simp only [Act.put, List.setIfInBounds_toArray, List.set_cons_zero, List.set_cons_succ]
        refine inO_load 4 ⟨_, _, _, _, _, _⟩ (.agg (u5L ⟨x', y', ⟨a', b', s'⟩, l', n'⟩).toArray) (fun w' => w'.rangeAt (w.heap.size + 1) (0) (u5L ⟨x', y', ⟨a', b', s'⟩, l', n'⟩)) rfl (by kernel_rfl) (by kernel_rfl) (by kernel_rfl) (fun _ _ _ h => h) rfl (.tail _ (.tail _ (.tail _ (.head _)))) (fun ww hw => exec_load_mid _ _ (by rfl) _ _ (by rfl) _ _ hw Try.underlying27 rfl (infoUberL _)) ?_
        simp only [Act.put, List.setIfInBounds_toArray, List.set_cons_zero, List.set_cons_succ]
        refine inO_take 5 ⟨_, _, _, _, _, _⟩ (.bool true) rfl (by kernel_rfl) (by kernel_rfl) (by kernel_rfl) (fun _ _ _ h => h) rfl (fun ww => by go_simp) ?_
        simp only [Act.put, List.setIfInBounds_toArray, List.set_cons_zero, List.set_cons_succ]
        refine inO_take 6 ⟨_, _, _, _, _, _⟩ (.bool true) rfl (by kernel_rfl) (by kernel_rfl) (by kernel_rfl) (fun _ _ _ h => h) rfl (fun ww => by go_simp) ?_
        simp only [Act.put, List.setIfInBounds_toArray, List.set_cons_zero, List.set_cons_succ]
        refine inO_take 7 ⟨_, _, _, _, _, _⟩ (.bool true) rfl (by kernel_rfl) (by kernel_rfl) (by kernel_rfl) (fun _ _ _ h => h) rfl (fun ww => exec_move (by rfl) (by rfl) ww) ?_
        simp only [Act.put, List.setIfInBounds_toArray, List.set_cons_zero, List.set_cons_succ]
        refine inO_take 8 ⟨_, _, _, _, _, _⟩ (.bool true) rfl (by kernel_rfl) (by kernel_rfl) (by kernel_rfl) (fun _ _ _ h => h) rfl (fun ww => exec_move (by rfl) (by rfl) ww) ?_
        simp only [Act.put, List.setIfInBounds_toArray, List.set_cons_zero, List.set_cons_succ]
        refine inO_take 9 ⟨_, _, _, _, _, _⟩ (.bool true) rfl (by kernel_rfl) (by kernel_rfl) (by kernel_rfl) (fun _ _ _ h => h) rfl (fun ww => by go_simp) ?_
        simp only [Act.put, List.setIfInBounds_toArray, List.set_cons_zero, List.set_cons_succ]
        refine inO_take 10 ⟨_, _, _, _, _, _⟩ (.bool true) rfl (by kernel_rfl) (by kernel_rfl) (by kernel_rfl) (fun _ _ _ h => h) rfl (fun ww => exec_move (by rfl) (by rfl) ww) ?_
        simp only [Act.put, List.setIfInBounds_toArray, List.set_cons_zero, List.set_cons_succ]
        refine inO_load 11 ⟨_, _, _, _, _, _⟩ (.agg (u5L ⟨x, y, ⟨a, b, s⟩, l, n⟩).toArray) (fun w' => w'.rangeAt (w6.heap.size) (0) (u5L ⟨x, y, ⟨a, b, s⟩, l, n⟩)) rfl (by kernel_rfl) (by kernel_rfl) (by kernel_rfl) (fun _ _ _ h => h) rfl (.tail _ (.tail _ (.tail _ (.tail _ (.head _))))) (fun ww hw => exec_load_mid _ _ (by rfl) _ _ (by rfl) _ _ hw Try.underlying27 rfl (infoUberL _)) ?_
        simp only [Act.put, List.setIfInBounds_toArray, List.set_cons_zero, List.set_cons_succ]
        refine inO_load 12 ⟨_, _, _, _, _, _⟩ (.agg (u5L ⟨x, y, ⟨a, b, s⟩, l, n⟩).toArray) (fun w' => w'.rangeAt (w.heap.size) (0) (u5L ⟨x, y, ⟨a, b, s⟩, l, n⟩)) rfl (by kernel_rfl) (by kernel_rfl) (by kernel_rfl) (fun _ _ _ h => h) rfl (.tail _ (.tail _ (.tail _ (.tail _ (.tail _ (.head _)))))) (fun ww hw => exec_load_mid _ _ (by rfl) _ _ (by rfl) _ _ hw Try.underlying27 rfl (infoUberL _)) ?_
        simp only [Act.put, List.setIfInBounds_toArray, List.set_cons_zero, List.set_cons_succ]
        refine inO_take 13 ⟨_, _, _, _, _, _⟩ (.bool true) rfl (by kernel_rfl) (by kernel_rfl) (by kernel_rfl) (fun _ _ _ h => h) rfl (fun ww => by go_simp) ?_
        simp only [Act.put, List.setIfInBounds_toArray, List.set_cons_zero, List.set_cons_succ]
        refine inO_take 14 ⟨_, _, _, _, _, _⟩ (.bool true) rfl (by kernel_rfl) (by kernel_rfl) (by kernel_rfl) (fun _ _ _ h => h) rfl (fun ww => by go_simp) ?_
        simp only [Act.put, List.setIfInBounds_toArray, List.set_cons_zero, List.set_cons_succ]
        refine inO_take 15 ⟨_, _, _, _, _, _⟩ (.bool true) rfl (by kernel_rfl) (by kernel_rfl) (by kernel_rfl) (fun _ _ _ h => h) rfl (fun ww => by go_simp) ?_
        simp only [Act.put, List.setIfInBounds_toArray, List.set_cons_zero, List.set_cons_succ]
        refine inO_done (by kernel_rfl) ?_
        go_wp2
        go_ret
        exact ⟨rfl, q7.out.drew⟩
      | false =>
        have hq1 := hq1'.out
        have hq2 : ∀ w, (Op.equalIn 10000 27 (.agg (u5L ⟨x, y, ⟨a, b, s⟩, l, n⟩).toArray) (.agg (u5L ⟨x', y', ⟨a', b', s'⟩, l', n'⟩).toArray)).run Try.prog w = .ok B w := hq2'.out
        have hq3 : ∀ w, (Op.equalIn 10000 27 (.agg (u5L ⟨x, y, ⟨a, b, s⟩, l, n⟩).toArray) (.agg (u5L ⟨x, y, ⟨a, b, s⟩, l, n⟩).toArray)).run Try.prog w = .ok true w := hq3'.out
        rw [hdec] at hq1 hB
        subst hB
        go_wp2
        refine inO_region [(0, fun w' => w'.rangeAt (w2.heap.size) (0) (secL S)), (1, fun w' => w'.rangeAt (w4.heap.size) (0) (secL T)), (3, fun w' => w'.rangeAt (w.heap.size) (0) (u5L ⟨x, y, ⟨a, b, s⟩, l, n⟩)), (4, fun w' => w'.rangeAt (w.heap.size + 1) (0) (u5L ⟨x', y', ⟨a', b', s'⟩, l', n'⟩)), (11, fun w' => w'.rangeAt (w6.heap.size) (0) (u5L ⟨x, y, ⟨a, b, s⟩, l, n⟩)), (12, fun w' => w'.rangeAt (w.heap.size) (0) (u5L ⟨x, y, ⟨a, b, s⟩, l, n⟩))] (by kernel_rfl) (Owed.cons (range_blk hS.out) (Owed.cons (range_blk hT.out) (Owed.cons (range_blk hU.out) (Owed.cons (range_blk hV.out) (Owed.cons (range_blk hR.out) (Owed.cons (range_blk hU.out) (Owed.nil _ _))))))) ?_
        refine inO_load 0 ⟨_, _, _, _, _, _⟩ (.agg (secL S).toArray) (fun w' => w'.rangeAt (w2.heap.size) (0) (secL S)) rfl (by kernel_rfl) (by kernel_rfl) (by kernel_rfl) (fun _ _ _ h => h) rfl (.head _) (fun ww hw => exec_load_mid _ _ (by rfl) _ _ (by rfl) _ _ hw Try.underlying34 rfl (infoSecL _)) ?_
        simp only [Act.put, List.setIfInBounds_toArray, List.set_cons_zero, List.set_cons_succ]
        refine inO_load 1 ⟨_, _, _, _, _, _⟩ (.agg (secL T).toArray) (fun w' => w'.rangeAt (w4.heap.size) (0) (secL T)) rfl (by kernel_rfl) (by kernel_rfl) (by kernel_rfl) (fun _ _ _ h => h) rfl (.tail _ (.head _)) (fun ww hw => exec_load_mid _ _ (by rfl) _ _ (by rfl) _ _ hw Try.underlying34 rfl (infoSecL _)) ?_
        simp only [Act.put, List.setIfInBounds_toArray, List.set_cons_zero, List.set_cons_succ]
        refine inO_take 2 ⟨_, _, _, _, _, _⟩ (.bool false) rfl (by kernel_rfl) (by kernel_rfl) (by kernel_rfl) (fun _ _ _ h => h) rfl (fun ww => by go_simp) ?_
        simp only [Act.put, List.setIfInBounds_toArray, List.set_cons_zero, List.set_cons_succ]
        refine inO_load 3 ⟨_, _, _, _, _, _⟩ (.agg (u5L ⟨x, y, ⟨a, b, s⟩, l, n⟩).toArray) (fun w' => w'.rangeAt (w.heap.size) (0) (u5L ⟨x, y, ⟨a, b, s⟩, l, n⟩)) rfl (by kernel_rfl) (by kernel_rfl) (by kernel_rfl) (fun _ _ _ h => h) rfl (.tail _ (.tail _ (.head _))) (fun ww hw => exec_load_mid _ _ (by rfl) _ _ (by rfl) _ _ hw Try.underlying27 rfl (infoUberL _)) ?_
        simp only [Act.put, List.setIfInBounds_toArray, List.set_cons_zero, List.set_cons_succ]
        refine inO_load 4 ⟨_, _, _, _, _, _⟩ (.agg (u5L ⟨x', y', ⟨a', b', s'⟩, l', n'⟩).toArray) (fun w' => w'.rangeAt (w.heap.size + 1) (0) (u5L ⟨x', y', ⟨a', b', s'⟩, l', n'⟩)) rfl (by kernel_rfl) (by kernel_rfl) (by kernel_rfl) (fun _ _ _ h => h) rfl (.tail _ (.tail _ (.tail _ (.head _)))) (fun ww hw => exec_load_mid _ _ (by rfl) _ _ (by rfl) _ _ hw Try.underlying27 rfl (infoUberL _)) ?_
        simp only [Act.put, List.setIfInBounds_toArray, List.set_cons_zero, List.set_cons_succ]
        refine inO_take 5 ⟨_, _, _, _, _, _⟩ (.bool false) rfl (by kernel_rfl) (by kernel_rfl) (by kernel_rfl) (fun _ _ _ h => h) rfl (fun ww => by go_simp) ?_
        simp only [Act.put, List.setIfInBounds_toArray, List.set_cons_zero, List.set_cons_succ]
        refine inO_take 6 ⟨_, _, _, _, _, _⟩ (.bool true) rfl (by kernel_rfl) (by kernel_rfl) (by kernel_rfl) (fun _ _ _ h => h) rfl (fun ww => by go_simp) ?_
        simp only [Act.put, List.setIfInBounds_toArray, List.set_cons_zero, List.set_cons_succ]
        refine inO_take 7 ⟨_, _, _, _, _, _⟩ (.bool true) rfl (by kernel_rfl) (by kernel_rfl) (by kernel_rfl) (fun _ _ _ h => h) rfl (fun ww => exec_move (by rfl) (by rfl) ww) ?_
        simp only [Act.put, List.setIfInBounds_toArray, List.set_cons_zero, List.set_cons_succ]
        refine inO_take 8 ⟨_, _, _, _, _, _⟩ (.bool true) rfl (by kernel_rfl) (by kernel_rfl) (by kernel_rfl) (fun _ _ _ h => h) rfl (fun ww => exec_move (by rfl) (by rfl) ww) ?_
        simp only [Act.put, List.setIfInBounds_toArray, List.set_cons_zero, List.set_cons_succ]
        refine inO_take 9 ⟨_, _, _, _, _, _⟩ (.bool true) rfl (by kernel_rfl) (by kernel_rfl) (by kernel_rfl) (fun _ _ _ h => h) rfl (fun ww => by go_simp) ?_
        simp only [Act.put, List.setIfInBounds_toArray, List.set_cons_zero, List.set_cons_succ]
        refine inO_take 10 ⟨_, _, _, _, _, _⟩ (.bool true) rfl (by kernel_rfl) (by kernel_rfl) (by kernel_rfl) (fun _ _ _ h => h) rfl (fun ww => exec_move (by rfl) (by rfl) ww) ?_
        simp only [Act.put, List.setIfInBounds_toArray, List.set_cons_zero, List.set_cons_succ]
        refine inO_load 11 ⟨_, _, _, _, _, _⟩ (.agg (u5L ⟨x, y, ⟨a, b, s⟩, l, n⟩).toArray) (fun w' => w'.rangeAt (w6.heap.size) (0) (u5L ⟨x, y, ⟨a, b, s⟩, l, n⟩)) rfl (by kernel_rfl) (by kernel_rfl) (by kernel_rfl) (fun _ _ _ h => h) rfl (.tail _ (.tail _ (.tail _ (.tail _ (.head _))))) (fun ww hw => exec_load_mid _ _ (by rfl) _ _ (by rfl) _ _ hw Try.underlying27 rfl (infoUberL _)) ?_
        simp only [Act.put, List.setIfInBounds_toArray, List.set_cons_zero, List.set_cons_succ]
        refine inO_load 12 ⟨_, _, _, _, _, _⟩ (.agg (u5L ⟨x, y, ⟨a, b, s⟩, l, n⟩).toArray) (fun w' => w'.rangeAt (w.heap.size) (0) (u5L ⟨x, y, ⟨a, b, s⟩, l, n⟩)) rfl (by kernel_rfl) (by kernel_rfl) (by kernel_rfl) (fun _ _ _ h => h) rfl (.tail _ (.tail _ (.tail _ (.tail _ (.tail _ (.head _)))))) (fun ww hw => exec_load_mid _ _ (by rfl) _ _ (by rfl) _ _ hw Try.underlying27 rfl (infoUberL _)) ?_
        simp only [Act.put, List.setIfInBounds_toArray, List.set_cons_zero, List.set_cons_succ]
        refine inO_take 13 ⟨_, _, _, _, _, _⟩ (.bool true) rfl (by kernel_rfl) (by kernel_rfl) (by kernel_rfl) (fun _ _ _ h => h) rfl (fun ww => by go_simp) ?_
        simp only [Act.put, List.setIfInBounds_toArray, List.set_cons_zero, List.set_cons_succ]
        refine inO_take 14 ⟨_, _, _, _, _, _⟩ (.bool true) rfl (by kernel_rfl) (by kernel_rfl) (by kernel_rfl) (fun _ _ _ h => h) rfl (fun ww => by go_simp) ?_
        simp only [Act.put, List.setIfInBounds_toArray, List.set_cons_zero, List.set_cons_succ]
        refine inO_take 15 ⟨_, _, _, _, _, _⟩ (.bool true) rfl (by kernel_rfl) (by kernel_rfl) (by kernel_rfl) (fun _ _ _ h => h) rfl (fun ww => by go_simp) ?_
        simp only [Act.put, List.setIfInBounds_toArray, List.set_cons_zero, List.set_cons_succ]
        refine inO_done (by kernel_rfl) ?_
        go_wp2
        go_ret
        exact ⟨rfl, q7.out.drew⟩
    · go_wp2_with (first
        | ((with_reducible refine guardList ?_)
           refine wantList_store (by rfl) 34 _ _ rfl w4.heap.size 0 (by rfl) (secL T) (by rfl) _ (secL sec0) (secL T) (Blk.new _ 34 (secL sec0)) (by simp only [secL_length]; decide) (secL_one _) (infoSecL _) whole_sec ?_
           intro w5 hs5 k5 z5
           have hT5 := Lib.hid hs5
           have hS5 := Lib.hid ((hS4.out.alloc (.cells (secL sec0).toArray 34)).kept k5 (by have := hS4.out.lt; omega))
           have hU5 := Lib.hid ((hU4.out.alloc (.cells (secL sec0).toArray 34)).kept k5 (by have := hU4.out.lt; omega))
           have hV5 := Lib.hid ((hV4.out.alloc (.cells (secL sec0).toArray 34)).kept k5 (by have := hV4.out.lt; omega))
           have q5 := Lib.hid (Kept.out (q4.out.alloc q4.out.size (.cells (secL sec0).toArray 34)) k5 (fun i _ e => by have := q4.out.size; omega) (by have := q4.out.size; simp; omega))
           clear hs5 k5
           obtain ⟨c0, c1, c2, c3, c4, c5, c6⟩ := UAt.cells hU5.out
           clear z5))
      refine (hRu.out _).mono ?_
      rintro e w6 ⟨rfl, b6⟩
      have q6 := Lib.hid (q5.out.trans (b6.mono q5.out.size))
      obtain ⟨c0, c1, c2, c3, c4, c5, c6⟩ := UAt.cells (blk_out hV5.out b6)
      clear b6
      go_wp2_with fail
      refine (hRv.out _).mono ?_
      rintro e w7 ⟨rfl, b7⟩
      have q7 := Lib.hid (q6.out.trans (b7.mono q6.out.size))
      clear b7
      go_wp2
      go_ret
      exact ⟨rfl, q7.out⟩
  · rcases hov.out with ⟨rfl, rfl⟩ | ⟨rfl, rfl⟩
    · go_wp2_with (first
        | ((with_reducible refine guardList ?_)
           refine wantList_store (by rfl) 34 _ _ rfl w4.heap.size 0 (by rfl) (secL T) (by rfl) _ (secL sec0) (secL T) (Blk.new _ 34 (secL sec0)) (by simp only [secL_length]; decide) (secL_one _) (infoSecL _) whole_sec ?_
           intro w5 hs5 k5 z5
           have hT5 := Lib.hid hs5
           have hS5 := Lib.hid ((hS4.out.alloc (.cells (secL sec0).toArray 34)).kept k5 (by have := hS4.out.lt; omega))
           have hU5 := Lib.hid ((hU4.out.alloc (.cells (secL sec0).toArray 34)).kept k5 (by have := hU4.out.lt; omega))
           have hV5 := Lib.hid ((hV4.out.alloc (.cells (secL sec0).toArray 34)).kept k5 (by have := hV4.out.lt; omega))
           have q5 := Lib.hid (Kept.out (q4.out.alloc q4.out.size (.cells (secL sec0).toArray 34)) k5 (fun i _ e => by have := q4.out.size; omega) (by have := q4.out.size; simp; omega))
           clear hs5 k5
           obtain ⟨c0, c1, c2, c3, c4, c5, c6⟩ := UAt.cells hU5.out
           clear z5))
      refine (hRu.out _).mono ?_
      rintro e w6 ⟨rfl, b6⟩
      have q6 := Lib.hid (q5.out.trans (b6.mono q5.out.size))
      obtain ⟨c0, c1, c2, c3, c4, c5, c6⟩ := UAt.cells (blk_out hV5.out b6)
      clear b6
      go_wp2_with fail
      refine (hRv.out _).mono ?_
      rintro e w7 ⟨rfl, b7⟩
      have q7 := Lib.hid (q6.out.trans (b7.mono q6.out.size))
      clear b7
      go_wp2
      go_ret
      exact ⟨rfl, q7.out⟩
    · go_wp2_with (first
        | ((with_reducible refine guardList ?_)
           refine wantList_store (by rfl) 34 _ _ rfl w4.heap.size 0 (by rfl) (secL T) (by rfl) _ (secL sec0) (secL T) (Blk.new _ 34 (secL sec0)) (by simp only [secL_length]; decide) (secL_one _) (infoSecL _) whole_sec ?_
           intro w5 hs5 k5 z5
           have hT5 := Lib.hid hs5
           have hS5 := Lib.hid ((hS4.out.alloc (.cells (secL sec0).toArray 34)).kept k5 (by have := hS4.out.lt; omega))
           have hU5 := Lib.hid ((hU4.out.alloc (.cells (secL sec0).toArray 34)).kept k5 (by have := hU4.out.lt; omega))
           have hV5 := Lib.hid ((hV4.out.alloc (.cells (secL sec0).toArray 34)).kept k5 (by have := hV4.out.lt; omega))
           have q5 := Lib.hid (Kept.out (q4.out.alloc q4.out.size (.cells (secL sec0).toArray 34)) k5 (fun i _ e => by have := q4.out.size; omega) (by have := q4.out.size; simp; omega))
           clear hs5 k5
           obtain ⟨c0, c1, c2, c3, c4, c5, c6⟩ := UAt.cells hU5.out
           clear z5))
      refine (hRu.out _).mono ?_
      rintro e w6 ⟨rfl, b6⟩
      have q6 := Lib.hid (q5.out.trans (b6.mono q5.out.size))
      obtain ⟨c0, c1, c2, c3, c4, c5, c6⟩ := UAt.cells (blk_out hV5.out b6)
      clear b6
      go_wp2_with fail
      refine (hRv.out _).mono ?_
      rintro e w7 ⟨rfl, b7⟩
      have q7 := Lib.hid (q6.out.trans (b7.mono q6.out.size))
      clear b7
      go_wp2
      go_ret
      exact ⟨rfl, q7.out⟩

theorem walk (u v : U5) (w : World) (hu : u.Fit) (hv : v.Fit) :
    Calls Try.prog 8 #[u5V u, u5V v] w fun e w' => e = .returned (.bool true) ∧ Below w.heap.size w w' := by
  obtain ⟨x, y, ⟨a, b, s⟩, l, n⟩ := u
  obtain ⟨x', y', ⟨a', b', s'⟩, l', n'⟩ := v
  have e1 : ∀ u : U5, (errI 61 u.secO = 0 ∧ u.rightB = true) ∨ (errI 61 u.secO = 61 ∧ u.rightB = false) := fun u => by
    unfold U5.secO
    cases u.rightB with
    | true => exact .inl ⟨rfl, rfl⟩
    | false => exact .inr ⟨rfl, rfl⟩
  have e2 : ∀ u : U5, errI 61 u.secO = 0 → u.rightB = true ∧ u.secO.getD sec0 = u.sec := fun u h => by
    rcases e1 u with ⟨_, h2⟩ | ⟨h1, _⟩
    · refine ⟨h2, ?_⟩
      unfold U5.secO
      rw [h2]; rfl
    · rw [h1] at h; cases h
  exact way x y a b s l n x' y' a' b' s' l' n' w _ _ _ _ _ _ (U5.eqB ⟨x, y, ⟨a, b, s⟩, l, n⟩ ⟨x', y', ⟨a', b', s'⟩, l', n'⟩)
    (fun W => uBytes_any ⟨x, y, ⟨a, b, s⟩, l, n⟩ W hu) (fun W => uBytes_any ⟨x', y', ⟨a', b', s'⟩, l', n'⟩ W hv) (fun W => uRight_any ⟨x, y, ⟨a, b, s⟩, l, n⟩ W hu) (fun W => uRight_any ⟨x', y', ⟨a', b', s'⟩, l', n'⟩ W hv) (e1 _) (e1 _) (fun w => eqSec w _ _)
    (fun w => eqUber w ⟨x, y, ⟨a, b, s⟩, l, n⟩ ⟨x', y', ⟨a', b', s'⟩, l', n'⟩) (fun w => by have := eqUber w ⟨x, y, ⟨a, b, s⟩, l, n⟩ ⟨x, y, ⟨a, b, s⟩, l, n⟩; rw [U5.eqB_self] at this; exact this)
    (fun h1 h2 => by
      obtain ⟨a1, a2⟩ := e2 _ h1
      obtain ⟨b1, b2⟩ := e2 _ h2
      rw [a2, b2, Bool.eq_iff_iff, decide_eq_true_iff, U5.eqB_iff]
      exact ⟨sec_inj hu hv a1 b1, fun e => by rw [e]⟩)
    (fun h1 W => by
      obtain ⟨a1, a2⟩ := e2 _ h1
      have := uRead_any (U5.sec ⟨x, y, ⟨a, b, s⟩, l, n⟩) W
      rw [u5O_sec hu a1] at this
      rw [a2]
      exact this)


theorem own : ownKnob Try.prog.godebug = none := by kernel_rfl
theorem laidOut : laidOutB Try.prog = true := by kernel_rfl

set_option maxRecDepth 100000 in
theorem lifted (os : Os) (started : os.Started) (H : Type) (enc : TypeId × Value → H) :
    ReturnsInHanded {} Try.checked os 8 .any (Rows.uberApartSpec.pre6 enc Try.prog Try.f8 Rows.uberApartRow.domain false) (Rows.uberApartSpec.post enc Try.prog Try.f8 false true false false) := by
  refine returnsInHanded_of_change_sized (C := Try.checked) own started (by kernel_rfl) Try.func8
    (ChangeSpec.witness6 (enc := enc) (C := Try.checked) false ⟨#[], #[.agg #[.int .u64 0, .int .u64 0, .int .i64 0, .int .u64 0, .int .u32 0, .int .i64 0, .int .i64 0], .agg #[.int .u64 0, .int .u64 0, .int .i64 0, .int .u64 0, .int .u32 0, .int .i64 0, .int .i64 0]], []⟩ 8 (by kernel_rfl) (by kernel_rfl) (by kernel_rfl) (by kernel_rfl)) ?_
  intro W base args ds gs before hval0 hW hcnd hsz0 _
  have hval : ∀ (j : Nat) t v, Try.f8.params[j]? = some t → args[j]? = some v → Value.okWide Try.prog W .any base t v := hval0
  have hsz : (DataW.weightsEach Try.prog (Try.f8.params.toList ++ Rows.uberApartSpec.plain.varTypes Try.prog) (ds ++ gs)).all (· ≤ reachBytes) = true := hsz0
  have hW' := hW
  obtain ⟨p, q, hA0, hV, rfl, hfz, hnd⟩ := hW
  have hA : DataW.TrodAll enc Try.prog W 0 (fun _ => true) true Try.f8.params.toList args.toList ds p := hA0
  rw [Try.params8] at hA hval hsz
  obtain ⟨v0, vs0, d0, ds0, p0, q0, hargs, rfl, rfl, h0, r0⟩ := trodAll_cons hA
  obtain ⟨v1, vs1, d1, ds1, p1, q1, rfl, rfl, rfl, h1, r1⟩ := trodAll_cons r0
  obtain ⟨rfl, rfl, rfl⟩ := trodAll_nil r1
  obtain rfl : args = #[v0, v1] := by cases args; simp_all
  obtain ⟨rfl, rfl⟩ := trodVars_none hV
  have k0 := h0
  have lt0 : ∀ x ∈ p0, x.block < W.heap.size := by obtain ⟨m, hm⟩ := k0; exact DataW.trod_lt m _ _ _ hm
  obtain ⟨a0, rfl, fi0⟩ := open_uber h0 (hval 0 27 v0 rfl rfl)
  have k1 := h1
  have lt1 : ∀ x ∈ p1, x.block < W.heap.size := by obtain ⟨m, hm⟩ := k1; exact DataW.trod_lt m _ _ _ hm
  obtain ⟨a1, rfl, fi1⟩ := open_uber h1 (hval 1 27 v1 rfl rfl)
  clear hA0 hval0 hsz0
  refine (walk a0 a1 W fi0 fi1).mono fun e W' ⟨he, bel⟩ => ?_
  subst he
  exact ⟨_, rfl, _, _, _, [], _, [], hW', trodAll_mk1 (shut_bool Try.underlying4 _), (trodAll_cons_mk (Below.trod laidOut (by kernel_rfl) (of_decide_eq_true (by kernel_rfl)) k0 bel lt0) (trodAll_cons_mk (Below.trod laidOut (by kernel_rfl) (of_decide_eq_true (by kernel_rfl)) k1 bel lt1) trodAll_mk0)), rfl, bel.frame _, fun h => by cases h⟩

theorem proved : Rows.UberApartSaid :=
  OpenClaim.holds_of_wide 8 Try.f8 rfl rfl rfl rfl rfl rfl rfl ⟨rfl, rfl, rfl, rfl, rfl⟩ rfl rfl rfl rfl rfl (by kernel_rfl) Try.func8 (by kernel_rfl)
    (of_decide_eq_true (by kernel_rfl)) (by unfold Func.isWrapper; first | (rw [if_pos (by decide +kernel)]; kernel_rfl) | (rw [if_neg (by decide +kernel)]; exact ⟨rfl, rfl⟩))
    (fun os started H enc _ => lifted os started H enc)
end Go.Proofs.Ytfblehdeoloijaa.lawUberApart
