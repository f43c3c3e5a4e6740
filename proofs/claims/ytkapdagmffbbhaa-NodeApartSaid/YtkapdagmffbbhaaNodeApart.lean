/- NodeApart, for every input: the law returns true and each argument reads behind the call as before. No condition. -/
import Derived.Test.YtkapdagmffbbhaaNodeI
namespace Go.Proofs.Ytkapdagmffbbhaa.lawNodeApart
open Go.ChangeShapes Go.WideShapes Go.ChangeAt Go.RowKit Go.Deep
set_option linter.unusedVariables false
set_option maxRecDepth 20000

set_option maxRecDepth 100000 in
set_option maxHeartbeats 8000000 in
theorem walk (l : P8) (i : Int) (q : P3) (w : World) (hf : l.Fit) (hi : I64 i) (hqf : q.Fit) : Calls Try.prog 7 #[.agg (p8L l).toArray, .int .i64 i, p3V q] w fun e w' => e = .returned (.bool true) ∧ Below w.heap.size w w' := by
  obtain ⟨a, b, sm⟩ := q
  unfold p3V
  dsimp only
  unfold I64 at hi
  have hz := zeroP8
  have hzs := zeroSec
  have T0 := Lib.hid (((NT.start w).box 31 (p8L l)).box 30 (p3L ⟨a, b, sm⟩))
  rw [show (w.alloc (.cells (p8L l).toArray 31)).heap.size = w.heap.size + 1 from by simp] at T0
  by_cases h0 : i < 0
  · go_enter Try.func7, Try.ntmps7
    go_wp2_with fail
    refine (nodeAlive_any _).mono ?_
    rintro e w1 ⟨rfl, b1⟩
    have T1 := Lib.hid (T0.out.call b1)
    clear b1
    go_wp2
    go_ret
    exact ⟨rfl, T1.out.q⟩
  by_cases h7 : i > 7
  · go_enter Try.func7, Try.ntmps7
    go_wp2_with fail
    refine (nodeAlive_any _).mono ?_
    rintro e w1 ⟨rfl, b1⟩
    have T1 := Lib.hid (T0.out.call b1)
    clear b1
    go_wp2
    go_ret
    exact ⟨rfl, T1.out.q⟩
  obtain ⟨n, rfl⟩ : ∃ n : Nat, i = (n : Int) := ⟨i.toNat, by omega⟩
  have hn : n < 8 := by omega
  clear hi h0 h7
  have hB1 := fun W => nBytes_any l W hf
  have hmf : (l.set n ⟨a, b, sm⟩).Fit := P8.set_fit hf n hqf
  have hB2 := fun W => nBytes_any (l.set n ⟨a, b, sm⟩) W hmf
  have hN := fun W => Newest_any (l.set n ⟨a, b, sm⟩) W
  have hge : b ≤ newestN 0 (l.set n ⟨a, b, sm⟩).1 := newest_set l hn ⟨a, b, sm⟩
  have hinj : l.right = true → (l.set n ⟨a, b, sm⟩).right = true → decide (l.sec = (l.set n ⟨a, b, sm⟩).sec) = (l.get n).eqB ⟨a, b, sm⟩ := fun r1 r2 => by
    rw [Bool.eq_iff_iff, decide_eq_true_iff, P3.eqB_iff, ← set_eq_iff l hn]
    exact ⟨fun e => sec_inj8 hf hmf r1 r2 e, fun e => by rw [← e]⟩
  have hq3 : ∀ w : World, (Op.equalIn 10000 30 (.agg (p3L (l.get n)).toArray) (.agg (p3L ⟨a, b, sm⟩).toArray)).run Try.prog w = .ok ((l.get n).eqB ⟨a, b, sm⟩) w := fun w => eqPtr w (l.get n) ⟨a, b, sm⟩
  have hset : Hid (p8L (l.set n ⟨a, b, sm⟩) = (p8L l).take (n * 3) ++ p3L ⟨a, b, sm⟩ ++ (p8L l).drop (n * 3 + (p3L ⟨a, b, sm⟩).length)) := Lib.hid (by rw [p3L_length]; exact p8L_set l hn ⟨a, b, sm⟩)
  have y1 : l.right = true → l.secO = some l.sec := secO_yes
  have n1 : l.right = false → l.secO = none := secO_no
  have y2 : (l.set n ⟨a, b, sm⟩).right = true → (l.set n ⟨a, b, sm⟩).secO = some (l.set n ⟨a, b, sm⟩).sec := secO_yes
  have n2 : (l.set n ⟨a, b, sm⟩).right = false → (l.set n ⟨a, b, sm⟩).secO = none := secO_no
  have hqS : ∀ (w : World) (s t : Sec), (Op.equalIn 10000 23 (.agg (secL s).toArray) (.agg (secL t).toArray)).run Try.prog w = .ok (decide (s = t)) w := eqSec
  generalize l.set n ⟨a, b, sm⟩ = m at *
  generalize newestN 0 m.1 = nn at *
  generalize l.secO = O1 at *
  generalize m.secO = O2 at *
  generalize l.sec = V1 at *
  generalize m.sec = V2 at *
  generalize l.right = r1 at *
  generalize m.right = r2 at *
  unfold NSRes at hB1 hB2
  obtain ⟨S1, hS1⟩ : ∃ S, Hid (S = O1.getD sec0) := ⟨_, Lib.hid rfl⟩
  obtain ⟨e1, he1⟩ : ∃ er, Hid (er = errI 51 O1) := ⟨_, Lib.hid rfl⟩
  obtain ⟨S2, hS2⟩ : ∃ S, Hid (S = O2.getD sec0) := ⟨_, Lib.hid rfl⟩
  obtain ⟨e2, he2⟩ : ∃ er, Hid (er = errI 51 O2) := ⟨_, Lib.hid rfl⟩
  rw [← hS1.out, ← he1.out] at hB1
  rw [← hS2.out, ← he2.out] at hB2
  have Y1 := Lib.hid y1
  have Y2 := Lib.hid y2
  have N1 := Lib.hid n1
  have N2 := Lib.hid n2
  have hB1 := Lib.hid hB1
  have hB2 := Lib.hid hB2
  have hN := Lib.hid hN
  have hinj := Lib.hid hinj
  clear y1 y2 n1 n2
  generalize (l.get n).eqB ⟨a, b, sm⟩ = B at *
  have HqS := Lib.hid hqS
  clear hqS
  go_enter Try.func7, Try.ntmps7
  go_wp2_with fail
  refine (nodeAlive_any _).mono ?_
  rintro e w1 ⟨rfl, b1⟩
  have T1 := Lib.hid (T0.out.call b1)
  clear b1
  go_wp2_with (first
    | ((with_reducible refine n2Dst (some 20) (by rfl) ?_); refine wantList_load (by rfl) 31 _ rfl w.heap.size 0 (by rfl) (p8L l) _ (rangeN T1.out.b1) Try.underlying31 rfl (infoP8 _) ?_)
    | ((with_reducible refine n2Dst (some 22) (by rfl) ?_); refine wantList_load (by rfl) 30 _ rfl (w.heap.size + 1) 0 (by rfl) (p3L ⟨a, b, sm⟩) _ (rangeN T2.out.b1) Try.underlying30 rfl (infoPtr _) ?_)
    | ((with_reducible refine guardList ?_)
       refine wantList_store (by rfl) 30 _ _ rfl w1.heap.size (n * 3) (by rfl) (p3L ⟨a, b, sm⟩) (by rfl) _ (p8L l) (p8L m) T2.out.b0 (by simp only [p8L_length, p3L_length]; omega) (p3L_one _) (infoPtr _) hset.out ?_
       intro w3 h3 k3 z3
       have T3 := Lib.hid (T2.out.over (fun x hx => Nat.ne_of_lt (T1.out.blk x hx).1.lt) k3 h3)
       clear h3 k3 z3)
    | ((with_reducible refine guardList ?_)
       refine wantList_store (by rfl) 31 _ _ rfl w1.heap.size 0 (by rfl) (p8L l) (by rfl) _ (p8L holesP) (p8L l) (Blk.new w1 31 (p8L holesP)) (by simp only [p8L_length]; decide) (p8L_one _) (infoP8 _) wholeP8 ?_
       intro w2 h2 k2 z2
       have T2 := Lib.hid (T1.out.lay k2 h2)
       have hw2 := T2.out.lt0
       clear h2 k2 z2)
    | ((with_reducible refine n2Dst (some 25) (by rfl) ?_); refine wantList_load (by rfl) 31 _ rfl w.heap.size 0 (by rfl) (p8L l) _ (rangeN T3.out.b2) Try.underlying31 rfl (infoP8 _) ?_))
  refine (hB1.out _).mono ?_
  rintro e w4 ⟨rfl, b4⟩
  have T4 := Lib.hid (T3.out.call b4)
  clear b4
  go_wp2_with (first
    | ((with_reducible refine guardList ?_)
       refine wantList_store (by rfl) 23 _ _ rfl w4.heap.size 0 (by rfl) (secL S1) (by rfl) _ (secL sec0) (secL S1) (Blk.new w4 23 (secL sec0)) (by simp only [secL_length]; decide) (secL_one _) (infoSecL _) wholeSn ?_
       intro w5 h5 k5 z5
       have T5 := Lib.hid (T4.out.lay k5 h5)
       clear h5 k5 z5)
    | ((with_reducible refine n2Dst (some 30) (by rfl) ?_); refine wantList_load (by rfl) 31 _ rfl w1.heap.size 0 (by rfl) (p8L m) _ (rangeN T5.out.b1) Try.underlying31 rfl (infoP8 _) ?_))
  refine (hB2.out _).mono ?_
  rintro e w6 ⟨rfl, b6⟩
  have T6 := Lib.hid (T5.out.call b6)
  clear b6
  cases r1 with
  | false =>
    obtain rfl : e1 = 51 := by rw [he1.out, N1.out rfl]; rfl
    obtain rfl : S1 = sec0 := by rw [hS1.out, N1.out rfl]; rfl
    have hqz : ∀ w : World, (Op.equalIn 10000 23 (.agg (secL sec0).toArray) (.agg (secL sec0).toArray)).run Try.prog w = .ok true w := fun w => by rw [HqS.out, decide_eq_true rfl]
    cases r2 with
    | false =>
      obtain rfl : e2 = 51 := by rw [he2.out, N2.out rfl]; rfl
      obtain rfl : S2 = sec0 := by rw [hS2.out, N2.out rfl]; rfl
      go_wp2_with (first
        | ((with_reducible refine guardList ?_)
           refine wantList_store (by rfl) 23 _ _ rfl w6.heap.size 0 (by rfl) (secL sec0) (by rfl) _ (secL sec0) (secL sec0) (Blk.new w6 23 (secL sec0)) (by simp only [secL_length]; decide) (secL_one _) (infoSecL _) wholeSn ?_
           intro w7 h7 k7 z7
           have T7 := Lib.hid (T6.out.lay k7 h7)
           clear h7 k7 z7)
        | ((with_reducible refine n2Dst (some 43) (by rfl) ?_); refine wantList_load (by rfl) 23 _ rfl w4.heap.size 0 (by rfl) (secL sec0) _ (rangeN T7.out.b1) Try.underlying23 rfl (infoSecL _) ?_)
        | ((with_reducible refine n2Dst (some 51) (by rfl) ?_); refine wantList_load (by rfl) 23 _ rfl w6.heap.size 0 (by rfl) (secL sec0) _ (rangeN T7.out.b0) Try.underlying23 rfl (infoSecL _) ?_)
        | ((with_reducible refine n2Dst (some 44) (by rfl) ?_); refine wantList_build (by rfl) 23 [] rfl (secL sec0) _ (by rfl) built_sec0 ?_)
        | ((with_reducible refine n2Dst (some 52) (by rfl) ?_); refine wantList_build (by rfl) 23 [] rfl (secL sec0) _ (by rfl) built_sec0 ?_))
      go_ret
      exact ⟨rfl, T7.out.q⟩
    | true =>
      obtain rfl : e2 = 0 := by rw [he2.out, Y2.out rfl]; rfl
      have endy : True := trivial
      go_wp2_with (first
        | ((with_reducible refine guardList ?_)
           refine wantList_store (by rfl) 23 _ _ rfl w6.heap.size 0 (by rfl) (secL S2) (by rfl) _ (secL sec0) (secL S2) (Blk.new w6 23 (secL sec0)) (by simp only [secL_length]; decide) (secL_one _) (infoSecL _) wholeSn ?_
           intro w7 h7 k7 z7
           have T7 := Lib.hid (T6.out.lay k7 h7)
           clear h7 k7 z7)
        | ((with_reducible refine n2Dst (some 43) (by rfl) ?_); refine wantList_load (by rfl) 23 _ rfl w4.heap.size 0 (by rfl) (secL sec0) _ (rangeN T7.out.b1) Try.underlying23 rfl (infoSecL _) ?_)
          | ((with_reducible refine n2Dst (some 44) (by rfl) ?_); refine wantList_build (by rfl) 23 [] rfl (secL sec0) _ (by rfl) built_sec0 ?_)
        | ((with_reducible refine n2Dst (some 152) (by rfl) ?_); refine wantList_build (by rfl) 23 [] rfl (secL sec0) _ (by rfl) built_sec0 ?_))
      go_ret
      exact ⟨rfl, T7.out.q⟩
  | true =>
    obtain rfl : e1 = 0 := by rw [he1.out, Y1.out rfl]; rfl
    cases r2 with
    | false =>
      obtain rfl : e2 = 51 := by rw [he2.out, N2.out rfl]; rfl
      obtain rfl : S2 = sec0 := by rw [hS2.out, N2.out rfl]; rfl
      have hqz : ∀ w : World, (Op.equalIn 10000 23 (.agg (secL sec0).toArray) (.agg (secL sec0).toArray)).run Try.prog w = .ok true w := fun w => by rw [HqS.out, decide_eq_true rfl]
      go_wp2_with (first
        | ((with_reducible refine guardList ?_)
           refine wantList_store (by rfl) 23 _ _ rfl w6.heap.size 0 (by rfl) (secL sec0) (by rfl) _ (secL sec0) (secL sec0) (Blk.new w6 23 (secL sec0)) (by simp only [secL_length]; decide) (secL_one _) (infoSecL _) wholeSn ?_
           intro w7 h7 k7 z7
           have T7 := Lib.hid (T6.out.lay k7 h7)
           clear h7 k7 z7)
        | ((with_reducible refine n2Dst (some 51) (by rfl) ?_); refine wantList_load (by rfl) 23 _ rfl w6.heap.size 0 (by rfl) (secL sec0) _ (rangeN T7.out.b0) Try.underlying23 rfl (infoSecL _) ?_)
        | ((with_reducible refine n2Dst (some 52) (by rfl) ?_); refine wantList_build (by rfl) 23 [] rfl (secL sec0) _ (by rfl) built_sec0 ?_))
      go_ret
      exact ⟨rfl, T7.out.q⟩
    | true =>
      obtain rfl : e2 = 0 := by rw [he2.out, Y2.out rfl]; rfl
      have hqV : ∀ w : World, (Op.equalIn 10000 23 (.agg (secL S1).toArray) (.agg (secL S2).toArray)).run Try.prog w = .ok B w := fun w => by
        have h1 : S1 = V1 := by rw [hS1.out, Y1.out rfl]; rfl
        have h2 : S2 = V2 := by rw [hS2.out, Y2.out rfl]; rfl
        rw [HqS.out, h1, h2, hinj.out rfl rfl]
      go_wp2_with (first
        | ((with_reducible refine guardList ?_)
           refine wantList_store (by rfl) 23 _ _ rfl w6.heap.size 0 (by rfl) (secL S2) (by rfl) _ (secL sec0) (secL S2) (Blk.new w6 23 (secL sec0)) (by simp only [secL_length]; decide) (secL_one _) (infoSecL _) wholeSn ?_
           intro w7 h7 k7 z7
           have T7 := Lib.hid (T6.out.lay k7 h7)
           clear h7 k7 z7))
      refine inO_region [(0, fun w' => w'.rangeAt (w4.heap.size) (0) (secL S1)), (1, fun w' => w'.rangeAt (w6.heap.size) (0) (secL S2)), (5, fun w' => w'.rangeAt (w.heap.size) (n * 3) (p3L (l.get n))), (6, fun w' => w'.rangeAt ((w.heap.size + 1)) (0) (p3L ⟨a, b, sm⟩)), (10, fun w' => w'.rangeAt (w1.heap.size) (0) (p8L m)), (13, fun w' => w'.cell? ⟨(w.heap.size + 1), 1, none⟩ = some (.int .u64 (b : Int)))] (by kernel_rfl) (Owed.cons (rangeN T7.out.drew.b1) (Owed.cons (rangeN T7.out.drew.b0) (Owed.cons (p8_range T7.out.drew.b4 hn) (Owed.cons (rangeN T7.out.drew.b3) (Owed.cons (rangeN T7.out.drew.b2) (Owed.cons ((T7.out.drew.b3).cell 1) (Owed.nil _ _))))))) ?_
      refine inO_load 0 ⟨_, _, _, _, _, _⟩ (.agg (secL S1).toArray) (fun w' => w'.rangeAt (w4.heap.size) (0) (secL S1)) rfl (by kernel_rfl) (by kernel_rfl) (by kernel_rfl) (fun _ _ _ h => h) rfl (.head _) (fun ww hw => exec_load_mid _ _ (by rfl) _ _ (by rfl) _ _ hw Try.underlying23 rfl (infoSecL _)) ?_
      simp only [Act.put, List.setIfInBounds_toArray, List.set_cons_zero, List.set_cons_succ]
      refine inO_load 1 ⟨_, _, _, _, _, _⟩ (.agg (secL S2).toArray) (fun w' => w'.rangeAt (w6.heap.size) (0) (secL S2)) rfl (by kernel_rfl) (by kernel_rfl) (by kernel_rfl) (fun _ _ _ h => h) rfl (.tail _ (.head _)) (fun ww hw => exec_load_mid _ _ (by rfl) _ _ (by rfl) _ _ hw Try.underlying23 rfl (infoSecL _)) ?_
      simp only [Act.put, List.setIfInBounds_toArray, List.set_cons_zero, List.set_cons_succ]
      refine inO_take 2 ⟨_, _, _, _, _, _⟩ (.bool B) rfl (by kernel_rfl) (by kernel_rfl) (by kernel_rfl) (fun _ _ _ h => h) rfl (fun ww => by go_simp) ?_
      simp only [Act.put, List.setIfInBounds_toArray, List.set_cons_zero, List.set_cons_succ]
      refine inO_take 3 ⟨_, _, _, _, _, _⟩ (.int .i64 (n : Int)) rfl (by kernel_rfl) (by kernel_rfl) (by kernel_rfl) (fun _ _ _ h => h) rfl (fun ww => exec_move (by rfl) (by rfl) ww) ?_
      simp only [Act.put, List.setIfInBounds_toArray, List.set_cons_zero, List.set_cons_succ]
      refine inO_take 4 ⟨_, _, _, _, _, _⟩ (.pointer (some ⟨w.heap.size, n * 3, none⟩)) rfl (by kernel_rfl) (by kernel_rfl) (by kernel_rfl) (fun _ _ _ h => h) rfl (fun ww => by go_simp) ?_
      simp only [Act.put, List.setIfInBounds_toArray, List.set_cons_zero, List.set_cons_succ]
      refine inO_load 5 ⟨_, _, _, _, _, _⟩ (.agg (p3L (l.get n)).toArray) (fun w' => w'.rangeAt (w.heap.size) (n * 3) (p3L (l.get n))) rfl (by kernel_rfl) (by kernel_rfl) (by kernel_rfl) (fun _ _ _ h => h) rfl (.tail _ (.tail _ (.head _))) (fun ww hw => exec_load_mid _ _ (by rfl) _ _ (by rfl) _ _ hw Try.underlying30 rfl (infoPtr _)) ?_
      simp only [Act.put, List.setIfInBounds_toArray, List.set_cons_zero, List.set_cons_succ]
      refine inO_load 6 ⟨_, _, _, _, _, _⟩ (.agg (p3L ⟨a, b, sm⟩).toArray) (fun w' => w'.rangeAt ((w.heap.size + 1)) (0) (p3L ⟨a, b, sm⟩)) rfl (by kernel_rfl) (by kernel_rfl) (by kernel_rfl) (fun _ _ _ h => h) rfl (.tail _ (.tail _ (.tail _ (.head _)))) (fun ww hw => exec_load_mid _ _ (by rfl) _ _ (by rfl) _ _ hw Try.underlying30 rfl (infoPtr _)) ?_
      simp only [Act.put, List.setIfInBounds_toArray, List.set_cons_zero, List.set_cons_succ]
      refine inO_take 7 ⟨_, _, _, _, _, _⟩ (.bool B) rfl (by kernel_rfl) (by kernel_rfl) (by kernel_rfl) (fun _ _ _ h => h) rfl (fun ww => by go_simp) ?_
      simp only [Act.put, List.setIfInBounds_toArray, List.set_cons_zero, List.set_cons_succ]
      refine inO_take 8 ⟨_, _, _, _, _, _⟩ (.bool true) rfl (by kernel_rfl) (by kernel_rfl) (by kernel_rfl) (fun _ _ _ h => h) rfl (fun ww => by go_simp) ?_
      simp only [Act.put, List.setIfInBounds_toArray, List.set_cons_zero, List.set_cons_succ]
      refine inO_take 9 ⟨_, _, _, _, _, _⟩ (.bool true) rfl (by kernel_rfl) (by kernel_rfl) (by kernel_rfl) (fun _ _ _ h => h) rfl (fun ww => exec_move (by rfl) (by rfl) ww) ?_
      simp only [Act.put, List.setIfInBounds_toArray, List.set_cons_zero, List.set_cons_succ]
      refine inO_load 10 ⟨_, _, _, _, _, _⟩ (.agg (p8L m).toArray) (fun w' => w'.rangeAt (w1.heap.size) (0) (p8L m)) rfl (by kernel_rfl) (by kernel_rfl) (by kernel_rfl) (fun _ _ _ h => h) rfl (.tail _ (.tail _ (.tail _ (.tail _ (.head _))))) (fun ww hw => exec_load_mid _ _ (by rfl) _ _ (by rfl) _ _ hw Try.underlying31 rfl (infoP8 _)) ?_
      simp only [Act.put, List.setIfInBounds_toArray, List.set_cons_zero, List.set_cons_succ]
      refine inO_take 12 ⟨_, _, _, _, _, _⟩ (.pointer (some ⟨(w.heap.size + 1), 1, none⟩)) rfl (by kernel_rfl) (by kernel_rfl) (by kernel_rfl) (fun _ _ _ h => h) rfl (fun ww => by go_simp) ?_
      simp only [Act.put, List.setIfInBounds_toArray, List.set_cons_zero, List.set_cons_succ]
      refine inO_load 13 ⟨_, _, _, _, _, _⟩ (.int .u64 (b : Int)) (fun w' => w'.cell? ⟨(w.heap.size + 1), 1, none⟩ = some (.int .u64 (b : Int))) rfl (by kernel_rfl) (by kernel_rfl) (by kernel_rfl) (fun _ _ _ h => h) rfl (.tail _ (.tail _ (.tail _ (.tail _ (.tail _ (.head _)))))) (fun ww hw => by go_simp) ?_
      simp only [Act.put, List.setIfInBounds_toArray, List.set_cons_zero, List.set_cons_succ]
      refine inO_step 11 ⟨_, _, _, _, _, _⟩ rfl (by kernel_rfl) rfl (fun K hK => ?_)
      refine wp_call Try.func14 (by kernel_rfl) rfl _ _ rfl _ rfl _ (hN.out _) fun e w8 R => ?_
      obtain ⟨rfl, bb⟩ := R
      have T8 := Lib.hid (T7.out.drew.call bb)
      clear bb
      refine ⟨_, rfl, ?_⟩
      refine hK _ _ (Keeps.cons (fun _ => rangeN T8.out.b1) (Keeps.cons (fun _ => rangeN T8.out.b0) (Keeps.cons (fun _ => p8_range T8.out.b4 hn) (Keeps.cons (fun _ => rangeN T8.out.b3) (Keeps.cons (fun _ => rangeN T8.out.b2) (Keeps.cons (fun _ => (T8.out.b3).cell 1) (Keeps.nil _ _ _))))))) ?_
      clear hK K
      simp only [Act.put, List.setIfInBounds_toArray, List.set_cons_zero, List.set_cons_succ]
      refine inO_take 14 ⟨_, _, _, _, _, _⟩ (.bool true) rfl (by kernel_rfl) (by kernel_rfl) (by kernel_rfl) (fun _ _ _ h => h) rfl (fun ww => by go_simp) ?_
      simp only [Act.put, List.setIfInBounds_toArray, List.set_cons_zero, List.set_cons_succ]
      refine inO_take 15 ⟨_, _, _, _, _, _⟩ (.bool true) rfl (by kernel_rfl) (by kernel_rfl) (by kernel_rfl) (fun _ _ _ h => h) rfl (fun ww => by go_simp) ?_
      simp only [Act.put, List.setIfInBounds_toArray, List.set_cons_zero, List.set_cons_succ]
      refine inO_take 16 ⟨_, _, _, _, _, _⟩ (.bool true) rfl (by kernel_rfl) (by kernel_rfl) (by kernel_rfl) (fun _ _ _ h => h) rfl (fun ww => by go_simp) ?_
      simp only [Act.put, List.setIfInBounds_toArray, List.set_cons_zero, List.set_cons_succ]
      refine inO_done (by kernel_rfl) ?_
      go_wp2
      go_ret
      exact ⟨rfl, T8.out.q⟩

theorem own : ownKnob Try.prog.godebug = none := by kernel_rfl
theorem laidOut : laidOutB Try.prog = true := by kernel_rfl

set_option maxRecDepth 100000 in
theorem lifted (os : Os) (started : os.Started) (H : Type) (enc : TypeId × Value → H) :
    ReturnsInHanded {} Try.checked os 7 .any (Rows.nodeApartSpec.pre6 enc Try.prog Try.f7 Rows.nodeApartRow.domain false) (Rows.nodeApartSpec.post enc Try.prog Try.f7 false true false false) := by
  refine returnsInHanded_of_change_sized (C := Try.checked) own started (by kernel_rfl) Try.func7
    (ChangeSpec.witness6 (enc := enc) (C := Try.checked) false ⟨#[], #[.agg (Array.replicate 8 #[.int .i64 0, .int .u64 0, .int .u32 0]).flatten, .int .i64 0, .agg #[.int .i64 0, .int .u64 0, .int .u32 0]], []⟩ 8 (by kernel_rfl) (by kernel_rfl) (by kernel_rfl) (by kernel_rfl)) ?_
  intro W base args ds gs before hval0 hW hcnd hsz0 _
  have hval : ∀ (j : Nat) t v, Try.f7.params[j]? = some t → args[j]? = some v → Value.okWide Try.prog W .any base t v := hval0
  have hsz : (DataW.weightsEach Try.prog (Try.f7.params.toList ++ Rows.nodeApartSpec.plain.varTypes Try.prog) (ds ++ gs)).all (· ≤ reachBytes) = true := hsz0
  have hW' := hW
  obtain ⟨p, q, hA0, hV, rfl, hfz, hnd⟩ := hW
  have hA : DataW.TrodAll enc Try.prog W 0 (fun _ => true) true Try.f7.params.toList args.toList ds p := hA0
  rw [Try.params7] at hA hval hsz
  obtain ⟨v0, vs0, d0, ds0, p0, q0, hargs, rfl, rfl, h0, r0⟩ := trodAll_cons hA
  obtain ⟨v1, vs1, d1, ds1, p1, q1, rfl, rfl, rfl, h1, r1⟩ := trodAll_cons r0
  obtain ⟨v2, vs2, d2, ds2, p2, q2, rfl, rfl, rfl, h2, r2⟩ := trodAll_cons r1
  obtain ⟨rfl, rfl, rfl⟩ := trodAll_nil r2
  obtain rfl : args = #[v0, v1, v2] := by cases args; simp_all
  obtain ⟨rfl, rfl⟩ := trodVars_none hV
  have k0 := h0
  have lt0 : ∀ x ∈ p0, x.block < W.heap.size := by obtain ⟨m, hm⟩ := k0; exact DataW.trod_lt m _ _ _ hm
  obtain ⟨a0, rfl, fi0⟩ := open_ptrs8 h0 (hval 0 31 v0 rfl rfl)
  obtain ⟨a1, rfl, rfl, rfl, wf1⟩ := open_int Try.underlying3 (hval 1 3 v1 rfl rfl) h1
  obtain ⟨a2, rfl, rfl, rfl, wf2⟩ := open_ptr (hval 2 30 v2 rfl rfl) h2
  clear hA0 hval0 hsz0
  refine (walk a0 a1 a2 W fi0 (wf_i64 wf1) wf2).mono fun e W' ⟨he, bel⟩ => ?_
  subst he
  exact ⟨_, rfl, _, _, _, [], _, [], hW', trodAll_mk1 (shut_bool Try.underlying4 _), (trodAll_cons_mk (Below.trod laidOut (by kernel_rfl) (of_decide_eq_true (by kernel_rfl)) k0 bel lt0) (trodAll_cons_mk (shut_int Try.underlying3 wf1) (trodAll_cons_mk (shut_ptr wf2) trodAll_mk0))), rfl, bel.frame _, fun h => by cases h⟩

theorem proved : Rows.NodeApartSaid :=
  OpenClaim.holds_of_wide 7 Try.f7 rfl rfl rfl rfl rfl rfl rfl ⟨rfl, rfl, rfl, rfl, rfl⟩ rfl rfl rfl rfl rfl (by kernel_rfl) Try.func7 (by kernel_rfl)
    (of_decide_eq_true (by kernel_rfl)) (by unfold Func.isWrapper; first | (rw [if_pos (by decide +kernel)]; kernel_rfl) | (rw [if_neg (by decide +kernel)]; exact ⟨rfl, rfl⟩))
    (fun os started H enc _ => lifted os started H enc)
end Go.Proofs.Ytkapdagmffbbhaa.lawNodeApart
