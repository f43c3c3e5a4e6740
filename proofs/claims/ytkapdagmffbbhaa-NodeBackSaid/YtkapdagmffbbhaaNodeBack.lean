/- NodeBack, for every input: the law returns true and each argument reads behind the call as before. No condition. -/
import Derived.Test.YtkapdagmffbbhaaNodeI
namespace Go.Proofs.Ytkapdagmffbbhaa.lawNodeBack
open Go.ChangeShapes Go.WideShapes Go.ChangeAt Go.RowKit Go.Deep
set_option linter.unusedVariables false
set_option maxRecDepth 20000

set_option maxRecDepth 100000 in
set_option maxHeartbeats 8000000 in
theorem walk (l : P8) (s : Sec) (w : World) (hf : l.Fit) : Calls Try.prog 6 #[.agg (p8L l).toArray, .agg (secL s).toArray] w fun e w' => e = .returned (.bool true) ∧ Below w.heap.size w w' := by
  have hB := fun W => nBytes_any l W hf
  have hN := fun W => Newest_any l W
  have hE := fun W => Empty_any holesP W
  rw [holesP_empty] at hE
  have hRs := fun W => nRead_any s W
  have hRd : l.right = true → Hid (∀ W : World, Calls Try.prog 16 #[.agg (secL l.sec).toArray] W (NRRes 51 (some l) W)) := fun hr => Lib.hid fun W => by have := nRead_any l.sec W; rwa [nodeRP_sec hf hr] at this
  have hsc : Hid (∀ k : Nat, k < 8 → ∀ W : World, Calls Try.prog 19 #[.agg (p3L (l.get k)).toArray, .int .u64 (newestN 0 l.1 : Int)] W fun e w' => e = .returned (.bool false) ∧ Below W.heap.size W w') := Lib.hid fun k hk W => since8 l hf hk W
  have hrt : Hid (∀ k : Nat, k < 8 → ∀ W : World, Calls Try.prog 18 #[.agg (p3L (l.get k)).toArray] W fun e w' => e = .returned (.bool (l.get k).rightB) ∧ Below W.heap.size W w') := Lib.hid fun k hk W => right8 l hf hk W
  have hr : Hid (∀ k : Nat, k < 8 → rightUpto l (k + 1) = (rightUpto l k && (l.get k).rightB)) := Lib.hid fun k hk => rightUpto_succ l hk
  have hx : Hid (∀ k : Nat, k < 8 → ∀ W : World, Sem.run Try.prog (Instr.index 31 (.agg (p8L l).toArray) (.int .i64 (k : Int))) W = .ok (.agg (p3L (l.get k)).toArray) W) := Lib.hid fun k hk W => idx8 l hk W
  have hr0 : Hid (rightUpto l 0 = true) := Lib.hid rfl
  have hr8 : Hid (rightUpto l 8 = l.right) := Lib.hid (rightUpto_eight l)
  have hO1 : l.right = true → l.secO = some l.sec := secO_yes
  have hO0 : l.right = false → l.secO = none := secO_no
  have hq8 : ∀ (w : World) (k : P8), (Op.equalIn 10000 31 (.agg (p8L k).toArray) (.agg (p8L k).toArray)).run Try.prog w = .ok true w := fun w k => by rw [eqP8, decide_eq_true rfl]
  have hqS : ∀ (w : World) (k : Sec), (Op.equalIn 10000 23 (.agg (secL k).toArray) (.agg (secL k).toArray)).run Try.prog w = .ok true w := fun w k => by rw [eqSec, decide_eq_true rfl]
  generalize l.secO = O at *
  generalize l.sec = SS at *
  generalize l.right = rr at *
  generalize newestN 0 l.1 = nn at *
  unfold NSRes at hB
  unfold NRRes at hRs
  obtain ⟨S, hS⟩ : ∃ S, Hid (S = O.getD sec0) := ⟨_, Lib.hid rfl⟩
  obtain ⟨er, her⟩ : ∃ er, Hid (er = errI 51 O) := ⟨_, Lib.hid rfl⟩
  rw [← hS.out, ← her.out] at hB
  have hB := Lib.hid hB
  have hN := Lib.hid hN
  have hE := Lib.hid hE
  have hRs := Lib.hid hRs
  have hO1 := Lib.hid hO1
  have hO0 := Lib.hid hO0
  have hRd := Lib.hid hRd
  have hz := zeroP8
  have hzs := zeroSec
  have T0 := Lib.hid (((NT.start w).box 31 (p8L l)).box 23 (secL s))
  rw [show (w.alloc (.cells (p8L l).toArray 31)).heap.size = w.heap.size + 1 from by simp] at T0
  go_enter Try.func6, Try.ntmps6
  go_wp2_with fail
  refine (nodeAlive_any _).mono ?_
  rintro e w1 ⟨rfl, b1⟩
  have T1 := Lib.hid (T0.out.call b1)
  clear b1
  go_wp2_with (first
    | ((with_reducible refine n2Dst (some 19) (by rfl) ?_); refine wantList_load (by rfl) 31 _ rfl w.heap.size 0 (by rfl) (p8L l) _ (rangeN T1.out.b1) Try.underlying31 rfl (infoP8 _) ?_))
  refine (hB.out _).mono ?_
  rintro e w2 ⟨rfl, b2⟩
  have T2 := Lib.hid (T1.out.call b2)
  clear b2
  go_wp2_with (first
    | ((with_reducible refine guardList ?_)
       refine wantList_store (by rfl) 23 _ _ rfl w2.heap.size 0 (by rfl) (secL S) (by rfl) _ (secL sec0) (secL S) (Blk.new w2 23 (secL sec0)) (by simp only [secL_length]; decide) (secL_one _) (infoSecL _) wholeSn ?_
       intro w3 h3 k3 z3
       have T3 := Lib.hid (T2.out.lay k3 h3)
       clear h3 k3 z3)
    | ((with_reducible refine n2Dst (some 23) (by rfl) ?_); refine wantList_load (by rfl) 31 _ rfl w.heap.size 0 (by rfl) (p8L l) _ (rangeN T3.out.b2) Try.underlying31 rfl (infoP8 _) ?_))
  obtain ⟨L, hL⟩ : ∃ L, Hid (L = (p8L l).toArray) := ⟨_, Lib.hid rfl⟩
  rw [← hL.out]
  rw [← hL.out] at hx
  go_loopw [7, 24] (fun r i wr => ∃ k : Nat, k ≤ 8 ∧ i = .int .i64 k ∧ r = .bool (rightUpto l k) ∧ Hid (NT w wr [(w2.heap.size, 23, secL S), (w.heap.size + 1, 23, secL s), (w.heap.size, 31, p8L l)]))
    (fun _ i _ => 8 - (intOf i).toNat)
  case atStart => exact ⟨0, by omega, rfl, by rw [hr0.out], T3⟩
  case round =>
    clear T0 T1 T2 T3
    obtain ⟨k, hk, rfl, rfl, T3⟩ := hrel
    by_cases hlt : k < 8
    · have hx0 := hx.out k hlt
      have hr1 := hr.out k hlt
      have hsc1 := hsc.out k hlt
      have hrt1 := hrt.out k hlt
      generalize l.get k = qq at *
      obtain ⟨a, b, sm⟩ := qq
      have hx1 : ∀ W, Sem.run Try.prog (Instr.index 31 (.agg L) (.int .i64 (k : Int))) W = .ok (.agg #[.int .i64 a, .int .u64 (b : Int), .int .u32 (sm : Int)]) W := hx0
      clear hx0
      have hrt1 : ∀ W : World, Calls Try.prog 18 #[.agg #[.int .i64 a, .int .u64 (b : Int), .int .u32 (sm : Int)]] W fun e w' => e = .returned (.bool (P3.rightB ⟨a, b, sm⟩)) ∧ Below W.heap.size W w' := hrt1
      generalize P3.rightB ⟨a, b, sm⟩ = rb at *
      have hsc1 := Lib.hid hsc1
      have hrt1 := Lib.hid hrt1
      have T6 := Lib.hid (T3.out.box 30 (p3L ⟨a, b, sm⟩))
      have hwr := T3.out.q.size
      obtain ⟨ru1, hru⟩ : ∃ x, Hid (x = rightUpto l (k + 1)) := ⟨_, Lib.hid rfl⟩
      rw [← hru.out] at hr1
      generalize rightUpto l k = ru at *
      have Hr1 := Lib.hid hr1
      clear hr1
      cases ru with
      | false =>
        obtain rfl : ru1 = false := Hr1.out
        have T7 := T6
        go_wp2
        refine inO_region [(0, fun w' => w'.rangeAt (wr.heap.size) (0) (p3L ⟨a, b, sm⟩)), (1, fun w' => w'.rangeAt (w.heap.size) (0) (p8L l))] (by kernel_rfl) (Owed.cons (rangeN T7.out.drew.b0) (Owed.cons (rangeN T7.out.drew.b3) (Owed.nil _ _))) ?_
        refine inO_load 0 ⟨_, _, _, _, _, _⟩ (.agg (p3L ⟨a, b, sm⟩).toArray) (fun w' => w'.rangeAt (wr.heap.size) (0) (p3L ⟨a, b, sm⟩)) rfl (by kernel_rfl) (by kernel_rfl) (by kernel_rfl) (fun _ _ _ h => h) rfl (.head _) (fun ww hw => exec_load_mid _ _ (by rfl) _ _ (by rfl) _ _ hw Try.underlying30 rfl (infoPtr _)) ?_
        simp only [Act.put, List.setIfInBounds_toArray, List.set_cons_zero, List.set_cons_succ]
        refine inO_load 1 ⟨_, _, _, _, _, _⟩ (.agg (p8L l).toArray) (fun w' => w'.rangeAt (w.heap.size) (0) (p8L l)) rfl (by kernel_rfl) (by kernel_rfl) (by kernel_rfl) (fun _ _ _ h => h) rfl (.tail _ (.head _)) (fun ww hw => exec_load_mid _ _ (by rfl) _ _ (by rfl) _ _ hw Try.underlying31 rfl (infoP8 _)) ?_
        simp only [Act.put, List.setIfInBounds_toArray, List.set_cons_zero, List.set_cons_succ]
        refine inO_step 2 ⟨_, _, _, _, _, _⟩ rfl (by kernel_rfl) rfl (fun K hK => ?_)
        refine wp_call Try.func14 (by kernel_rfl) rfl _ _ rfl _ rfl _ (hN.out _) fun e w8 R => ?_
        obtain ⟨rfl, bb⟩ := R
        have T8 := Lib.hid (T7.out.drew.call bb)
        clear bb
        refine ⟨_, rfl, ?_⟩
        refine hK _ _ (Keeps.cons (fun _ => rangeN T8.out.b0) (Keeps.cons (fun _ => rangeN T8.out.b3) (Keeps.nil _ _ _))) ?_
        clear hK K
        simp only [Act.put, List.setIfInBounds_toArray, List.set_cons_zero, List.set_cons_succ]
        refine inO_step 3 ⟨_, _, _, _, _, _⟩ rfl (by kernel_rfl) rfl (fun K hK => ?_)
        refine wp_call Try.func19 (by kernel_rfl) rfl _ _ rfl _ rfl _ (hsc1.out _) fun e w9 R => ?_
        obtain ⟨rfl, bb⟩ := R
        have T9 := Lib.hid (T8.out.call bb)
        clear bb
        refine ⟨_, rfl, ?_⟩
        refine hK _ _ (Keeps.cons (fun _ => rangeN T9.out.b0) (Keeps.cons (fun _ => rangeN T9.out.b3) (Keeps.nil _ _ _))) ?_
        clear hK K
        simp only [Act.put, List.setIfInBounds_toArray, List.set_cons_zero, List.set_cons_succ]
        refine inO_done (by kernel_rfl) ?_
        go_wp2
        go_roundw
        case rel => exact ⟨k + 1, by omega, by go_num, by rw [← hru.out], Lib.hid T9.out.tail⟩
        case measure => simp [intOf] <;> omega
      | true =>
        obtain rfl : ru1 = rb := Hr1.out
        go_wp2_with fail
        refine (hrt1.out _).mono ?_
        rintro e w7 ⟨rfl, b7⟩
        have T7 := Lib.hid (T6.out.call b7)
        clear b7
        go_wp2
        refine inO_region [(0, fun w' => w'.rangeAt (wr.heap.size) (0) (p3L ⟨a, b, sm⟩)), (1, fun w' => w'.rangeAt (w.heap.size) (0) (p8L l))] (by kernel_rfl) (Owed.cons (rangeN T7.out.drew.b0) (Owed.cons (rangeN T7.out.drew.b3) (Owed.nil _ _))) ?_
        refine inO_load 0 ⟨_, _, _, _, _, _⟩ (.agg (p3L ⟨a, b, sm⟩).toArray) (fun w' => w'.rangeAt (wr.heap.size) (0) (p3L ⟨a, b, sm⟩)) rfl (by kernel_rfl) (by kernel_rfl) (by kernel_rfl) (fun _ _ _ h => h) rfl (.head _) (fun ww hw => exec_load_mid _ _ (by rfl) _ _ (by rfl) _ _ hw Try.underlying30 rfl (infoPtr _)) ?_
        simp only [Act.put, List.setIfInBounds_toArray, List.set_cons_zero, List.set_cons_succ]
        refine inO_load 1 ⟨_, _, _, _, _, _⟩ (.agg (p8L l).toArray) (fun w' => w'.rangeAt (w.heap.size) (0) (p8L l)) rfl (by kernel_rfl) (by kernel_rfl) (by kernel_rfl) (fun _ _ _ h => h) rfl (.tail _ (.head _)) (fun ww hw => exec_load_mid _ _ (by rfl) _ _ (by rfl) _ _ hw Try.underlying31 rfl (infoP8 _)) ?_
        simp only [Act.put, List.setIfInBounds_toArray, List.set_cons_zero, List.set_cons_succ]
        refine inO_step 2 ⟨_, _, _, _, _, _⟩ rfl (by kernel_rfl) rfl (fun K hK => ?_)
        refine wp_call Try.func14 (by kernel_rfl) rfl _ _ rfl _ rfl _ (hN.out _) fun e w8 R => ?_
        obtain ⟨rfl, bb⟩ := R
        have T8 := Lib.hid (T7.out.drew.call bb)
        clear bb
        refine ⟨_, rfl, ?_⟩
        refine hK _ _ (Keeps.cons (fun _ => rangeN T8.out.b0) (Keeps.cons (fun _ => rangeN T8.out.b3) (Keeps.nil _ _ _))) ?_
        clear hK K
        simp only [Act.put, List.setIfInBounds_toArray, List.set_cons_zero, List.set_cons_succ]
        refine inO_step 3 ⟨_, _, _, _, _, _⟩ rfl (by kernel_rfl) rfl (fun K hK => ?_)
        refine wp_call Try.func19 (by kernel_rfl) rfl _ _ rfl _ rfl _ (hsc1.out _) fun e w9 R => ?_
        obtain ⟨rfl, bb⟩ := R
        have T9 := Lib.hid (T8.out.call bb)
        clear bb
        refine ⟨_, rfl, ?_⟩
        refine hK _ _ (Keeps.cons (fun _ => rangeN T9.out.b0) (Keeps.cons (fun _ => rangeN T9.out.b3) (Keeps.nil _ _ _))) ?_
        clear hK K
        simp only [Act.put, List.setIfInBounds_toArray, List.set_cons_zero, List.set_cons_succ]
        refine inO_done (by kernel_rfl) ?_
        go_wp2
        go_roundw
        case rel => exact ⟨k + 1, by omega, by go_num, by rw [← hru.out], Lib.hid T9.out.tail⟩
        case measure => simp [intOf] <;> omega
    · obtain rfl : k = 8 := by omega
      rw [hr8.out]
      cases rr with
      | false =>
        obtain rfl : er = 51 := by rw [her.out, hO0.out rfl]; rfl
        go_wp2_with (first
          | ((with_reducible refine n2Dst (some 56) (by rfl) ?_); refine wantList_load (by rfl) 23 _ rfl (w.heap.size + 1) 0 (by rfl) (secL s) _ (rangeN T3.out.b1) Try.underlying23 rfl (infoSecL _) ?_))
        refine (hRs.out _).mono ?_
        rintro e w20 ⟨rfl, b20⟩
        have T20 := Lib.hid (T3.out.call b20)
        clear b20
        cases hRo : nodeRP s with
        | none =>
          dsimp only [Option.getD, errI]
          go_wp2_with (first
            | ((with_reducible refine guardList ?_)
               refine wantList_store (by rfl) 31 _ _ rfl w20.heap.size 0 (by rfl) (p8L holesP) (by rfl) _ (p8L holesP) (p8L holesP) (Blk.new w20 31 (p8L holesP)) (by simp only [p8L_length]; decide) (p8L_one _) (infoP8 _) wholeP8 ?_
               intro w21 h21 k21 z21
               have T21 := Lib.hid (T20.out.lay k21 h21)
               clear h21 k21 z21)
            | ((with_reducible refine n2Dst (some 62) (by rfl) ?_); refine wantList_load (by rfl) 31 _ rfl w20.heap.size 0 (by rfl) (p8L holesP) _ (rangeN T21.out.b0) Try.underlying31 rfl (infoP8 _) ?_))
          refine (hE.out _).mono ?_
          rintro e w22 ⟨rfl, b22⟩
          have T22 := Lib.hid (T21.out.call b22)
          clear b22
          go_wp2
          go_ret
          exact ⟨rfl, T22.out.q⟩
        | some kk =>
          obtain ⟨hko, hkf⟩ := nodeRP_some hRo
          dsimp only [Option.getD, errI]
          have hBk := fun W => nBytes_any kk W hkf
          rw [hko] at hBk
          have hBk := Lib.hid hBk
          clear hko
          go_wp2_with (first
            | ((with_reducible refine guardList ?_)
               refine wantList_store (by rfl) 31 _ _ rfl w20.heap.size 0 (by rfl) (p8L kk) (by rfl) _ (p8L holesP) (p8L kk) (Blk.new w20 31 (p8L holesP)) (by simp only [p8L_length]; decide) (p8L_one _) (infoP8 _) wholeP8 ?_
               intro w21 h21 k21 z21
               have T21 := Lib.hid (T20.out.lay k21 h21)
               clear h21 k21 z21)
            | ((with_reducible refine n2Dst (some 65) (by rfl) ?_); refine wantList_load (by rfl) 31 _ rfl w20.heap.size 0 (by rfl) (p8L kk) _ (rangeN T21.out.b0) Try.underlying31 rfl (infoP8 _) ?_))
          refine (hBk.out _).mono ?_
          rintro e w22 ⟨rfl, b22⟩
          have T22 := Lib.hid (T21.out.call b22)
          clear b22
          go_wp2_with (first
            | ((with_reducible refine guardList ?_)
               refine wantList_store (by rfl) 23 _ _ rfl w22.heap.size 0 (by rfl) (secL s) (by rfl) _ (secL sec0) (secL s) (Blk.new w22 23 (secL sec0)) (by simp only [secL_length]; decide) (secL_one _) (infoSecL _) wholeSn ?_
               intro w23 h23 k23 z23
               have T23 := Lib.hid (T22.out.lay k23 h23)
               clear h23 k23 z23)
            | ((with_reducible refine n2Dst (some 72) (by rfl) ?_); refine wantList_load (by rfl) 23 _ rfl w22.heap.size 0 (by rfl) (secL s) _ (rangeN T23.out.b0) Try.underlying23 rfl (infoSecL _) ?_)
            | ((with_reducible refine n2Dst (some 73) (by rfl) ?_); refine wantList_load (by rfl) 23 _ rfl (w.heap.size + 1) 0 (by rfl) (secL s) _ (rangeN T23.out.b3) Try.underlying23 rfl (infoSecL _) ?_))
          go_ret
          exact ⟨rfl, T23.out.q⟩
      | true =>
        obtain rfl : er = 0 := by rw [her.out, hO1.out rfl]; rfl
        obtain rfl : S = SS := by rw [hS.out, hO1.out rfl]; rfl
        have hRd1 := hRd.out rfl
        go_wp2_with (first
          | ((with_reducible refine n2Dst (some 44) (by rfl) ?_); refine wantList_load (by rfl) 23 _ rfl w2.heap.size 0 (by rfl) (secL S) _ (rangeN T3.out.b0) Try.underlying23 rfl (infoSecL _) ?_))
        refine (hRd1.out _).mono ?_
        rintro e w10 ⟨rfl, b10⟩
        dsimp only [Option.getD, errI]
        have T10 := Lib.hid (T3.out.call b10)
        clear b10
        go_wp2_with (first
          | ((with_reducible refine guardList ?_)
             refine wantList_store (by rfl) 31 _ _ rfl w10.heap.size 0 (by rfl) (p8L l) (by rfl) _ (p8L holesP) (p8L l) (Blk.new w10 31 (p8L holesP)) (by simp only [p8L_length]; decide) (p8L_one _) (infoP8 _) wholeP8 ?_
             intro w11 h11 k11 z11
             have T11 := Lib.hid (T10.out.lay k11 h11)
             clear h11 k11 z11)
          | ((with_reducible refine n2Dst (some 51) (by rfl) ?_); refine wantList_load (by rfl) 31 _ rfl w10.heap.size 0 (by rfl) (p8L l) _ (rangeN T11.out.b0) Try.underlying31 rfl (infoP8 _) ?_)
          | ((with_reducible refine n2Dst (some 52) (by rfl) ?_); refine wantList_load (by rfl) 31 _ rfl w.heap.size 0 (by rfl) (p8L l) _ (rangeN T11.out.b3) Try.underlying31 rfl (infoP8 _) ?_)
          | ((with_reducible refine n2Dst (some 56) (by rfl) ?_); refine wantList_load (by rfl) 23 _ rfl (w.heap.size + 1) 0 (by rfl) (secL s) _ (rangeN T11.out.b2) Try.underlying23 rfl (infoSecL _) ?_))
        refine (hRs.out _).mono ?_
        rintro e w20 ⟨rfl, b20⟩
        have T20 := Lib.hid (T11.out.call b20)
        clear b20
        cases hRo : nodeRP s with
        | none =>
          dsimp only [Option.getD, errI]
          go_wp2_with (first
            | ((with_reducible refine guardList ?_)
               refine wantList_store (by rfl) 31 _ _ rfl w20.heap.size 0 (by rfl) (p8L holesP) (by rfl) _ (p8L holesP) (p8L holesP) (Blk.new w20 31 (p8L holesP)) (by simp only [p8L_length]; decide) (p8L_one _) (infoP8 _) wholeP8 ?_
               intro w21 h21 k21 z21
               have T21 := Lib.hid (T20.out.lay k21 h21)
               clear h21 k21 z21)
            | ((with_reducible refine n2Dst (some 62) (by rfl) ?_); refine wantList_load (by rfl) 31 _ rfl w20.heap.size 0 (by rfl) (p8L holesP) _ (rangeN T21.out.b0) Try.underlying31 rfl (infoP8 _) ?_))
          refine (hE.out _).mono ?_
          rintro e w22 ⟨rfl, b22⟩
          have T22 := Lib.hid (T21.out.call b22)
          clear b22
          go_wp2
          go_ret
          exact ⟨rfl, T22.out.q⟩
        | some kk =>
          obtain ⟨hko, hkf⟩ := nodeRP_some hRo
          dsimp only [Option.getD, errI]
          have hBk := fun W => nBytes_any kk W hkf
          rw [hko] at hBk
          have hBk := Lib.hid hBk
          clear hko
          go_wp2_with (first
            | ((with_reducible refine guardList ?_)
               refine wantList_store (by rfl) 31 _ _ rfl w20.heap.size 0 (by rfl) (p8L kk) (by rfl) _ (p8L holesP) (p8L kk) (Blk.new w20 31 (p8L holesP)) (by simp only [p8L_length]; decide) (p8L_one _) (infoP8 _) wholeP8 ?_
               intro w21 h21 k21 z21
               have T21 := Lib.hid (T20.out.lay k21 h21)
               clear h21 k21 z21)
            | ((with_reducible refine n2Dst (some 65) (by rfl) ?_); refine wantList_load (by rfl) 31 _ rfl w20.heap.size 0 (by rfl) (p8L kk) _ (rangeN T21.out.b0) Try.underlying31 rfl (infoP8 _) ?_))
          refine (hBk.out _).mono ?_
          rintro e w22 ⟨rfl, b22⟩
          have T22 := Lib.hid (T21.out.call b22)
          clear b22
          go_wp2_with (first
            | ((with_reducible refine guardList ?_)
               refine wantList_store (by rfl) 23 _ _ rfl w22.heap.size 0 (by rfl) (secL s) (by rfl) _ (secL sec0) (secL s) (Blk.new w22 23 (secL sec0)) (by simp only [secL_length]; decide) (secL_one _) (infoSecL _) wholeSn ?_
               intro w23 h23 k23 z23
               have T23 := Lib.hid (T22.out.lay k23 h23)
               clear h23 k23 z23)
            | ((with_reducible refine n2Dst (some 72) (by rfl) ?_); refine wantList_load (by rfl) 23 _ rfl w22.heap.size 0 (by rfl) (secL s) _ (rangeN T23.out.b0) Try.underlying23 rfl (infoSecL _) ?_)
            | ((with_reducible refine n2Dst (some 73) (by rfl) ?_); refine wantList_load (by rfl) 23 _ rfl (w.heap.size + 1) 0 (by rfl) (secL s) _ (rangeN T23.out.b4) Try.underlying23 rfl (infoSecL _) ?_))
          go_ret
          exact ⟨rfl, T23.out.q⟩

theorem own : ownKnob Try.prog.godebug = none := by kernel_rfl
theorem laidOut : laidOutB Try.prog = true := by kernel_rfl

set_option maxRecDepth 100000 in
theorem lifted (os : Os) (started : os.Started) (H : Type) (enc : TypeId × Value → H) :
    ReturnsInHanded {} Try.checked os 6 .any (Rows.nodeBackSpec.pre6 enc Try.prog Try.f6 Rows.nodeBackRow.domain false) (Rows.nodeBackSpec.post enc Try.prog Try.f6 false true false false) := by
  refine returnsInHanded_of_change_sized (C := Try.checked) own started (by kernel_rfl) Try.func6
    (ChangeSpec.witness6 (enc := enc) (C := Try.checked) false ⟨#[], #[.agg (Array.replicate 8 #[.int .i64 0, .int .u64 0, .int .u32 0]).flatten, .agg (Array.replicate 128 (.int .u8 0))], []⟩ 8 (by kernel_rfl) (by kernel_rfl) (by kernel_rfl) (by kernel_rfl)) ?_
  intro W base args ds gs before hval0 hW hcnd hsz0 _
  have hval : ∀ (j : Nat) t v, Try.f6.params[j]? = some t → args[j]? = some v → Value.okWide Try.prog W .any base t v := hval0
  have hsz : (DataW.weightsEach Try.prog (Try.f6.params.toList ++ Rows.nodeBackSpec.plain.varTypes Try.prog) (ds ++ gs)).all (· ≤ reachBytes) = true := hsz0
  have hW' := hW
  obtain ⟨p, q, hA0, hV, rfl, hfz, hnd⟩ := hW
  have hA : DataW.TrodAll enc Try.prog W 0 (fun _ => true) true Try.f6.params.toList args.toList ds p := hA0
  rw [Try.params6] at hA hval hsz
  obtain ⟨v0, vs0, d0, ds0, p0, q0, hargs, rfl, rfl, h0, r0⟩ := trodAll_cons hA
  obtain ⟨v1, vs1, d1, ds1, p1, q1, rfl, rfl, rfl, h1, r1⟩ := trodAll_cons r0
  obtain ⟨rfl, rfl, rfl⟩ := trodAll_nil r1
  obtain rfl : args = #[v0, v1] := by cases args; simp_all
  obtain ⟨rfl, rfl⟩ := trodVars_none hV
  have k0 := h0
  have lt0 : ∀ x ∈ p0, x.block < W.heap.size := by obtain ⟨m, hm⟩ := k0; exact DataW.trod_lt m _ _ _ hm
  obtain ⟨a0, rfl, fi0⟩ := open_ptrs8 h0 (hval 0 31 v0 rfl rfl)
  have k1 := h1
  have lt1 : ∀ x ∈ p1, x.block < W.heap.size := by obtain ⟨m, hm⟩ := k1; exact DataW.trod_lt m _ _ _ hm
  obtain ⟨a1, rfl⟩ := arg_sec h1 (hval 1 23 v1 rfl rfl)
  clear hA0 hval0 hsz0
  refine (walk a0 a1 W fi0 ).mono fun e W' ⟨he, bel⟩ => ?_
  subst he
  exact ⟨_, rfl, _, _, _, [], _, [], hW', trodAll_mk1 (shut_bool Try.underlying4 _), (trodAll_cons_mk (Below.trod laidOut (by kernel_rfl) (of_decide_eq_true (by kernel_rfl)) k0 bel lt0) (trodAll_cons_mk (Below.trod laidOut (by kernel_rfl) (of_decide_eq_true (by kernel_rfl)) k1 bel lt1) trodAll_mk0)), rfl, bel.frame _, fun h => by cases h⟩

theorem proved : Rows.NodeBackSaid :=
  OpenClaim.holds_of_wide 6 Try.f6 rfl rfl rfl rfl rfl rfl rfl ⟨rfl, rfl, rfl, rfl, rfl⟩ rfl rfl rfl rfl rfl (by kernel_rfl) Try.func6 (by kernel_rfl)
    (of_decide_eq_true (by kernel_rfl)) (by unfold Func.isWrapper; first | (rw [if_pos (by decide +kernel)]; kernel_rfl) | (rw [if_neg (by decide +kernel)]; exact ⟨rfl, rfl⟩))
    (fun os started H enc _ => lifted os started H enc)
end Go.Proofs.Ytkapdagmffbbhaa.lawNodeBack
