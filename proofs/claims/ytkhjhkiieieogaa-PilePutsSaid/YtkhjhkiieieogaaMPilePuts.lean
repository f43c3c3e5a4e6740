/- PilePuts, for every input: the law returns true and each argument reads behind the call as before. No condition. -/
import Derived.Test.YtkhjhkiieieogaaGPileB
namespace Go.Proofs.Ytkhjhkiieieogaa.lawPilePuts
open Go.ChangeShapes Go.WideShapes Go.ChangeAt Go.RowKit Go.Deep
set_option linter.unusedVariables false
set_option maxRecDepth 20000

set_option maxRecDepth 100000 in
set_option maxHeartbeats 4000000 in
theorem walk (ao : Option Addr) (ts : List (List UInt8)) (cap : Nat) (z : Int) (w : World) (hx : Texts w ao ts) (hf : (ts.length ≤ cap ∧ cap * 24 ≤ 140737488351232) ∧ ∀ x ∈ ts, x.length ≤ 140737488351232) (hn : ao = none → cap = 0) (hz : I64 z) :
    Calls Try.prog 6 #[.slice ao ts.length cap, .int .i64 z] w fun e w' => e = .returned (.bool true) ∧ Below w.heap.size w w' := by
  have hx := Lib.hid hx
  have hls := Lib.hid hf.2
  have hcap := hf.1
  unfold I64 at hz
  clear hn hf
  obtain ⟨j0, hj, hy0, hy1, hy2⟩ := info_parts infoU8
  have hzs := zeroSec
  have hzi := zeroIn
  have he := eqSec
  have hv1 : ∀ i s : Nat, p3V ⟨(i : Int), 1, s⟩ = .agg #[.int .i64 (i : Int), .int .u64 1, .int .u32 (s : Int)] := fun i s => rfl
  have hvz : p3V p3z = .agg #[.int .i64 0, .int .u64 0, .int .u32 0] := rfl
  have hcv : ∀ w : World, (convert 37 37 (.slice (some ⟨w.heap.size, 0, none⟩) 1 1)).run Try.prog (w.alloc (.cells #[.int .u8 120] 5)) = .ok (.slice (some ⟨w.heap.size, 0, none⟩) 1 1) (w.alloc (.cells #[.int .u8 120] 5 (1, 2))) := fun w => Lib.run_convert_bytes_const w 37 5 #[.int .u8 120] 1 1 Try.underlying37 Try.underlying5
  obtain ⟨n, hnn⟩ : ∃ n, Hid (ts.length = n) := ⟨_, Lib.hid rfl⟩
  rw [hnn.out] at hcap ⊢
  go_enter Try.func6, Try.ntmps6
  go_wp2_with fail
  refine (pileAlive_any _).mono ?_
  rintro e w1 ⟨rfl, hb1⟩
  have q1 := Lib.hid hb1
  clear hb1
  by_cases hbig : n > 80
  · go_wp2
    go_ret
    exact ⟨rfl, q1.out⟩
  have hbig : n ≤ 80 := by omega
  go_wp2_with fail
  refine (made_any 64 (by unfold I64; omega) w1).mono ?_
  rintro e w2 ⟨g, d, B, F, rfl, hP⟩
  have hP := hP.later q1.out
  rw [show DevM.newLen 64 = 64 from rfl] at hP
  have hP := Lib.hid hP
  clear q1
  go_wp2_with (first
    | ((with_reducible refine guardList ?_); refine wantList_build (by rfl) 50 [] rfl (inL inN) _ (by rfl) built_in ?_)
    | ((with_reducible refine guardList ?_)
       refine wantList_store (by rfl) 50 _ _ rfl w2.heap.size 0 (by rfl) (inL inN) (by rfl) _ (inL inN) (inL inN) (Blk.new w2 _ _) (by simp only [inL_length]; decide) (inL_one _) (infoIn _) (whole_new rfl) ?_
       intro w3 hR3 k3 z3
       have hP3 := Lib.hid ((hP.out.alloc _).over k3 (fun i hi e => by have := hP.out.at_.lt i hi; omega) (fun i hi e => by have := hP.out.q.size; omega))
       have l3 := Lib.hid ((Side.nil w2 F w.heap.size).fresh hP.out.at_.lt hP.out.q.size k3 hR3)
       clear hR3 k3 z3))
  obtain ⟨x6, hx6⟩ : ∃ x6, x6 = w2.heap.size := ⟨_, rfl⟩
  rw [← hx6] at l3 ⊢
  clear hx6 hP
  go_loopw [7, 27] (fun mv i wr => ∃ (k many : Nat) (F : Nat → Prop) (m : PileM) (f : Nat → Bool), k ≤ n ∧ i = .int .i64 k ∧ mv = .int .i64 many ∧ Hid (P0 w wr g d B F m) ∧ Hid (Pt m f many k) ∧ Hid (Side wr F w.heap.size [(x6, 50, inL f)]))
    (fun _ i _ => n - (intOf i).toNat)
  case atStart => exact ⟨0, 0, F, _, inN, by omega, rfl, rfl, hP3, Lib.hid Pt.first, l3⟩
  case round =>
    clear hP3 l3
    obtain ⟨k, many, F1, m, f, hk, rfl, rfl, hP, hI, l3⟩ := hrel
    by_cases hlt : k < n
    · obtain ⟨tb, toff, t, bo, tc, rfl, htc, htb, hdr, htk, htl, htm, htn, hty, htin⟩ := hx.out.at (k := k) (by rw [hnn.out]; exact hlt)
      have hty0 := hty
      have hty := Lib.hid (Reads.below hty0.out hP.out.q)
      have htc := keepCell hP.out.q htc
      have htb : tb < wr.heap.size := Nat.lt_of_lt_of_le htb hP.out.q.size
      have htL := hls.out _ htin.out
      have hbyl := Lib.hid (bytesV_length t)
      have hbyo := Lib.hid (bytesV_one t)
      have hwsz : w.heap.size ≤ wr.heap.size := hP.out.q.size
      have hml := hI.out.le
      clear hdr htk htin
      by_cases hs : 128 < t.length
      · have hd : decide (128 < (t.length : Int)) = true := decide_eq_true (by omega)
        have hput := Lib.hid (PLive.put_big (m := m) (bs := t) (by omega))
        go_wp2_with (at_builtin; refine wpList_copy rfl (.tmp 33) (.tmp 34) 37 rfl 5 j0 (.int .u8 0) 1 Try.underlying37 hj hy0 hy1 hy2 rfl wr rfl bo t.length tc (bytesV t) rfl htn.out hbyl.out hty.out hbyo.out (by omega) (by omega) ?_; intro co cc w4 ho4 hcc hcc2 hcn hb4; have ho4 := Lib.hid ho4; have hb4 := Lib.hid hb4)
        have hP4 := Lib.hid (hP.out.below hb4.out)
        have hC4 : Hid (Bytes w4 co t) := Lib.hid (show Bytes w4 co t from ho4.out.reads)
        have hcF : Hid (∀ a, co = some a → ¬ F1 a.block) := Lib.hid (fun a ha hf => by
          subst ha
          have h1 := (ho4.out.lt a.block rfl).1
          have h2 := hP.out.at_.lt _ hf
          omega)
        have l4 := Lib.hid (l3.out.below hb4.out)
        refine (oPut hP4.out.at_ co t cc hC4.out hcF.out (by have := hI.out.live.pend; omega)).mono ?_
        rw [hput.out]
        dsimp only
        rw [hvz]
        rintro e w5 ⟨rfl, T⟩
        obtain ⟨F5, hP5, k5, g5⟩ := hP4.out.turn T
        have hP5 := Lib.hid hP5
        have l5 := Lib.hid (l4.out.turn k5 g5)
        clear T k5 g5
        have hP6 := Lib.hid (hP5.out.alloc (.cells (p3L p3z).toArray 32))
        have l6 := Lib.hid (l5.out.alloc (.cells (p3L p3z).toArray 32))
        go_wp2
        go_roundw
        case rel => exact ⟨k + 1, many, F5, m, f, by omega, by go_num, by go_num, hP6, Lib.hid hI.out.more, l6⟩
        case measure => simp [intOf] <;> omega
      · have hd : decide (128 < (t.length : Int)) = false := decide_eq_false (by omega)
        by_cases hm : many = 60
        · have hput := Lib.hid (hI.out.put_full (bs := t) (by omega) hm)
          have hmz : ((many : Int) == 60) = true := by simp; omega
          go_wp2_with (at_builtin; refine wpList_copy rfl (.tmp 33) (.tmp 34) 37 rfl 5 j0 (.int .u8 0) 1 Try.underlying37 hj hy0 hy1 hy2 rfl wr rfl bo t.length tc (bytesV t) rfl htn.out hbyl.out hty.out hbyo.out (by omega) (by omega) ?_; intro co cc w4 ho4 hcc hcc2 hcn hb4; have ho4 := Lib.hid ho4; have hb4 := Lib.hid hb4)
          have hP4 := Lib.hid (hP.out.below hb4.out)
          have hC4 : Hid (Bytes w4 co t) := Lib.hid (show Bytes w4 co t from ho4.out.reads)
          have hcF : Hid (∀ a, co = some a → ¬ F1 a.block) := Lib.hid (fun a ha hf => by
            subst ha
            have h1 := (ho4.out.lt a.block rfl).1
            have h2 := hP.out.at_.lt _ hf
            omega)
          have l4 := Lib.hid (l3.out.below hb4.out)
          refine (oPut hP4.out.at_ co t cc hC4.out hcF.out (by have := hI.out.live.pend; omega)).mono ?_
          rw [hput.out]
          dsimp only
          rw [hvz]
          rintro e w5 ⟨rfl, T⟩
          obtain ⟨F5, hP5, k5, g5⟩ := hP4.out.turn T
          have hP5 := Lib.hid hP5
          have l5 := Lib.hid (l4.out.turn k5 g5)
          clear T k5 g5
          have hP6 := Lib.hid (hP5.out.alloc (.cells (p3L p3z).toArray 32))
          have l6 := Lib.hid (l5.out.alloc (.cells (p3L p3z).toArray 32))
          go_wp2
          go_roundw
          case rel => exact ⟨k + 1, many, F5, m, f, by omega, by go_num, by go_num, hP6, Lib.hid hI.out.more, l6⟩
          case measure => simp [intOf] <;> omega
        · obtain ⟨m', m'', i, hput, hi64, hfi, hget, hI'⟩ := hI.out.put_ok (bs := t) (by omega) hm
          have hput := Lib.hid hput
          have hget := Lib.hid hget
          have hI' := Lib.hid hI'
          have hmz : ((many : Int) == 60) = false := by simp; omega
          obtain ⟨W, hW⟩ : ∃ W, Hid (W = blockS t) := ⟨_, Lib.hid rfl⟩
          rw [← hW.out] at hput hget
          have hfit : Hid (P3.Fit ⟨(i : Int), 1, sumS W⟩) := Lib.hid ⟨by unfold I64; dsimp only; omega, by show (1 : Nat) < 18446744073709551616; decide, sumS_lt _⟩
          generalize sumS W = sm at *
          go_wp2_with (at_builtin; refine wpList_copy rfl (.tmp 33) (.tmp 34) 37 rfl 5 j0 (.int .u8 0) 1 Try.underlying37 hj hy0 hy1 hy2 rfl wr rfl bo t.length tc (bytesV t) rfl htn.out hbyl.out hty.out hbyo.out (by omega) (by omega) ?_; intro co cc w4 ho4 hcc hcc2 hcn hb4; have ho4 := Lib.hid ho4; have hb4 := Lib.hid hb4)
          have hP4 := Lib.hid (hP.out.below hb4.out)
          have hC4 : Hid (Bytes w4 co t) := Lib.hid (show Bytes w4 co t from ho4.out.reads)
          have hcF : Hid (∀ a, co = some a → ¬ F1 a.block) := Lib.hid (fun a ha hf => by
            subst ha
            have h1 := (ho4.out.lt a.block rfl).1
            have h2 := hP.out.at_.lt _ hf
            omega)
          have l4 := Lib.hid (l3.out.below hb4.out)
          refine (oPut hP4.out.at_ co t cc hC4.out hcF.out (by have := hI.out.live.pend; omega)).mono ?_
          rw [hput.out]
          dsimp only
          rw [hv1]
          rintro e w5 ⟨rfl, T⟩
          obtain ⟨F5, hP5, k5, g5⟩ := hP4.out.turn T
          have hP5 := Lib.hid hP5
          have l5 := Lib.hid (l4.out.turn k5 g5)
          clear T k5 g5
          have hP6 := Lib.hid (hP5.out.alloc (.cells (p3L ⟨(i : Int), 1, sm⟩).toArray 32))
          have l6 := Lib.hid (l5.out.new hP5.out.at_.lt hP5.out.q.size 32 (p3L ⟨(i : Int), 1, sm⟩))
          go_wp2_with fail
          refine (oGet hP6.out.at_ ⟨(i : Int), 1, sm⟩ hfit.out).mono ?_
          rw [hget.out]
          dsimp only
          rintro e w8 ⟨rfl, T⟩
          obtain ⟨F8, hP8, k8, g8⟩ := hP6.out.turn T
          have hP8 := Lib.hid hP8
          have l8 := Lib.hid (l6.out.turn k8 g8)
          clear T k8 g8
          go_wp2_with (first
            | ((with_reducible refine guardList ?_)
               refine wantList_store (by rfl) 23 _ _ rfl w8.heap.size 0 (by rfl) (secL W) (by rfl) _ (secL sec0) (secL W) (Blk.new w8 _ _) (by simp only [secL_length]; decide) (secL_one _) (infoSecL _) wholeS ?_
               intro w9 hR9 k9 z9
               have hP9 := Lib.hid ((hP8.out.alloc _).over k9 (fun i hi e => by have := hP8.out.at_.lt i hi; omega) (fun i hi e => by have := hP8.out.q.size; omega))
               have l9 := Lib.hid (l8.out.fresh hP8.out.at_.lt hP8.out.q.size k9 hR9)
               clear hR9 k9 z9))
          obtain ⟨p0, p1, p2⟩ := PtrAt.cells (p := ⟨(i : Int), 1, sm⟩) l9.out.rest.one
          have cx : w9.cell? ⟨x6, i, none⟩ = some (.bool false) := by rw [l9.out.rest.rest.one.cell, inL_get _ hi64, hfi]
          clear p1 p2
          dsimp only at p0
          refine inO_region [(8, fun w' => w'.cell? ⟨w5.heap.size, 0, none⟩ = some (.int .i64 (i : Int))), (10, fun w' => w'.cell? ⟨x6, i, none⟩ = some (.bool false)), (13, fun w' => w'.rangeAt (w8.heap.size) (0) (secL W))] (by kernel_rfl) (Owed.cons (p0) (Owed.cons (cx) (Owed.cons (rangeB l9.out.one) (Owed.nil _ _)))) ?_
          refine inO_take 0 ⟨_, _, _, _, _, _⟩ (.int .i64 0) rfl (by kernel_rfl) (by kernel_rfl) (by kernel_rfl) (fun _ _ _ h => h) rfl (fun ww => exec_move (by rfl) (by rfl) ww) ?_
          simp only [Act.put, List.setIfInBounds_toArray, List.set_cons_zero, List.set_cons_succ]
          refine inO_take 1 ⟨_, _, _, _, _, _⟩ (.bool false) rfl (by kernel_rfl) (by kernel_rfl) (by kernel_rfl) (fun _ _ _ h => h) rfl (fun ww => by go_simp) ?_
          simp only [Act.put, List.setIfInBounds_toArray, List.set_cons_zero, List.set_cons_succ]
          refine inO_take 2 ⟨_, _, _, _, _, _⟩ (.bool false) rfl (by kernel_rfl) (by kernel_rfl) (by kernel_rfl) (fun _ _ _ h => h) rfl (fun ww => exec_move (by rfl) (by rfl) ww) ?_
          simp only [Act.put, List.setIfInBounds_toArray, List.set_cons_zero, List.set_cons_succ]
          refine inO_take 3 ⟨_, _, _, _, _, _⟩ (.int .i64 0) rfl (by kernel_rfl) (by kernel_rfl) (by kernel_rfl) (fun _ _ _ h => h) rfl (fun ww => exec_move (by rfl) (by rfl) ww) ?_
          simp only [Act.put, List.setIfInBounds_toArray, List.set_cons_zero, List.set_cons_succ]
          refine inO_take 4 ⟨_, _, _, _, _, _⟩ (.bool false) rfl (by kernel_rfl) (by kernel_rfl) (by kernel_rfl) (fun _ _ _ h => h) rfl (fun ww => by go_simp) ?_
          simp only [Act.put, List.setIfInBounds_toArray, List.set_cons_zero, List.set_cons_succ]
          refine inO_take 5 ⟨_, _, _, _, _, _⟩ (.bool false) rfl (by kernel_rfl) (by kernel_rfl) (by kernel_rfl) (fun _ _ _ h => h) rfl (fun ww => by go_simp) ?_
          simp only [Act.put, List.setIfInBounds_toArray, List.set_cons_zero, List.set_cons_succ]
          refine inO_take 6 ⟨_, _, _, _, _, _⟩ (.bool false) rfl (by kernel_rfl) (by kernel_rfl) (by kernel_rfl) (fun _ _ _ h => h) rfl (fun ww => exec_move (by rfl) (by rfl) ww) ?_
          simp only [Act.put, List.setIfInBounds_toArray, List.set_cons_zero, List.set_cons_succ]
          refine inO_take 7 ⟨_, _, _, _, _, _⟩ (.pointer (some ⟨w5.heap.size, 0, none⟩)) rfl (by kernel_rfl) (by kernel_rfl) (by kernel_rfl) (fun _ _ _ h => h) rfl (fun ww => by go_simp) ?_
          simp only [Act.put, List.setIfInBounds_toArray, List.set_cons_zero, List.set_cons_succ]
          refine inO_load 8 ⟨_, _, _, _, _, _⟩ (.int .i64 (i : Int)) (fun w' => w'.cell? ⟨w5.heap.size, 0, none⟩ = some (.int .i64 (i : Int))) rfl (by kernel_rfl) (by kernel_rfl) (by kernel_rfl) (fun _ _ _ h => h) rfl (.head _) (fun ww hw => by go_simp) ?_
          simp only [Act.put, List.setIfInBounds_toArray, List.set_cons_zero, List.set_cons_succ]
          refine inO_take 9 ⟨_, _, _, _, _, _⟩ (.pointer (some ⟨x6, i, none⟩)) rfl (by kernel_rfl) (by kernel_rfl) (by kernel_rfl) (fun _ _ _ h => h) rfl (fun ww => by go_simp; intro hh; omega) ?_
          simp only [Act.put, List.setIfInBounds_toArray, List.set_cons_zero, List.set_cons_succ]
          refine inO_load 10 ⟨_, _, _, _, _, _⟩ (.bool false) (fun w' => w'.cell? ⟨x6, i, none⟩ = some (.bool false)) rfl (by kernel_rfl) (by kernel_rfl) (by kernel_rfl) (fun _ _ _ h => h) rfl (.tail _ (.head _)) (fun ww hw => by go_simp) ?_
          simp only [Act.put, List.setIfInBounds_toArray, List.set_cons_zero, List.set_cons_succ]
          refine inO_take 11 ⟨_, _, _, _, _, _⟩ (.bool false) rfl (by kernel_rfl) (by kernel_rfl) (by kernel_rfl) (fun _ _ _ h => h) rfl (fun ww => by go_simp) ?_
          simp only [Act.put, List.setIfInBounds_toArray, List.set_cons_zero, List.set_cons_succ]
          refine inO_take 12 ⟨_, _, _, _, _, _⟩ (.bool false) rfl (by kernel_rfl) (by kernel_rfl) (by kernel_rfl) (fun _ _ _ h => h) rfl (fun ww => exec_move (by rfl) (by rfl) ww) ?_
          simp only [Act.put, List.setIfInBounds_toArray, List.set_cons_zero, List.set_cons_succ]
          refine inO_load 13 ⟨_, _, _, _, _, _⟩ (.agg (secL W).toArray) (fun w' => w'.rangeAt (w8.heap.size) (0) (secL W)) rfl (by kernel_rfl) (by kernel_rfl) (by kernel_rfl) (fun _ _ _ h => h) rfl (.tail _ (.tail _ (.head _))) (fun ww hw => exec_load_mid _ _ (by rfl) _ _ (by rfl) _ _ hw Try.underlying23 rfl (infoSecL _)) ?_
          simp only [Act.put, List.setIfInBounds_toArray, List.set_cons_zero, List.set_cons_succ]
          refine inO_take 14 ⟨_, _, _, _, _, _⟩ (.slice bo t.length tc) rfl (by kernel_rfl) (by kernel_rfl) (by kernel_rfl) (fun _ _ _ h => h) rfl (fun ww => exec_move (by rfl) (by rfl) ww) ?_
          simp only [Act.put, List.setIfInBounds_toArray, List.set_cons_zero, List.set_cons_succ]
          refine inO_step 15 ⟨_, _, _, _, _, _⟩ rfl (by kernel_rfl) rfl (fun K hK => ?_)
          refine wp_call Try.func14 (by kernel_rfl) rfl _ _ rfl _ rfl _ (Block_any bo t tc w9.drew (Reads.below hty0.out hP9.out.drew.q) (by omega)) fun e wA h => ?_
          rw [← hW.out] at h
          obtain ⟨rfl, bA⟩ := h
          have hPA := Lib.hid (hP9.out.drew.below bA)
          have lA := Lib.hid (l9.out.drew.below bA)
          refine ⟨_, rfl, ?_⟩
          refine hK _ _ (Keeps.late (by kernel_rfl) (Keeps.late (by kernel_rfl) (Keeps.cons (fun hh => rangeBelow hh bA) (Keeps.nil _ _ _)))) ?_
          clear hK K
          simp only [Act.put, List.setIfInBounds_toArray, List.set_cons_zero, List.set_cons_succ]
          refine inO_take 16 ⟨_, _, _, _, _, _⟩ (.bool false) rfl (by kernel_rfl) (by kernel_rfl) (by kernel_rfl) (fun _ _ _ h => h) rfl (fun ww => by go_simp) ?_
          simp only [Act.put, List.setIfInBounds_toArray, List.set_cons_zero, List.set_cons_succ]
          refine inO_take 17 ⟨_, _, _, _, _, _⟩ (.bool false) rfl (by kernel_rfl) (by kernel_rfl) (by kernel_rfl) (fun _ _ _ h => h) rfl (fun ww => by go_simp) ?_
          simp only [Act.put, List.setIfInBounds_toArray, List.set_cons_zero, List.set_cons_succ]
          refine inO_done (by kernel_rfl) ?_
          clear p0 cx
          have hB := lA.out.rest.rest
          obtain ⟨p0, p1, p2⟩ := PtrAt.cells (p := ⟨(i : Int), 1, sm⟩) lA.out.rest.one
          have cx : wA.cell? ⟨x6, i, none⟩ = some (.bool false) := by rw [hB.one.cell, inL_get _ hi64, hfi]
          have fx := hB.one.frozen i
          have hxl := hB.one.lt
          have hpl := lA.out.rest.one.lt
          dsimp only at p0
          clear p1 p2
          have lS := hB.set (fun x hx => by cases hx) (Kept.cellAt wA x6 i (.bool true)) (hB.one.set i (.bool true))
          rw [inL_set] at lS
          have hPS := Lib.hid (hPA.out.over (Kept.cellAt wA x6 i (.bool true)) (fun i hi e => hB.out (e ▸ hi)) (fun i hi e => by have := hB.low; omega))
          have lS := Lib.hid lS
          clear hB
          go_wp2
          go_roundw
          case rel => exact ⟨k + 1, many + 1, F8, m'', updB f i, by omega, by go_num, by go_num, hPS, hI', lS⟩
          case measure => simp [intOf] <;> omega
    · obtain rfl : k = n := by omega
      clear hlt hk
      have hml := hI.out.le
      by_cases g1 : z < 0
      · go_wp2
        go_ret
        exact ⟨rfl, hP.out.q⟩
      by_cases g2 : 63 < z
      · go_wp2
        go_ret
        exact ⟨rfl, hP.out.q⟩
      obtain ⟨a, rfl⟩ := Int.eq_ofNat_of_zero_le (show 0 ≤ z from by omega)
      have ha : a < 64 := by omega
      clear g1 g2 hz
      have hpe : Hid (m.dev.pending.length ≤ 1000000000) := Lib.hid (by have := hI.out.live.pend; omega)
      have cx : wr.cell? ⟨x6, a, none⟩ = some (.bool (f a)) := by rw [l3.out.one.cell, inL_get _ ha]
      cases hfa : f a with
      | false =>
        have hput := Lib.hid (hI.out.putAt_no ha hfa (bs := [120]) (by decide))
        go_wp2_with fail
        refine (oPutAt (hP.out.at_.alloc _) (a : Int) (by unfold I64; omega) (some ⟨wr.heap.size, 0, none⟩) [120] 1 (by exact Reads.lit wr #[.int .u8 120] 5 (1, 2)) hpe.out).mono ?_
        rw [hput.out]
        dsimp only
        rw [hvz]
        rintro e w5 ⟨rfl, T⟩
        obtain ⟨F5, hP5, k5, g5⟩ := (hP.out.alloc _).turn T
        have hP5 := Lib.hid hP5
        have l5 := Lib.hid ((l3.out.alloc _).turn k5 g5)
        clear T k5 g5 cx
        have cx : w5.cell? ⟨x6, a, none⟩ = some (.bool false) := by rw [l5.out.one.cell, inL_get _ ha, hfa]
        have hxl := l5.out.one.lt
        go_wp2
        go_ret
        exact ⟨by simp, (hP5.out.alloc _).q⟩
      | true =>
        obtain ⟨m', m'', hput, hget⟩ := hI.out.putAt_yes ha hfa (bs := [120]) (by decide)
        have hX : blockS [120] = xS := rfl
        rw [hX] at hput hget
        have hfit : Hid (P3.Fit ⟨(a : Int), 1, sumS xS⟩) := Lib.hid ⟨by unfold I64; dsimp only; omega, by show (1 : Nat) < 18446744073709551616; decide, sumS_lt _⟩
        have hput := Lib.hid hput
        have hget := Lib.hid hget
        clear hX
        generalize sumS xS = sm at *
        go_wp2_with fail
        refine (oPutAt (hP.out.at_.alloc _) (a : Int) (by unfold I64; omega) (some ⟨wr.heap.size, 0, none⟩) [120] 1 (by exact Reads.lit wr #[.int .u8 120] 5 (1, 2)) hpe.out).mono ?_
        rw [hput.out]
        dsimp only
        rw [hv1]
        rintro e w5 ⟨rfl, T⟩
        obtain ⟨F5, hP5, k5, g5⟩ := (hP.out.alloc _).turn T
        have hP5 := Lib.hid hP5
        have l5 := Lib.hid ((l3.out.alloc _).turn k5 g5)
        clear T k5 g5 cx
        have cx : w5.cell? ⟨x6, a, none⟩ = some (.bool true) := by rw [l5.out.one.cell, inL_get _ ha, hfa]
        have hxl := l5.out.one.lt
        have hP6 := Lib.hid (hP5.out.alloc (.cells (p3L ⟨(a : Int), 1, sm⟩).toArray 32))
        have l6 := Lib.hid (l5.out.new hP5.out.at_.lt hP5.out.q.size 32 (p3L ⟨(a : Int), 1, sm⟩))
        go_wp2_with fail
        refine (oGet hP6.out.at_ ⟨(a : Int), 1, sm⟩ hfit.out).mono ?_
        rw [hget.out]
        dsimp only
        rintro e w8 ⟨rfl, T⟩
        obtain ⟨F8, hP8, k8, g8⟩ := hP6.out.turn T
        have hP8 := Lib.hid hP8
        have l8 := Lib.hid (l6.out.turn k8 g8)
        clear T k8 g8 cx hxl
        go_wp2_with (first
          | ((with_reducible refine guardList ?_)
             refine wantList_store (by rfl) 23 _ _ rfl w8.heap.size 0 (by rfl) (secL xS) (by rfl) _ (secL sec0) (secL xS) (Blk.new w8 _ _) (by simp only [secL_length]; decide) (secL_one _) (infoSecL _) wholeS ?_
             intro w9 hR9 k9 z9
             have hP9 := Lib.hid ((hP8.out.alloc _).over k9 (fun i hi e => by have := hP8.out.at_.lt i hi; omega) (fun i hi e => by have := hP8.out.q.size; omega))
             have l9 := Lib.hid (l8.out.fresh hP8.out.at_.lt hP8.out.q.size k9 hR9)
             obtain ⟨p0, p1, p2⟩ := PtrAt.cells (p := ⟨(a : Int), 1, sm⟩) l9.out.rest.one
             have hpl := l9.out.rest.one.lt
             clear hR9 k9 z9 p1 p2)
          | ((with_reducible refine at2Dst (some 117) (by rfl) ?_); refine wantList_load (by rfl) 23 _ rfl w8.heap.size 0 (by rfl) (secL xS) _ (rangeB l9.out.one) Try.underlying23 rfl (infoSecL _) ?_)
          | ((with_reducible refine at2Dst (some 118) (by rfl) ?_); refine wantList_build (by rfl) 23 _ rfl (secL xS) _ (by rfl) built_x ?_))
        go_ret
        exact ⟨by simp, hP9.out.q⟩

theorem own : ownKnob Try.prog.godebug = none := by kernel_rfl
theorem laidOut : laidOutB Try.prog = true := by kernel_rfl

set_option maxRecDepth 100000 in
theorem lifted (os : Os) (started : os.Started) (H : Type) (enc : TypeId × Value → H) :
    ReturnsInHanded {} Try.checked os 6 .any (Rows.pilePutsSpec.pre6 enc Try.prog Try.f6 Rows.pilePutsRow.domain false) (Rows.pilePutsSpec.post enc Try.prog Try.f6 false true false false) := by
  refine returnsInHanded_of_change_sized (C := Try.checked) own started (by kernel_rfl) Try.func6
    (ChangeSpec.witness6 (enc := enc) (C := Try.checked) false ⟨#[], #[.slice none 0 0, .int .i64 0], []⟩ 8 (by kernel_rfl) (by kernel_rfl) (by kernel_rfl) (by kernel_rfl)) ?_
  intro W base args ds gs before hval0 hW hcnd hsz0 _
  have hval : ∀ (j : Nat) t v, Try.f6.params[j]? = some t → args[j]? = some v → Value.okWide Try.prog W .any base t v := hval0
  have hsz : (DataW.weightsEach Try.prog (Try.f6.params.toList ++ Rows.pilePutsSpec.plain.varTypes Try.prog) (ds ++ gs)).all (· ≤ reachBytes) = true := hsz0
  have hW' := hW
  obtain ⟨p, q, hA0, hV, rfl, hfz, hnd⟩ := hW
  have hA : DataW.TrodAll enc Try.prog W 0 (fun _ => true) true Try.f6.params.toList args.toList ds p := hA0
  rw [Try.params6] at hA hval hsz
  obtain ⟨v0, vs0, d0, ds0, p0, q0, hargs, rfl, rfl, h0, r0⟩ := trodAll_cons hA
  obtain ⟨v1, vs1, d1, ds1, p1, q1, rfl, rfl, rfl, h1, r1⟩ := trodAll_cons r0
  obtain ⟨rfl, rfl, rfl⟩ := trodAll_nil r1
  obtain rfl : args = #[v0, v1] := by cases args; simp_all
  obtain ⟨rfl, rfl⟩ := trodVars_none hV
  have k0 := h0
  have lt0 : ∀ x ∈ p0, x.block < W.heap.size := by obtain ⟨m, hm⟩ := k0; exact DataW.trod_lt m _ _ _ hm
  obtain ⟨ao0, a0, cap0, rfl, sp0, fi0, nl0⟩ := arg_textsL h0 (hval 0 35 v0 rfl rfl) (light_arg hsz (j := 0) (t := 35) rfl rfl)
  obtain ⟨a1, rfl, rfl, rfl, wf1⟩ := open_int Try.underlying3 (hval 1 3 v1 rfl rfl) h1
  clear hA0 hval0 hsz0
  refine (walk ao0 a0 cap0 a1 W sp0 fi0 nl0 (wf_i64 wf1)).mono fun e W' ⟨he, bel⟩ => ?_
  subst he
  exact ⟨_, rfl, _, _, _, [], _, [], hW', trodAll_mk1 (shut_bool Try.underlying4 _), (trodAll_cons_mk (Below.trod laidOut (by kernel_rfl) (of_decide_eq_true (by kernel_rfl)) k0 bel lt0) (trodAll_cons_mk (shut_int Try.underlying3 wf1) trodAll_mk0)), rfl, bel.frame _, fun h => by cases h⟩

theorem proved : Rows.PilePutsSaid :=
  OpenClaim.holds_of_wide 6 Try.f6 rfl rfl rfl rfl rfl rfl rfl ⟨rfl, rfl, rfl, rfl, rfl⟩ rfl rfl rfl rfl rfl (by kernel_rfl) Try.func6 (by kernel_rfl)
    (of_decide_eq_true (by kernel_rfl)) (by unfold Func.isWrapper; first | (rw [if_pos (by decide +kernel)]; kernel_rfl) | (rw [if_neg (by decide +kernel)]; exact ⟨rfl, rfl⟩))
    (fun os started H enc _ => lifted os started H enc)
end Go.Proofs.Ytkhjhkiieieogaa.lawPilePuts
