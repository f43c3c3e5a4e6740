/- The eight pointers of a sector: the document's own Read. -/
import Derived.Test.YtkapdagmffbbhaaNodeE
namespace Go.Proofs.Ytkapdagmffbbhaa
open Go.ChangeShapes Go.WideShapes Go.ChangeAt Go.RowKit
set_option linter.unusedVariables false
set_option maxRecDepth 20000

set_option maxHeartbeats 4000000 in
theorem rnRead_any (s : Sec) (w : World) :
    Calls Try.prog 17 #[.agg (secL s).toArray] w (NRRes 51 (nodeRP s) w) := by
  obtain ⟨i0, hi, hz0, hz1, hz2⟩ := info_parts infoU8
  obtain ⟨wa, hwa⟩ : ∃ wa : World, Hid (wa = (w.alloc (.cells (secL s).toArray 23)).alloc (.cells (p8L holesP).toArray 31)) := ⟨_, Lib.hid rfl⟩
  have hza : Hid (wa.heap.size = w.heap.size + 2) := Lib.hid (by rw [hwa.out]; simp)
  have H0 : Hid (NR w (wa.alloc (.cells (p8L holesP).toArray 31)) s (readUp s 0)) := Lib.hid (by rw [hwa.out]; exact NR.first s w)
  have hO : Hid (∀ k : Nat, k < 8 → p3O (part16 s.1 k) = if ((nodeP s).get k).rightB = true then some ((nodeP s).get k) else none) := Lib.hid fun k hk => nodeP_O s hk
  have hP : Hid (∀ k : Nat, k < 8 → (part16 s.1 k).length = 16) := Lib.hid fun k hk => part_len s hk
  have hr : Hid (∀ k : Nat, k < 8 → rightUpto (nodeP s) (k + 1) = (rightUpto (nodeP s) k && ((nodeP s).get k).rightB)) := Lib.hid fun k hk => rightUpto_succ _ hk
  have hno : Hid (∀ k : Nat, k < 8 → ((nodeP s).get k).rightB = false → nodeRP s = none) := Lib.hid fun k hk h => by unfold nodeRP; rw [right_no hk h]; rfl
  have hyes : Hid (rightUpto (nodeP s) 8 = true → nodeRP s = some (nodeP s)) := Lib.hid fun h => by unfold nodeRP; rw [← rightUpto_eight, h]; rfl
  have hst : Hid (∀ k : Nat, k < 8 → p8L (readUp s (k + 1)) = (p8L (readUp s k)).take (k * 3) ++ p3L ((nodeP s).get k) ++ (p8L (readUp s k)).drop (k * 3 + (p3L ((nodeP s).get k)).length)) := Lib.hid fun k hk => readUp_step s hk
  have h8 : Hid (readUp s 8 = nodeP s) := Lib.hid (readUp_eight s)
  have hr0 : Hid (rightUpto (nodeP s) 0 = true) := Lib.hid rfl
  have hz := zeroP8
  generalize nodeRP s = O at *
  generalize nodeP s = N at *
  go_enter Try.func17, Try.ntmps17
  go_upto_region 1 with (fail)
  rw [← hwa.out]
  go_wp2_with (first
    | ((with_reducible refine guardList ?_); refine wantList_build (by rfl) 31 [] rfl (p8L holesP) _ (by rfl) builtP8 ?_)
    | ((with_reducible refine guardList ?_)
       refine wantList_store (by rfl) 31 _ _ rfl wa.heap.size 0 (by rfl) (p8L holesP) (by rfl) _ (p8L holesP) (p8L holesP) (Blk.new wa 31 (p8L holesP)) (by simp only [p8L_length]; decide) (p8L_one _) (infoP8 _) wholeP8 ?_
       intro wb hRb kb zb
       have H1 : Hid (NR w wb s (readUp s 0)) := Lib.hid (by
         rw [hza.out] at hRb kb
         exact H0.out.lay kb hRb)
       clear zb kb hRb))
  rw [hza.out]
  go_loopw [5] (fun i wr => ∃ k : Nat, k ≤ 8 ∧ i = .int .i64 k ∧ Hid (rightUpto N k = true) ∧ Hid (NR w wr s (readUp s k)))
    (fun i _ => 8 - (intOf i).toNat)
  case atStart => exact ⟨0, by omega, rfl, hr0, H1⟩
  case round =>
    clear H0 H1 hwa
    obtain ⟨k, hk, rfl, hR, H⟩ := hrel
    by_cases hlt : k < 8
    · have hr1 := hr.out k hlt
      have hno1 := hno.out k hlt
      have hst1 := hst.out k hlt
      have hO1 := hO.out k hlt
      have hP1 := Lib.hid (hP.out k hlt)
      have hrw : rightUpto N (k + 1) = (N.get k).rightB := by rw [hr1, hR.out, Bool.true_and]
      clear hr1
      generalize N.get k = qq at *
      generalize hrb : qq.rightB = rb at *
      have hcut := fun W => cutSec_lh w.heap.size hlt (16 * (k : Int)) (16 * (k : Int) + 16) (by omega) (by omega) W
      have hgs := H.out.lt
      cases rb with
      | false =>
        obtain rfl : O = none := hno1 rfl
        have hO2 : Hid (p3O (part16 s.1 k) = none) := Lib.hid (by rw [hO1]; rfl)
        clear hrw hst1 hO1 hno1 hrb
        go_wp2_with (first
          | (at_builtin
             refine wpList_copy rfl (.tmp 14) (.tmp 20) 46 rfl 5 i0 (.int .u8 0) 1 Try.underlying46 hi hz0 hz1 hz2 rfl wr (by rfl) (some ⟨w.heap.size, 16 * k, none⟩) 16 (128 - 16 * k) (bytesV (part16 s.1 k)) (by rfl) (fun h => by cases h) (by rw [bytesV_length]; exact hP1.out) (nPart H.out.u k) (bytesV_one _) (by decide) (by decide) ?_
             intro co cc w1 ho1 hc1 hc2 hc3 b1
             have H1 := Lib.hid (H.out.call b1)
             have ho1 := Lib.hid ho1.reads
             clear b1 hc3))
        refine (nRefRead16 co cc (part16 s.1 k) hP1.out _ ho1.out hc1 hc2).mono ?_
        rw [hO2.out]
        intro e w2 hR2
        obtain ⟨rfl, b2⟩ := RRes.nope hR2 rfl
        have H2 := Lib.hid ((H1.out.call b2).alloc (.cells #[.int .i64 0, .int .u64 0, .int .u32 0] 30))
        clear b2 hcut hR2
        go_wp2_with (first
          | ((with_reducible refine guardList ?_); refine wantList_build (by rfl) 31 [] rfl (p8L holesP) _ (by rfl) builtP8 ?_)
          | ((with_reducible refine guardList ?_)
             refine wantList_store (by rfl) 31 _ _ rfl (w.heap.size + 1) 0 (by rfl) (p8L holesP) (by rfl) _ (p8L holesP) (p8L holesP) H2.out.z (by simp only [p8L_length]; decide) (p8L_one _) (infoP8 _) wholeP8 ?_
             intro w5 hR5 k5 z5
             have hR5 := Lib.hid hR5
             have q5 := Lib.hid (Kept.out H2.out.q k5 (fun i _ e => by omega) H2.out.q.size)
             clear z5 k5))
        refine bodyPost_ret (results_row_tmp rfl (rowP8 hR5.out)) rfl ⟨rfl, q5.out⟩
      | true =>
        have hrw := Lib.hid hrw
        have hO2 : Hid (p3O (part16 s.1 k) = some qq) := Lib.hid (by rw [hO1]; rfl)
        obtain ⟨a, b, sm⟩ := qq
        have hst1 := Lib.hid hst1
        clear hno1 hO1 hrb
        go_wp2_with (first
          | (at_builtin
             refine wpList_copy rfl (.tmp 14) (.tmp 20) 46 rfl 5 i0 (.int .u8 0) 1 Try.underlying46 hi hz0 hz1 hz2 rfl wr (by rfl) (some ⟨w.heap.size, 16 * k, none⟩) 16 (128 - 16 * k) (bytesV (part16 s.1 k)) (by rfl) (fun h => by cases h) (by rw [bytesV_length]; exact hP1.out) (nPart H.out.u k) (bytesV_one _) (by decide) (by decide) ?_
             intro co cc w1 ho1 hc1 hc2 hc3 b1
             have H1 := Lib.hid (H.out.call b1)
             have ho1 := Lib.hid ho1.reads
             clear b1 hc3))
        refine (nRefRead16 co cc (part16 s.1 k) hP1.out _ ho1.out hc1 hc2).mono ?_
        rw [hO2.out]
        intro e w2 hR2
        obtain ⟨rfl, b2⟩ := RRes.yes hR2 rfl
        dsimp only
        have H2 := Lib.hid ((H1.out.call b2).alloc (.cells #[.int .i64 a, .int .u64 (b : Int), .int .u32 (sm : Int)] 30))
        have hg2 := (H1.out.call b2).lt
        clear b2 hcut hR2
        go_wp2_with (first
          | ((with_reducible refine guardList ?_)
             refine wantList_store (by rfl) 30 _ _ rfl (w.heap.size + 2) (k * 3) (by rfl) (p3L ⟨a, b, sm⟩) (by rfl) _ (p8L (readUp s k)) (p8L (readUp s (k + 1))) H2.out.a (by simp only [p8L_length, p3L_length]; omega) (p3L_one _) (infoPtr _) hst1.out ?_
             intro w5 hR5 k5 z5
             have H5 := Lib.hid (H2.out.lay k5 hR5)
             clear z5 k5 hR5))
        go_roundw
        case rel => exact ⟨k + 1, by omega, by go_num, hrw, H5⟩
        case measure => simp [intOf] <;> omega
    · obtain rfl : k = 8 := by omega
      obtain rfl : O = some N := hyes.out hR.out
      rw [h8.out] at H
      go_wp2_with (first
        | ((with_reducible refine guardList ?_); refine wantList_load (by rfl) 31 _ rfl (w.heap.size + 2) 0 (by rfl) (p8L N) _ (rangeN H.out.a) Try.underlying31 rfl (infoP8 _) ?_)
        | ((with_reducible refine guardList ?_)
           refine wantList_store (by rfl) 31 _ _ rfl (w.heap.size + 1) 0 (by rfl) (p8L N) (by rfl) _ (p8L holesP) (p8L N) H.out.z (by simp only [p8L_length]; decide) (p8L_one _) (infoP8 _) wholeP8 ?_
           intro w5 hR5 k5 z5
           have hR5 := Lib.hid hR5
           have q5 := Lib.hid (Kept.out H.out.q k5 (fun i _ e => by omega) H.out.q.size)
           clear z5 k5))
      refine bodyPost_ret (results_row_tmp rfl (rowP8 hR5.out)) rfl ⟨rfl, q5.out⟩
end Go.Proofs.Ytkapdagmffbbhaa
