/- Eight pointers as a sector: the document's own Bytes. -/
import Derived.Test.YtkapdagmffbbhaaNodeC
namespace Go.Proofs.Ytkapdagmffbbhaa
open Go.ChangeShapes Go.WideShapes Go.ChangeAt Go.RowKit
set_option linter.unusedVariables false
set_option maxRecDepth 20000

/-- in the midst of it: the box, the zero of the result, the bytes so far -/
structure NRB (w0 w : World) (l : P8) (v : Value) (bs : List UInt8) : Prop where
  u : Blk w w0.heap.size 31 (p8L l)
  z : Blk w (w0.heap.size + 1) 23 (secL sec0)
  q : Below w0.heap.size w0 w
  own : Own w (w0.heap.size + 2) 5 v (bytesV bs)
namespace NRB
variable {w0 w w' : World} {l : P8} {v v' : Value} {bs cs : List UInt8}
theorem base (h : NRB w0 w l v bs) : w0.heap.size + 2 ≤ w.heap.size := h.z.lt
theorem call (h : NRB w0 w l v bs) (hb : Below w.heap.size w w') : NRB w0 w' l v bs := ⟨blk_out h.u hb, blk_out h.z hb, h.q.trans (hb.mono h.q.size), h.own.below hb⟩
theorem app (h : NRB w0 w l v bs) (ho : Own w' (w0.heap.size + 2) 5 v' (bytesV bs ++ bytesV cs)) (hg : Grew w w' v v') : NRB w0 w' l v' (bs ++ cs) := by
  have hb : Below (w0.heap.size + 2) w w' := hg.out h.base (fun g hg' => (h.own.lt g hg').1)
  exact ⟨h.u.below hb (by omega), h.z.below hb (by omega), h.q.trans (hb.mono (by omega)), by rw [bytesV_append]; exact ho⟩
end NRB
theorem nFill {bs : List UInt8} (h : bs.length = 128) {k : Nat} (hk : k < bs.length) : (bytesV (bs.take k ++ List.replicate (128 - k) 0)).set k (byteV bs[k]) = bytesV (bs.take (k + 1) ++ List.replicate (128 - (k + 1)) 0) := by
  have hl : (bs.take k).length = k := by rw [List.length_take]; omega
  have e : List.replicate (128 - k) (0 : UInt8) = 0 :: List.replicate (128 - (k + 1)) 0 := by rw [← List.replicate_succ]; congr 1; omega
  have e2 : (bs.take k ++ List.replicate (128 - k) 0).set k bs[k] = bs.take (k + 1) ++ List.replicate (128 - (k + 1)) 0 := by
    rw [e, List.set_append_right _ _ (by omega), hl, Nat.sub_self, List.set_cons_zero, List.take_succ_eq_append_getElem hk, List.append_assoc]
    rfl
  rw [← e2]
  unfold bytesV
  rw [List.map_set]
theorem nodeB_next (l : P8) {k : Nat} (h : k < 8) : nodeB (l.1.take (k + 1)) = nodeB (l.1.take k) ++ (l.get k).bytes := by
  rw [List.take_succ_eq_append_getElem (l.lt h), nodeB_append, l.get_eq h]
  simp [nodeB]
theorem nodeB_all (l : P8) : nodeB (l.1.take 8) = l.sec.1 := by
  unfold P8.sec
  rw [nodeS_val l.2, List.take_of_length_le (by rw [l.2]; omega)]

set_option maxHeartbeats 8000000 in
theorem rnBytes_any (l : P8) (w : World) (hf : l.Fit) :
    Calls Try.prog 12 #[.agg (p8L l).toArray] w (NSRes 51 l.secO w) := by
  obtain ⟨i0, hi, hz0, hz1, hz2⟩ := info_parts infoU8
  obtain ⟨wb, hwb⟩ : ∃ wb : World, Hid (wb = ((w.alloc (.cells (p8L l).toArray 31)).alloc (.cells (secL sec0).toArray 23)).alloc (.cells #[] 5)) := ⟨_, Lib.hid rfl⟩
  have H0 : Hid (NRB w wb l (.slice (some ⟨w.heap.size + 2, 0, none⟩) 0 0) (nodeB (l.1.take 0))) := Lib.hid (by
    rw [hwb.out]
    refine ⟨((Blk.new w _ _).alloc _).alloc _, (two_new w _ _ _).alloc _, (two_below w _ _).alloc (by simp; omega) _, ?_⟩
    have := Own.made ((w.alloc (.cells (p8L l).toArray 31)).alloc (.cells (secL sec0).toArray 23)) #[] 0 (base := w.heap.size + 2) (e := 5) (by simp) (by decide) rfl
    rw [show ((w.alloc (.cells (p8L l).toArray 31)).alloc (.cells (secL sec0).toArray 23)).heap.size = w.heap.size + 2 from by simp] at this
    exact this)
  have hB : Hid (∀ k : Nat, k < 8 → ∀ W : World, Calls Try.prog 21 #[p3V (l.get k)] W (BRes 51 (l.get k).bytesO W)) := Lib.hid fun k hk W => pRefBytes_any _ _ _ W (P8.get_fit hf hk)
  have hr : Hid (∀ k : Nat, k < 8 → rightUpto l (k + 1) = (rightUpto l k && (l.get k).rightB)) := Lib.hid fun k hk => rightUpto_succ l hk
  have hno : Hid (∀ k : Nat, k < 8 → (l.get k).rightB = false → l.secO = none) := Lib.hid fun k hk h => by unfold P8.secO; rw [right_no hk h]; rfl
  have hyes : Hid (rightUpto l 8 = true → l.secO = some l.sec) := Lib.hid fun h => by unfold P8.secO; rw [← rightUpto_eight l, h]; rfl
  have hst : Hid (∀ k : Nat, k < 8 → nodeB (l.1.take (k + 1)) = nodeB (l.1.take k) ++ (l.get k).bytes) := Lib.hid fun k hk => nodeB_next l hk
  have h8 : Hid (nodeB (l.1.take 8) = l.sec.1) := Lib.hid (nodeB_all l)
  have hln : Hid (∀ k : Nat, k ≤ 8 → (nodeB (l.1.take k)).length = 16 * k) := Lib.hid fun k hk => nodeB_take l hk
  have hr0 : Hid (rightUpto l 0 = true) := Lib.hid rfl
  have hz := zeroSec
  generalize l.secO = O at *
  generalize l.sec = S at *
  have hsl := Lib.hid S.2
  go_enter Try.func12, Try.ntmps12
  go_upto_region 2 with (fail)
  rw [← hwb.out]
  go_wp2
  go_loopw [4, 5] (fun v i wr => ∃ k : Nat, k ≤ 8 ∧ i = .int .i64 k ∧ Hid (rightUpto l k = true) ∧ Hid (NRB w wr l v (nodeB (l.1.take k))))
    (fun _ i _ => 8 - (intOf i).toNat)
  case atStart => exact ⟨0, by omega, rfl, hr0, H0⟩
  case round =>
    clear H0 hwb
    obtain ⟨k, hk, rfl, hR, H⟩ := hrel
    by_cases hlt : k < 8
    · have hB1 := hB.out k hlt
      have hr1 := hr.out k hlt
      have hno1 := hno.out k hlt
      have hst1 := Lib.hid (hst.out k hlt)
      have hln1 := Lib.hid (hln.out k (by omega))
      have hrw : rightUpto l (k + 1) = (l.get k).rightB := by rw [hr1, hR.out, Bool.true_and]
      clear hr1
      have hbl : Hid ((l.get k).bytes.length = 16) := Lib.hid (P3.bytes_length _)
      obtain ⟨c0, c1, c2⟩ := p8_cells H.out.u hlt
      have hl0 := H.out.base
      generalize l.get k = qq at *
      have hbo : qq.bytesO = if qq.rightB then some qq.bytes else none := rfl
      generalize qq.rightB = rb at *
      generalize qq.bytes = BS at *
      generalize qq.bytesO = BO at *
      obtain ⟨a, b, s⟩ := qq
      unfold p3V at hB1
      dsimp only at hB1 c0 c1 c2
      have hB1 := Lib.hid hB1
      cases rb with
      | false =>
        obtain rfl : BO = none := hbo
        obtain rfl : O = none := hno1 rfl
        clear hrw
        go_wp2_with fail
        refine (hB1.out _).mono ?_
        intro e w2 hR2
        obtain ⟨ao, cap, rfl, _, _, b2⟩ := hR2.nope rfl
        have H2 := Lib.hid (H.out.call b2)
        clear b2 hR2
        go_wp2_with (first
          | ((with_reducible refine guardList ?_); refine wantList_build (by rfl) 23 [] rfl (secL sec0) _ (by rfl) built_sec0 ?_)
          | ((with_reducible refine guardList ?_)
             refine wantList_store (by rfl) 23 _ _ rfl (w.heap.size + 1) 0 (by rfl) (secL sec0) (by rfl) _ (secL sec0) (secL sec0) H2.out.z (by simp only [secL_length]; decide) (secL_one _) (infoSecL _) wholeSn ?_
             intro w5 hR5 k5 z5
             have hR5 := Lib.hid hR5
             have q5 := Lib.hid (Kept.out H2.out.q k5 (fun i _ e => by omega) H2.out.q.size)
             clear z5 k5))
        refine bodyPost_ret (results_row_tmp rfl (rowSn hR5.out)) rfl ⟨rfl, q5.out⟩
      | true =>
        obtain rfl : BO = some BS := hbo
        have hrw := Lib.hid hrw
        clear hno1
        go_wp2_with fail
        refine (hB1.out _).mono ?_
        intro e w2 hR2
        obtain ⟨ao, cap, rfl, hrd, hc1, hc2, hnil, b2⟩ := hR2.yes rfl (m := 16) hbl.out
        have H2 := Lib.hid (H.out.call b2)
        have hb2 := H2.out.base
        clear b2 hR2 c0 c1 c2
        go_wp2_with (first
          | (at_builtin
             refine wpList_own_app rfl (.tmp 25) (.tmp 26) 46 rfl (w.heap.size + 2) 5 i0 (.int .u8 0) 1 Try.underlying46 hi hz0 hz1 hz2 rfl _ (bytesV (nodeB (l.1.take k))) w2 rfl H2.out.own ao 16 cap (bytesV BS) rfl hnil.out (by rw [bytesV_length]; exact hbl.out) hrd.out (bytesV_one _) (by rw [bytesV_length, hln1.out]; omega) (by rw [bytesV_length, hln1.out]; omega) hb2 ?_
             intro v2 w4 ho hg
             have H4 : Hid (NRB w w4 l v2 (nodeB (l.1.take (k + 1)))) := Lib.hid (by rw [hst1.out]; exact H2.out.app ho hg)
             clear ho hg))
        go_roundw
        case rel => exact ⟨k + 1, by omega, by go_num, hrw, H4⟩
        case measure => simp [intOf] <;> omega
    · obtain rfl : k = 8 := by omega
      obtain rfl : O = some S := hyes.out hR.out
      obtain ⟨w8, rfl⟩ : ∃ w8, w8 = wr := ⟨wr, rfl⟩
      have H8 : Hid (NRB w w8 l u4 S.1) := Lib.hid (by rw [← h8.out]; exact H.out)
      clear H hlt hk hR
      have ⟨g8, cap8, e8, f8⟩ := H8.out.own.open (by rw [bytesV_length, hsl.out]; decide)
      rw [bytesV_length, hsl.out] at e8
      subst e8
      obtain ⟨f8a, f8b, _⟩ := f8
      have hbase8 := H8.out.base
      go_wp2_with (first
        | ((with_reducible refine guardList ?_); refine wantList_build (by rfl) 23 [] rfl (secL sec0) _ (by rfl) built_sec0 ?_)
        | ((with_reducible refine guardList ?_)
           refine wantList_store (by rfl) 23 _ _ rfl w8.heap.size 0 (by rfl) (secL sec0) (by rfl) _ (secL sec0) (secL sec0) (Blk.new w8 23 (secL sec0)) (by simp only [secL_length]; decide) (secL_one _) (infoSecL _) wholeSn ?_
           intro w9 b9 k9 z9
           have k9' : Kept (· = w8.heap.size) w8 w9 := (Kept.of_alloc _ w8 _).trans k9
           have b9 := Lib.hid b9
           have k9 := Lib.hid k9'
           clear k9' z9))
      go_loopw [9] (fun i wx => ∃ k : Nat, k ≤ 128 ∧ i = .int .i64 k ∧ Hid (Blk wx w8.heap.size 23 (bytesV (S.1.take k ++ List.replicate (128 - k) 0))) ∧ Hid (Kept (· = w8.heap.size) w8 wx))
        (fun i _ => 128 - (intOf i).toNat)
      case atStart => exact ⟨0, by omega, rfl, b9, k9⟩
      case round =>
        clear b9 k9
        obtain ⟨k, hk, rfl, hb, hkp⟩ := hrel
        have hs8 : w8.heap.size < wr.heap.size := hb.out.lt
        by_cases hlt : k < 128
        · have hkS : k < S.1.length := by rw [hsl.out]; exact hlt
          have hcb : wr.cell? ⟨g8, k, none⟩ = some (byteV S.1[k]) := by
            refine (hkp.out.cell (p := ⟨g8, k, none⟩) f8b (by show ¬ g8 = _; omega)).trans ?_
            rw [H8.out.own.cell (j := k) (by rw [bytesV_length]; exact hkS)]
            simp [bytesV]
          obtain ⟨y8, hy8⟩ : ∃ y8 : Int, Hid (byteV S.1[k] = .int .u8 y8) := ⟨_, Lib.hid rfl⟩
          rw [hy8.out] at hcb
          obtain ⟨old, hcs⟩ : ∃ old, wr.cell? ⟨w8.heap.size, k, none⟩ = some old := by
            rw [hb.out.cell]
            exact ⟨_, List.getElem?_eq_getElem (by rw [bytesV_length, List.length_append, List.length_replicate, List.length_take, hsl.out]; omega)⟩
          have hfz : wr.frozen? ⟨w8.heap.size, k, none⟩ = false := hb.out.frozen k
          have hb2 : Hid (Blk (wr.setCell ⟨w8.heap.size, k, none⟩ (.int .u8 y8)) w8.heap.size 23 (bytesV (S.1.take (k + 1) ++ List.replicate (128 - (k + 1)) 0))) := Lib.hid (by
            rw [← hy8.out, ← nFill hsl.out hkS]
            exact hb.out.set k _)
          have hk2 : Hid (Kept (· = w8.heap.size) w8 (wr.setCell ⟨w8.heap.size, k, none⟩ (.int .u8 y8))) := Lib.hid (hkp.out.setCell (p := ⟨w8.heap.size, k, none⟩) rfl _)
          clear hy8
          go_wp2
          go_roundw
          case rel => first | exact ⟨k + 1, by omega, by go_num, hb2, hk2⟩ | ((repeat apply Exists.intro); exact ⟨⟨k + 1, by omega, by go_num, hb2, hk2⟩, rfl⟩)
          case measure => simp [intOf] <;> omega
        · obtain rfl : k = 128 := by omega
          have hb2 : Hid (Blk wr w8.heap.size 23 (secL S)) := Lib.hid (by
            have := hb.out
            rw [List.take_of_length_le (by rw [hsl.out]; exact Nat.le_refl _), Nat.sub_self, show List.replicate 0 (0 : UInt8) = [] from rfl, List.append_nil] at this
            exact this)
          have hZ9 := Lib.hid (H8.out.z.kept hkp.out (by show ¬ w.heap.size + 1 = _; omega))
          have q9 := Lib.hid (Kept.out H8.out.q hkp.out (fun i _ e => by omega) (by omega))
          have hSl := Lib.hid (secL_length S)
          clear hb hkp hlt hk H8
          go_wp2_with (first
            | ((with_reducible refine guardList ?_); refine wantList_load (by rfl) 23 _ rfl w8.heap.size 0 (by rfl) (secL S) _ (rangeN hb2.out) Try.underlying23 rfl (infoSecL _) ?_)
            | ((with_reducible refine guardList ?_)
               refine wantList_store (by rfl) 23 _ _ rfl (w.heap.size + 1) 0 (by rfl) (secL S) (by rfl) _ (secL sec0) (secL S) hZ9.out (by simp only [secL_length]; decide) (secL_one _) (infoSecL _) wholeSn ?_
               intro w11 hZ k11 z11
               have hZ := Lib.hid hZ
               have q11 := Lib.hid (Kept.out q9.out k11 (fun i _ e => by omega) q9.out.size)
               clear k11 z11))
          refine bodyPost_ret (results_row_tmp rfl (rowSn hZ.out)) rfl ⟨rfl, q11.out⟩
end Go.Proofs.Ytkapdagmffbbhaa
