/- The document's own device: Rot. -/
import Derived.Test.YtfpacnokecfhmaaRefK
namespace Go.Proofs.Ytfpacnokecfhmaa
open Go.ChangeShapes Go.WideShapes Go.ChangeAt Go.RowKit
set_option linter.unusedVariables false

theorem wr_put (p : Nat × Sec) (s : Sec) : wrL (p.1, s) = (wrL p).take 1 ++ secL s ++ (wrL p).drop (1 + (secL s).length) := by
  rw [secL_length, List.drop_of_length_le (by rw [wrL_length]; omega)]
  simp [wrL]

/-- what stands while the pending writes are gone through -/
structure RotS (X g : Nat) (V Z : List Value) (s : Sec) (G : List Value) (W : World) : Prop where
  hB : Blk W X 30 V
  hS : Blk W (X + 1) 33 (secL s)
  hR : Blk W (X + 2) 30 Z
  hG : Blk W g 33 G
theorem RotS.kept {X g : Nat} {V Z : List Value} {s : Sec} {G : List Value} {W W' : World} {F : Nat → Prop} (h : RotS X g V Z s G W) (k : Kept F W W') (n0 : ¬ F X) (n1 : ¬ F (X + 1)) (n2 : ¬ F (X + 2)) (n3 : ¬ F g) : RotS X g V Z s G W' :=
  ⟨h.hB.kept k n0, h.hS.kept k n1, h.hR.kept k n2, h.hG.kept k n3⟩
theorem RotS.alloc {X g : Nat} {V Z : List Value} {s : Sec} {G : List Value} {W : World} (h : RotS X g V Z s G W) (o : Obj) : RotS X g V Z s G (W.alloc o) := ⟨h.hB.alloc o, h.hS.alloc o, h.hR.alloc o, h.hG.alloc o⟩

set_option maxRecDepth 100000 in
set_option maxHeartbeats 4000000 in
theorem rRot_in (so : Option Addr) (st : List Sec) (n sc : Nat) (hn : Hid (st.length = n)) (hsn : so = none → sc = 0) (po : Option Addr) (ps : List (Nat × Sec)) (np pc : Nat) (hnp : Hid (ps.length = np)) (ops f : Int) (dd : Bool)
    (hle : n ≤ 1024) (hlp : np ≤ 1000000000) (i : Nat) (hi : i < n) (s : Sec) (w : World) (hr : Reads w so (rowsL secL st)) (hps : Reads w po (rowsL wrL ps)) (ps' : List (Nat × Sec)) (hps' : Hid (ps' = ps.map fun p => (p.1, if p.1 = i then s else p.2))) :
    Calls Try.prog 24 #[.agg #[.slice so n sc, .slice po np pc, .int .i64 ops, .int .i64 f, .bool dd], .int .i64 (i : Int), .agg (secL s).toArray] w fun e w' => ∃ so' sc' po' pc',
      e = .returned (.tuple #[.agg (devL so' n sc' po' np pc' ops f dd).toArray, .int .i64 0]) ∧ Reads w' so' (rowsL secL (st.set i s)) ∧ n ≤ sc' ∧ (so' = none → sc' = 0) ∧ (∀ a, so' = some a → w.heap.size ≤ a.block) ∧
        Reads w' po' (rowsL wrL ps') ∧ np ≤ pc' ∧ (po' = none → pc' = 0) ∧ (∀ a, po' = some a → w.heap.size ≤ a.block) ∧ Below w.heap.size w w' := by
  have hzw := zeroRw
  have ht := There_any so n sc (.slice po np pc) (.int .i64 ops) (.int .i64 f) (.bool dd) (i : Int) (by unfold I64; omega) hle
  rw [show (decide (0 ≤ (i : Int)) && decide ((i : Int) < (n : Int))) = true from by simp; omega] at ht
  have ht := Lib.hid ht
  have hr := Lib.hid hr
  have hps := Lib.hid hps
  have hsn := Lib.hid hsn
  obtain ⟨i0, hi0, hz0, hz1, hz2⟩ := info_parts infoRw3
  have hi0 := Lib.hid hi0
  have hz0 := Lib.hid hz0
  have hz1 := Lib.hid hz1
  have hz2 := Lib.hid hz2
  have j0 : (0 : Int) ≤ (i : Int) := by omega
  have j1 : (i : Int) < (n : Int) := by omega
  go_enter Try.func24, Try.ntmps24
  go_wp2_with fail
  refine (ht.out _).mono ?_
  rintro e w1 ⟨rfl, b1⟩
  have hB1 := blk_out (((Blk.new w 30 (devL so n sc po np pc ops f dd)).alloc _).alloc _) b1
  have hS1 := Lib.hid (blk_out ((two_new w _ 33 (secL s)).alloc _) b1)
  have hR1 := blk_out (three_at w _ _ 30 (devL none 0 0 none 0 0 0 0 false)) b1
  have q1 := Lib.hid ((three_below w _ _ _).trans (b1.mono (by simp; omega)))
  have c0 : w1.cell? ⟨w.heap.size, 0, none⟩ = some (.slice so n sc) := (hB1.cell 0).trans rfl
  have hl1 := hB1.lt
  have hRl := Lib.hid hR1.lt
  have hB1 := Lib.hid hB1
  have hR1 := Lib.hid hR1
  clear b1
  go_upto_region 4 with (first
  | (at_builtin
     refine wpList_copySecs rfl _ _ rfl w1 (by rfl) so n sc st (by rfl) hsn.out hn.out (hr.out.below q1.out) (by omega) ?_
     intro co cc w2 ho b1 b2 b3
     have hB2 := Lib.hid (blk_out hB1.out b3)
     have hS2 := Lib.hid (blk_out hS1.out b3)
     have hR2 := Lib.hid (blk_out hR1.out b3)
     have q2 := Lib.hid (q1.out.trans (b3.mono q1.out.size))
     obtain ⟨g, tail, rfl, hgb, hG, hback⟩ := owns_open (owns_low ho (show w.heap.size + 3 ≤ w1.heap.size from hRl.out)) hn.out (by omega)
     have hlen : i * 128 + (secL s).length ≤ (rowsL secL st ++ tail).length := by
       have h2 : (i + 1) * 128 ≤ st.length * 128 := Nat.mul_le_mul_right _ (by rw [hn.out]; exact hi)
       rw [List.length_append, rowsL_length secL_length, secL_length]; omega
     have hlen := Lib.hid hlen
     have b1 := Lib.hid b1
     have hgb := Lib.hid hgb
     have hG := Lib.hid hG
     have hback := Lib.hid hback
     have hs2 := Lib.hid b3.size
     clear b2 b3 ho c0))
  go_upto_region 5 with (first
  | ((with_reducible refine guardList ?_); refine wantList_load (by rfl) 33 _ rfl (w.heap.size + 1) 0 (by rfl) (secL s) _ (range_dev hS2.out) Try.underlying33 rfl (infoSecL _) ?_)
  | ((with_reducible refine guardList ?_)
     refine wantList_store (by rfl) 33 _ _ rfl g (i * 128) (by rfl) (secL s) (by rfl) _ _ _ hG.out hlen.out (secL_one _) (infoSecL _) (rows_put st tail i (by rw [hn.out]; exact hi) s) ?_
     intro w3 hG3 k3 z3
     have hG3 := Lib.hid hG3
     have hB3 := hB2.out.kept k3 (fun e => by have := hgb.out; omega)
     have hS3 := Lib.hid (hS2.out.kept k3 (fun e => by have := hgb.out; omega))
     have hR3 := Lib.hid (hR2.out.kept k3 (fun e => by have := hgb.out; omega))
     have q3 := Lib.hid (Kept.out q2.out k3 (fun i _ e => by have := hgb.out; omega) q2.out.size)
     have c0 : w3.cell? ⟨w.heap.size, 0, none⟩ = some (.slice so n sc) := (hB3.cell 0).trans rfl
     have f0 := hB3.frozen 0
     have hB3 := Lib.hid hB3
     clear k3 z3))
  go_upto_region 6 with (fail)
  obtain ⟨w4, hw4⟩ : ∃ w4 : World, Hid (w4 = w3.setCell ⟨w.heap.size, 0, none⟩ (.slice (some ⟨g, 0, none⟩) n cc)) := ⟨_, Lib.hid rfl⟩
  rw [← hw4.out]
  have k4 : Kept (· = w.heap.size) w3 w4 := by rw [hw4.out]; exact Kept.cellAt w3 w.heap.size 0 _
  have hB4 : Blk w4 w.heap.size 30 (devL (some ⟨g, 0, none⟩) n cc po np pc ops f dd) := by rw [hw4.out]; exact hB3.out.set 0 (.slice (some ⟨g, 0, none⟩) n cc)
  have hT4 : RotS w.heap.size g (devL (some ⟨g, 0, none⟩) n cc po np pc ops f dd) (devL none 0 0 none 0 0 0 0 false) s (rowsL secL (st.set i s) ++ tail) w4 := ⟨hB4, hS3.out.kept k4 (by omega), hR3.out.kept k4 (by omega), hG3.out.kept k4 (by have := hgb.out; omega)⟩
  have q4 := Lib.hid (Kept.out q3.out k4 (fun i _ e => by omega) q3.out.size)
  have c1 : w4.cell? ⟨w.heap.size, 1, none⟩ = some (.slice po np pc) := (hB4.cell 1).trans rfl
  have hl4 := hB4.lt
  have hl4' := hT4.hR.lt
  have hv4 := Lib.hid (World.ownsRow_made (e := 66) (size := 129) w4 #[] 0 (show w.heap.size + 3 ≤ w4.heap.size from hl4') (by decide) (by simp))
  have hT4 := Lib.hid (hT4.alloc (.cells #[] 66))
  have q4' := Lib.hid (q4.out.alloc q4.out.size (.cells #[] 66))
  clear c0 f0 k4 hB4
  go_upto_region 8 with (fail)
  go_loopw [9, 31] (fun v j wr => ∃ (k : Nat) (vo : Option Addr) (vc : Nat) (qs : List (Nat × Sec)), k ≤ np ∧ v = .slice vo k vc ∧ j = .int .i64 k ∧ Hid (qs = (ps.take k).map fun p => (p.1, if p.1 = i then s else p.2)) ∧ Hid (wr.ownsRow (w.heap.size + 3) 66 129 (.slice vo k vc) k (rowsL wrL qs)) ∧ Hid (RotS w.heap.size g (devL (some ⟨g, 0, none⟩) n cc po np pc ops f dd) (devL none 0 0 none 0 0 0 0 false) s (rowsL secL (st.set i s) ++ tail) wr) ∧ Hid (Below w.heap.size w wr))
    (fun v j _ => np - (intOf j).toNat)
  case atStart => exact ⟨0, some ⟨w4.heap.size, 0, none⟩, 0, [], by omega, rfl, rfl, Lib.hid rfl, hv4, hT4, q4'⟩
  case round =>
    clear hv4 hT4 q4' c1
    obtain ⟨k, vo, vc, qs, hk', rfl, rfl, hqs, hv, hT, hb⟩ := hrel
    have hbs := hb.out.size
    by_cases hlt : k < np
    · obtain ⟨b, off, rfl, hbb, hrow⟩ := (hps.out.below hb.out).rangeRow wrL_length (by omega) (k := k) (by rw [hnp.out]; exact hlt)
      obtain ⟨p, hpk⟩ : ∃ p : Nat × Sec, Hid (p = ps[k]'(by rw [hnp.out]; exact hlt)) := ⟨_, Lib.hid rfl⟩
      rw [← hpk.out] at hrow
      have hrow := Lib.hid hrow
      have l0 := hT.out.hB.lt
      have l1 := hT.out.hS.lt
      have l2 := hT.out.hR.lt
      have l3 := hT.out.hG.lt
      have i0' : (0 : Int) ≤ (k : Int) := by omega
      have i1 : (k : Int) < (np : Int) := by omega
      have hstep : Hid (∀ y : Sec, y = (if p.1 = i then s else p.2) → (ps.take (k + 1)).map (fun p => (p.1, if p.1 = i then s else p.2)) = qs ++ [(p.1, y)]) := Lib.hid fun y hy => by
        rw [List.take_succ_eq_append_getElem (by rw [hnp.out]; exact hlt), List.map_append, ← hqs.out, ← hpk.out, hy]; rfl
      by_cases he : p.1 = i
      · have e1 : ((p.1 : Int) == (i : Int)) = true := by simp; omega
        have hst := Lib.hid (hstep.out s (by rw [if_pos he]))
        clear he
        go_upto_region 10 with (first
          | ((with_reducible refine guardList ?_); refine wantList_load (by rfl) 66 _ rfl b (off + k * 129) (by rfl) (wrL p) _ hrow.out Try.underlying66 rfl (infoRw _) ?_)
          | ((with_reducible refine guardList ?_)
             refine wantList_store (by rfl) 66 _ _ rfl wr.heap.size 0 (by rfl) (wrL p) (by rfl) _ (wrL (0, sec0)) (wrL p) (Blk.new _ _ _) (by simp [wrL_length]) (wrL_one _) (infoRw _) (whole_new (by simp [wrL_length])) ?_
             intro w5 hA5 k5 z5
             have hv5 := Lib.hid (owns_kept (World.ownsRow.alloc hv.out (.cells (wrL (0, sec0)).toArray 66)) k5 (fun g9 hg9 e9 => by have := (World.ownsRow.lt hv.out g9 hg9).2; omega))
             have hT5 := Lib.hid ((hT.out.alloc (.cells (wrL (0, sec0)).toArray 66)).kept k5 (by omega) (by omega) (by omega) (by omega))
             have q5 := Lib.hid (Kept.out (hb.out.alloc hbs _) k5 (fun i _ e => by omega) (by simp; omega))
             have d0 := wr_c0 hA5
             have l5 := hA5.lt
             have hA5 := Lib.hid hA5
             clear k5 z5))
        go_upto_region 12 with (first
          | ((with_reducible refine guardList ?_); refine wantList_load (by rfl) 33 _ rfl (w.heap.size + 1) 0 (by rfl) (secL s) _ (range_dev (hT5.out.hS)) Try.underlying33 rfl (infoSecL _) ?_)
          | ((with_reducible refine guardList ?_)
             refine wantList_store (by rfl) 33 _ _ rfl wr.heap.size 1 (by rfl) (secL s) (by rfl) _ (wrL p) (wrL (p.1, s)) hA5.out (by rw [secL_length, wrL_length]; decide) (secL_one _) (infoSecL _) (wr_put p s) ?_
             intro w6 hA6 k6 z6
             have hv6 := Lib.hid (owns_kept hv5.out k6 (fun g9 hg9 e9 => by have := (World.ownsRow.lt hv.out g9 hg9).2; omega))
             have hT6 := Lib.hid (hT5.out.kept k6 (by omega) (by omega) (by omega) (by omega))
             have q6 := Lib.hid (Kept.out q5.out k6 (fun i _ e => by omega) q5.out.size)
             have l6 := hA6.lt
             have hA6 := Lib.hid hA6
             clear k6 z6))
        go_wp2_with (first
          | ((with_reducible refine guardList ?_); refine wantList_load (by rfl) 66 _ rfl wr.heap.size 0 (by rfl) (wrL (p.1, s)) _ (range_dev hA6.out) Try.underlying66 rfl (infoRw _) ?_)
          | ((with_reducible refine guardList ?_)
             refine wantList (by rfl) fun K hK => ?_
             refine wp_buildOne 28 66 _ rfl (wrL (p.1, s)) rfl Try.underlying28 (infoRw _) (zeroRwL _) (by rw [wrL_length]; omega) (by rw [wrL_length]; decide) ?_
             refine hK _ _ ?_
             clear hK K
             have hvB := Lib.hid (World.ownsRow.alloc hv6.out (.cells (wrL (p.1, s)).toArray 66))
             have hTB := Lib.hid (hT6.out.alloc (.cells (wrL (p.1, s)).toArray 66))
             have qB := Lib.hid (q6.out.alloc q6.out.size (.cells (wrL (p.1, s)).toArray 66)))
          | ((with_reducible refine guardList ?_)
             refine wantList (by rfl) fun K hK => ?_
             refine wp_push _ _ 28 rfl (w.heap.size + 3) 66 i0 _ 129 136 Try.underlying28 hi0.out hz0.out hz1.out hz2.out (List.size_toArray.trans (wrL_length _)) (by omega) (.slice vo k vc) k (rowsL wrL qs) rfl hvB.out w6.heap.size 1 (wrL (p.1, s)) rfl (Blk.new _ _ _) (wrL_length _) (wrL_one _) (by unfold maxLen; omega) (by omega) (by simp; omega) ?_
             intro v' w8 ho8 hg8 hat8
             refine hK _ _ ?_
             clear hK K
             have k8 := Kept.of_grown (F := fun k9 => (Value.slice vo k vc).ownBlock = some k9) hg8 (fun k hk _ => hk)
             have hT8 := Lib.hid (hTB.out.kept k8 (fun e => by have := (World.ownsRow.lt hvB.out _ e).1; omega) (fun e => by have := (World.ownsRow.lt hvB.out _ e).1; omega) (fun e => by have := (World.ownsRow.lt hvB.out _ e).1; omega) (Own.ne_blk hvB.out hTB.out.hG (by decide)))
             have q8 := Lib.hid (Kept.out qB.out k8 (fun k _ hk => by have := (World.ownsRow.lt hvB.out k hk).1; omega) qB.out.size)
             obtain ⟨vo', vc', rfl, _, _, _⟩ := owns_shape ho8
             have hv8 := Lib.hid ho8
             clear k8 ho8 hg8 hat8))
        go_roundw
        case rel => exact ⟨k + 1, vo', vc', qs ++ [(p.1, s)], by omega, rfl, by go_num, Lib.hid hst.out.symm, Lib.hid (by rw [rowsL_append, rowsL_one]; exact hv8.out), hT8, q8⟩
        case measure => simp [intOf] <;> omega
      · have e1 : ((p.1 : Int) == (i : Int)) = false := by simp; omega
        have hst := Lib.hid (hstep.out p.2 (by rw [if_neg he]))
        clear he
        go_upto_region 10 with (first
          | ((with_reducible refine guardList ?_); refine wantList_load (by rfl) 66 _ rfl b (off + k * 129) (by rfl) (wrL p) _ hrow.out Try.underlying66 rfl (infoRw _) ?_)
          | ((with_reducible refine guardList ?_)
             refine wantList_store (by rfl) 66 _ _ rfl wr.heap.size 0 (by rfl) (wrL p) (by rfl) _ (wrL (0, sec0)) (wrL p) (Blk.new _ _ _) (by simp [wrL_length]) (wrL_one _) (infoRw _) (whole_new (by simp [wrL_length])) ?_
             intro w5 hA5 k5 z5
             have hv5 := Lib.hid (owns_kept (World.ownsRow.alloc hv.out (.cells (wrL (0, sec0)).toArray 66)) k5 (fun g9 hg9 e9 => by have := (World.ownsRow.lt hv.out g9 hg9).2; omega))
             have hT5 := Lib.hid ((hT.out.alloc (.cells (wrL (0, sec0)).toArray 66)).kept k5 (by omega) (by omega) (by omega) (by omega))
             have q5 := Lib.hid (Kept.out (hb.out.alloc hbs _) k5 (fun i _ e => by omega) (by simp; omega))
             have d0 := wr_c0 hA5
             have l5 := hA5.lt
             have hA5 := Lib.hid hA5
             clear k5 z5))
        go_upto_region 12 with (fail)
        go_wp2_with (first
          | ((with_reducible refine guardList ?_); refine wantList_load (by rfl) 66 _ rfl wr.heap.size 0 (by rfl) (wrL p) _ (range_dev hA5.out) Try.underlying66 rfl (infoRw _) ?_)
          | ((with_reducible refine guardList ?_)
             refine wantList (by rfl) fun K hK => ?_
             refine wp_buildOne 28 66 _ rfl (wrL p) rfl Try.underlying28 (infoRw _) (zeroRwL _) (by rw [wrL_length]; omega) (by rw [wrL_length]; decide) ?_
             refine hK _ _ ?_
             clear hK K
             have hvB := Lib.hid (World.ownsRow.alloc hv5.out (.cells (wrL p).toArray 66))
             have hTB := Lib.hid (hT5.out.alloc (.cells (wrL p).toArray 66))
             have qB := Lib.hid (q5.out.alloc q5.out.size (.cells (wrL p).toArray 66)))
          | ((with_reducible refine guardList ?_)
             refine wantList (by rfl) fun K hK => ?_
             refine wp_push _ _ 28 rfl (w.heap.size + 3) 66 i0 _ 129 136 Try.underlying28 hi0.out hz0.out hz1.out hz2.out (List.size_toArray.trans (wrL_length _)) (by omega) (.slice vo k vc) k (rowsL wrL qs) rfl hvB.out w5.heap.size 1 (wrL p) rfl (Blk.new _ _ _) (wrL_length _) (wrL_one _) (by unfold maxLen; omega) (by omega) (by simp; omega) ?_
             intro v' w8 ho8 hg8 hat8
             refine hK _ _ ?_
             clear hK K
             have k8 := Kept.of_grown (F := fun k9 => (Value.slice vo k vc).ownBlock = some k9) hg8 (fun k hk _ => hk)
             have hT8 := Lib.hid (hTB.out.kept k8 (fun e => by have := (World.ownsRow.lt hvB.out _ e).1; omega) (fun e => by have := (World.ownsRow.lt hvB.out _ e).1; omega) (fun e => by have := (World.ownsRow.lt hvB.out _ e).1; omega) (Own.ne_blk hvB.out hTB.out.hG (by decide)))
             have q8 := Lib.hid (Kept.out qB.out k8 (fun k _ hk => by have := (World.ownsRow.lt hvB.out k hk).1; omega) qB.out.size)
             obtain ⟨vo', vc', rfl, _, _, _⟩ := owns_shape ho8
             have hv8 := Lib.hid ho8
             clear k8 ho8 hg8 hat8))
        go_roundw
        case rel => exact ⟨k + 1, vo', vc', qs ++ [(p.1, p.2)], by omega, rfl, by go_num, Lib.hid hst.out.symm, Lib.hid (by rw [rowsL_append, rowsL_one]; exact hv8.out), hT8, q8⟩
        case measure => simp [intOf] <;> omega
    · obtain rfl : k = np := by omega
      have hfin : qs = ps' := by rw [hqs.out, hps'.out, List.take_of_length_le (by have := hnp.out; omega)]
      have c1 : wr.cell? ⟨w.heap.size, 1, none⟩ = some (.slice po k pc) := (hT.out.hB.cell 1).trans rfl
      have f1 := hT.out.hB.frozen 1
      have hfin := Lib.hid hfin
      go_upto_region 15 with (fail)
      have hB7 : Blk (wr.setCell ⟨w.heap.size, 1, none⟩ (.slice vo k vc)) w.heap.size 30 (devL (some ⟨g, 0, none⟩) n cc vo k vc ops f dd) := hT.out.hB.set 1 (.slice vo k vc)
      have k7 := Kept.cellAt wr w.heap.size 1 (.slice vo k vc)
      obtain ⟨_, _, hve, hvk, hvn, hvf⟩ := owns_shape hv.out
      injection hve with hve1 _ hve3
      subst hve1 hve3
      have hvf := Lib.hid hvf
      have hvn := Lib.hid hvn
      have hR7 := Lib.hid (hT.out.hR.kept k7 (by omega))
      have hg7 := Lib.hid ((owns_reads (hback.out wr _ (by rw [List.length_set]; exact hn.out) hT.out.hG)).keptF k7 (fun a ha e => by cases ha; have := hgb.out; simp at e; omega))
      have hp7 := Lib.hid ((owns_reads hv.out).keptF k7 (fun a ha e => by have := hvf.out a ha; omega))
      have q7 := Lib.hid (Kept.out hb.out k7 (fun i _ e => by omega) hb.out.size)
      have hB7 := Lib.hid hB7
      clear k7 c1 f1
      go_wp2_with (first
        | ((with_reducible refine guardList ?_); refine wantList_load (by rfl) 30 _ rfl (w.heap.size) 0 (by rfl) (devL (some ⟨g, 0, none⟩) n cc vo k vc ops f dd) _ (range_dev hB7.out) Try.underlying30 rfl infoDev5 ?_)
        | ((with_reducible refine guardList ?_)
           refine wantList_store (by rfl) 30 _ _ rfl (w.heap.size + 2) 0 (by rfl) (devL (some ⟨g, 0, none⟩) n cc vo k vc ops f dd) (by rfl) _ (devL none 0 0 none 0 0 0 0 false) (devL (some ⟨g, 0, none⟩) n cc vo k vc ops f dd) hR7.out (Nat.le_of_eq rfl) devL_one infoDev5 whole_dev ?_
           intro w8 hR8 k8 z8
           have hR8 := Lib.hid hR8
           have hg8 := Lib.hid (hg7.out.keptF k8 (fun a ha e => by cases ha; have := hgb.out; simp at e; omega))
           have hp8 := Lib.hid (hp7.out.keptF k8 (fun a ha e => by have := hvf.out a ha; omega))
           have q8 := Lib.hid (Kept.out q7.out k8 (fun i _ e => by omega) q7.out.size)
           clear k8 z8))
      refine bodyPost_ret (results_row_tmp rfl (rowDev hR8.out)) rfl ⟨_, cc, vo, vc, rfl, hg8.out, b1.out, (fun h => by cases h), (fun a ha => by cases ha; have := hgb.out; show w.heap.size ≤ g; omega), ?_, hvk, hvn.out, fun a ha => by have := hvf.out a ha; omega, q8.out⟩
      rw [← hfin.out]
      exact hp8.out
end Go.Proofs.Ytfpacnokecfhmaa
