/- The document's own device: what is stable behind some of the pending writes. -/
import Derived.Test.YtfpacnokecfhmaaRefD
namespace Go.Proofs.Ytfpacnokecfhmaa
open Go.ChangeShapes Go.WideShapes Go.ChangeAt Go.RowKit
set_option linter.unusedVariables false

theorem kept_step (kf : Nat → Bool) (st : List Sec) (ps : List (Nat × Sec)) (k : Nat) (h : k < ps.length) : putAll st (DevM.kept kf (ps.take (k + 1))) = if kf k then (putAll st (DevM.kept kf (ps.take k))).set ps[k].1 ps[k].2 else putAll st (DevM.kept kf (ps.take k)) := by
  rw [kept_take kf ps k h]
  cases kf k
  · simp
  · rw [if_pos rfl, if_pos rfl, putAll_snoc]

set_option maxRecDepth 100000 in
set_option maxHeartbeats 4000000 in
theorem apply_any (so : Option Addr) (st : List Sec) (n sc : Nat) (hn : Hid (st.length = n)) (hsn : so = none → sc = 0) (po : Option Addr) (ps : List (Nat × Sec)) (np pc : Nat) (hnp : Hid (ps.length = np)) (ops f : Int) (dd : Bool) (all : Bool) (ko : Option Addr) (bs : List Bool) (nb kc : Nat) (hnb : Hid (bs.length = nb)) (hbl : nb ≤ 9223372036854775807)
    (hle : n ≤ 1024) (hlp : np ≤ 1000000000) (hat : Hid (∀ p ∈ ps, p.1 < n)) (w : World) (hr : Reads w so (rowsL secL st)) (hp : Reads w po (rowsL wrL ps)) (hk : Reads w ko (boolsV bs)) (kf : Nat → Bool) (hkf : Hid (∀ k, kf k = (all || bs.getD k false))) :
    Calls Try.prog 38 #[.agg #[.slice so n sc, .slice po np pc, .int .i64 ops, .int .i64 f, .bool dd], .bool all, .slice ko nb kc] w fun e w' => ∃ so' sc', e = .returned (.agg (devL so' n sc' none 0 0 ops f dd).toArray) ∧
      Reads w' so' (rowsL secL (putAll st (DevM.kept kf ps))) ∧ n ≤ sc' ∧ (so' = none → sc' = 0) ∧ (∀ a, so' = some a → w.heap.size ≤ a.block) ∧ Below w.heap.size w w' := by
  have hz := zeroSec
  have hzw := zeroRw
  have hsn := Lib.hid hsn
  have hr := Lib.hid hr
  have hp := Lib.hid hp
  have hk := Lib.hid hk
  obtain ⟨i0, hi0, hz0, hz1, hz2⟩ := info_parts infoSec3
  have hi0 := Lib.hid hi0
  have hz0 := Lib.hid hz0
  have hz1 := Lib.hid hz1
  have hz2 := Lib.hid hz2
  obtain ⟨wb, hwb⟩ : ∃ wb : World, Hid (wb = (w.alloc (.cells #[.slice so n sc, .slice po np pc, .int .i64 ops, .int .i64 f, .bool dd] 30)).alloc (.cells #[.slice none 0 0, .slice none 0 0, .int .i64 0, .int .i64 0, .bool false] 30)) := ⟨_, Lib.hid rfl⟩
  have qb : Below w.heap.size w wb := by rw [hwb.out]; exact two_below _ _ _
  have hzb : wb.heap.size = w.heap.size + 2 := by rw [hwb.out]; simp
  have hB : Blk wb w.heap.size 30 (devL so n sc po np pc ops f dd) := by rw [hwb.out]; exact (Blk.newA w _ _).alloc _
  have hR : Blk wb (w.heap.size + 1) 30 (devL none 0 0 none 0 0 0 0 false) := by rw [hwb.out]; exact two_new w _ _ (devL none 0 0 none 0 0 0 0 false)
  have c0 : wb.cell? ⟨w.heap.size, 0, none⟩ = some (.slice so n sc) := (hB.cell 0).trans rfl
  have qb := Lib.hid qb
  have hB := Lib.hid hB
  have hR := Lib.hid hR
  have hzb := Lib.hid hzb
  go_enter Try.func38, Try.ntmps38
  go_upto_region 1 with (fail)
  rw [← hwb.out]
  go_upto_region 2 with (first
  | (at_builtin
     refine wpList_copySecs rfl _ _ rfl wb (by rw [hzb.out]; rfl) so n sc st (by rfl) hsn.out hn.out (hr.out.below qb.out) (by omega) ?_
     intro co cc w1 ho b1 b2 b3
     have hB1 := hB.out.below b3 hB.out.lt
     have hR1 := Lib.hid (hR.out.below b3 hR.out.lt)
     have q1 := Lib.hid (qb.out.trans (b3.mono qb.out.size))
     have ho := Lib.hid (owns_low ho qb.out.size)
     have b1 := Lib.hid b1
     have b2 := Lib.hid b2
     have c1 : w1.cell? ⟨w.heap.size, 1, none⟩ = some (.slice po np pc) := (hB1.cell 1).trans rfl
     have hB1 := Lib.hid hB1
     clear b3 c0))
  go_wp2
  have hlen0 : ∀ x, (putAll st x).length = n := fun x => by rw [putAll_length, hn.out]
  have hlen0 := Lib.hid hlen0
  go_loopw [17] (fun j wr => ∃ (k : Nat) (ss : List Sec), k ≤ np ∧ j = .int .i64 k ∧ Hid (ss = putAll st (DevM.kept kf (ps.take k))) ∧ Hid (wr.ownsRow w.heap.size 33 128 (.slice co n cc) n (rowsL secL ss)) ∧ Hid (Blk wr w.heap.size 30 (devL so n sc po np pc ops f dd)) ∧ Hid (Blk wr (w.heap.size + 1) 30 (devL none 0 0 none 0 0 0 0 false)) ∧ Hid (Below w.heap.size w wr))
    (fun j _ => np - (intOf j).toNat)
  case atStart => exact ⟨0, st, by omega, rfl, Lib.hid rfl, ho, hB1, hR1, q1⟩
  case round =>
    clear ho hB1 hR1 q1 c1
    obtain ⟨k, ss, hk', rfl, hss, ho, hB1, hR1, hb⟩ := hrel
    have hsl := Lib.hid (show ss.length = n by rw [hss.out]; exact hlen0.out _)
    have hbs := hb.out.size
    by_cases hlt : k < np
    · obtain ⟨b, off, rfl, hbb, hrow⟩ := (hp.out.below hb.out).rangeRow wrL_length (by omega) (k := k) (by rw [hnp.out]; exact hlt)
      obtain ⟨p, hpk⟩ : ∃ p : Nat × Sec, Hid (p = ps[k]'(by rw [hnp.out]; exact hlt)) := ⟨_, Lib.hid rfl⟩
      have hpn : p.1 < n := by rw [hpk.out]; exact hat.out _ (List.getElem_mem _)
      have hstep := kept_step kf st ps k (by rw [hnp.out]; exact hlt)
      rw [← hpk.out, ← hss.out] at hstep
      rw [← hpk.out] at hrow
      have hstep := Lib.hid hstep
      have hrow := Lib.hid hrow
      obtain ⟨g, tail, rfl, hgb, hG, hback⟩ := owns_open ho.out hsl.out (by omega)
      have hpl := Lib.hid (show p.1 < ss.length by rw [hsl.out]; exact hpn)
      have hlen : p.1 * 128 + (secL p.2).length ≤ (rowsL secL ss ++ tail).length := by
        have h2 : (p.1 + 1) * 128 ≤ ss.length * 128 := Nat.mul_le_mul_right _ hpl.out
        rw [List.length_append, rowsL_length secL_length, secL_length]; omega
      have hlen := Lib.hid hlen
      have hne0 := Lib.hid (hB1.out.ne hG (by decide))
      have hne1 := Lib.hid (hR1.out.ne hG (by decide))
      have hgl := hG.lt
      have hbl0 := hB1.out.lt
      have hbl1 := hR1.out.lt
      have hgb := Lib.hid hgb
      have hG := Lib.hid hG
      have hback := Lib.hid hback
      have i0 : (0 : Int) ≤ (k : Int) := by omega
      have i1 : (k : Int) < (np : Int) := by omega
      have i2 : (0 : Int) ≤ (p.1 : Int) := by omega
      have i3 : (p.1 : Int) < (n : Int) := by omega
      cases all
      · by_cases hkb : k < nb
        · obtain ⟨b2, off2, rfl, hc⟩ := hk.out k (by rw [boolsV_length, hnb.out]; exact hkb)
          obtain ⟨x, hx⟩ : ∃ x, Hid (bs.getD k false = x) := ⟨_, Lib.hid rfl⟩
          have hc' : w.cell? ⟨b2, off2 + k, none⟩ = some (.bool x) := by
            rw [hc, ← hx.out]
            simp [boolsV, List.getD_eq_getElem?_getD, hnb.out, hkb]
          have hcl := cell_lt hc'
          have hc2 : wr.cell? ⟨b2, off2 + k, none⟩ = some (.bool x) := (hb.out.cell hcl).trans hc'
          have hcl2 := cell_lt hc2
          have i4 : (k : Int) < (nb : Int) := by omega
          have hc2 := Lib.hid hc2
          clear hc hc' hcl
          have hkk : kf k = x := by rw [hkf.out, hx.out]; rfl
          cases x
          · have hno := Lib.hid (hstep.out.trans (if_neg (by rw [hkk]; decide)))
            clear hkk
            go_upto_region 5 with (first
              | ((with_reducible refine guardList ?_); refine wantList_load (by rfl) 66 _ rfl b (off + k * 129) (by rfl) (wrL p) _ hrow.out Try.underlying66 rfl (infoRw _) ?_)
              | ((with_reducible refine guardList ?_)
                 refine wantList_store (by rfl) 66 _ _ rfl wr.heap.size 0 (by rfl) (wrL p) (by rfl) _ (wrL (0, sec0)) (wrL p) (Blk.new _ _ _) (by simp [wrL_length]) (wrL_one _) (infoRw _) (whole_new (by simp [wrL_length])) ?_
                 intro w4 hA4 k4 z4
                 have ho4 := Lib.hid (owns_kept (World.ownsRow.alloc ho.out (.cells (wrL (0, sec0)).toArray 66)) k4 (fun g9 hg9 e9 => by have := (World.ownsRow.lt ho.out g9 hg9).2; omega))
                 have hB4 := Lib.hid (hB1.out.alloc (.cells (wrL (0, sec0)).toArray 66) |>.kept k4 (by omega))
                 have hR4 := Lib.hid (hR1.out.alloc (.cells (wrL (0, sec0)).toArray 66) |>.kept k4 (by omega))
                 have hG4 := Lib.hid (hG.out.alloc (.cells (wrL (0, sec0)).toArray 66) |>.kept k4 (by omega))
                 have q4 := Lib.hid (Kept.out (hb.out.alloc hbs _) k4 (fun i _ e => by omega) (by simp; omega))
                 have d0 := wr_c0 hA4
                 have r4 := Lib.hid (wr_r1 hA4)
                 have c9 : w4.cell? ⟨b2, off2 + k, none⟩ = some (.bool false) := (k4.cell (by simpa using Nat.lt_succ_of_lt hcl2) (by omega)).trans (cell_alloc hc2.out _)
                 clear k4 z4 hA4))
            go_wp2
            go_roundw
            case rel => exact ⟨k + 1, ss, by omega, by go_num, Lib.hid hno.out.symm, ho4, hB4, hR4, q4⟩
            case measure => simp [intOf] <;> omega
          · have hyes := Lib.hid (hstep.out.trans (if_pos hkk))
            clear hkk
            go_upto_region 5 with (first
              | ((with_reducible refine guardList ?_); refine wantList_load (by rfl) 66 _ rfl b (off + k * 129) (by rfl) (wrL p) _ hrow.out Try.underlying66 rfl (infoRw _) ?_)
              | ((with_reducible refine guardList ?_)
                 refine wantList_store (by rfl) 66 _ _ rfl wr.heap.size 0 (by rfl) (wrL p) (by rfl) _ (wrL (0, sec0)) (wrL p) (Blk.new _ _ _) (by simp [wrL_length]) (wrL_one _) (infoRw _) (whole_new (by simp [wrL_length])) ?_
                 intro w4 hA4 k4 z4
                 have ho4 := Lib.hid (owns_kept (World.ownsRow.alloc ho.out (.cells (wrL (0, sec0)).toArray 66)) k4 (fun g9 hg9 e9 => by have := (World.ownsRow.lt ho.out g9 hg9).2; omega))
                 have hB4 := Lib.hid (hB1.out.alloc (.cells (wrL (0, sec0)).toArray 66) |>.kept k4 (by omega))
                 have hR4 := Lib.hid (hR1.out.alloc (.cells (wrL (0, sec0)).toArray 66) |>.kept k4 (by omega))
                 have hG4 := Lib.hid (hG.out.alloc (.cells (wrL (0, sec0)).toArray 66) |>.kept k4 (by omega))
                 have q4 := Lib.hid (Kept.out (hb.out.alloc hbs _) k4 (fun i _ e => by omega) (by simp; omega))
                 have d0 := wr_c0 hA4
                 have r4 := Lib.hid (wr_r1 hA4)
                 have c9 : w4.cell? ⟨b2, off2 + k, none⟩ = some (.bool true) := (k4.cell (by simpa using Nat.lt_succ_of_lt hcl2) (by omega)).trans (cell_alloc hc2.out _)
                 clear k4 z4 hA4))
            go_wp2_with (first
              | ((with_reducible refine guardList ?_); refine wantList_load (by rfl) 33 _ rfl wr.heap.size 1 (by rfl) (secL p.2) _ r4.out Try.underlying33 rfl (infoSecL _) ?_)
              | ((with_reducible refine guardList ?_)
                 refine wantList_store (by rfl) 33 _ _ rfl g (p.1 * 128) (by rfl) (secL p.2) (by rfl) _ _ _ hG4.out hlen.out (secL_one _) (infoSecL _) (rows_put ss tail p.1 hpl.out p.2) ?_
                 intro w5 hG5 k5 z5
                 have ho5 := Lib.hid (hback.out w5 _ (by rw [List.length_set]; exact hsl.out) hG5)
                 have hB5 := Lib.hid (hB4.out.kept k5 hne0.out)
                 have hR5 := Lib.hid (hR4.out.kept k5 hne1.out)
                 have q5 := Lib.hid (Kept.out q4.out k5 (fun i _ e => by subst e; exact hgb.out) q4.out.size)
                 clear k5 z5))
            go_roundw
            case rel => exact ⟨k + 1, ss.set p.1 p.2, by omega, by go_num, Lib.hid hyes.out.symm, ho5, hB5, hR5, q5⟩
            case measure => simp [intOf] <;> omega
        · have hkk : kf k = false := by
            rw [hkf.out, List.getD_eq_getElem?_getD, List.getElem?_eq_none (by rw [hnb.out]; omega)]; rfl
          have hno := Lib.hid (hstep.out.trans (if_neg (by rw [hkk]; decide)))
          clear hkk
          go_upto_region 5 with (first
            | ((with_reducible refine guardList ?_); refine wantList_load (by rfl) 66 _ rfl b (off + k * 129) (by rfl) (wrL p) _ hrow.out Try.underlying66 rfl (infoRw _) ?_)
            | ((with_reducible refine guardList ?_)
               refine wantList_store (by rfl) 66 _ _ rfl wr.heap.size 0 (by rfl) (wrL p) (by rfl) _ (wrL (0, sec0)) (wrL p) (Blk.new _ _ _) (by simp [wrL_length]) (wrL_one _) (infoRw _) (whole_new (by simp [wrL_length])) ?_
               intro w4 hA4 k4 z4
               have ho4 := Lib.hid (owns_kept (World.ownsRow.alloc ho.out (.cells (wrL (0, sec0)).toArray 66)) k4 (fun g9 hg9 e9 => by have := (World.ownsRow.lt ho.out g9 hg9).2; omega))
               have hB4 := Lib.hid (hB1.out.alloc (.cells (wrL (0, sec0)).toArray 66) |>.kept k4 (by omega))
               have hR4 := Lib.hid (hR1.out.alloc (.cells (wrL (0, sec0)).toArray 66) |>.kept k4 (by omega))
               have hG4 := Lib.hid (hG.out.alloc (.cells (wrL (0, sec0)).toArray 66) |>.kept k4 (by omega))
               have q4 := Lib.hid (Kept.out (hb.out.alloc hbs _) k4 (fun i _ e => by omega) (by simp; omega))
               have d0 := wr_c0 hA4
               have r4 := Lib.hid (wr_r1 hA4)
               skip
               clear k4 z4 hA4))
          go_wp2
          go_roundw
          case rel => exact ⟨k + 1, ss, by omega, by go_num, Lib.hid hno.out.symm, ho4, hB4, hR4, q4⟩
          case measure => simp [intOf] <;> omega
      · have hkk : kf k = true := by rw [hkf.out]; rfl
        have hyes := Lib.hid (hstep.out.trans (if_pos hkk))
        clear hkk
        go_upto_region 5 with (first
          | ((with_reducible refine guardList ?_); refine wantList_load (by rfl) 66 _ rfl b (off + k * 129) (by rfl) (wrL p) _ hrow.out Try.underlying66 rfl (infoRw _) ?_)
          | ((with_reducible refine guardList ?_)
             refine wantList_store (by rfl) 66 _ _ rfl wr.heap.size 0 (by rfl) (wrL p) (by rfl) _ (wrL (0, sec0)) (wrL p) (Blk.new _ _ _) (by simp [wrL_length]) (wrL_one _) (infoRw _) (whole_new (by simp [wrL_length])) ?_
             intro w4 hA4 k4 z4
             have ho4 := Lib.hid (owns_kept (World.ownsRow.alloc ho.out (.cells (wrL (0, sec0)).toArray 66)) k4 (fun g9 hg9 e9 => by have := (World.ownsRow.lt ho.out g9 hg9).2; omega))
             have hB4 := Lib.hid (hB1.out.alloc (.cells (wrL (0, sec0)).toArray 66) |>.kept k4 (by omega))
             have hR4 := Lib.hid (hR1.out.alloc (.cells (wrL (0, sec0)).toArray 66) |>.kept k4 (by omega))
             have hG4 := Lib.hid (hG.out.alloc (.cells (wrL (0, sec0)).toArray 66) |>.kept k4 (by omega))
             have q4 := Lib.hid (Kept.out (hb.out.alloc hbs _) k4 (fun i _ e => by omega) (by simp; omega))
             have d0 := wr_c0 hA4
             have r4 := Lib.hid (wr_r1 hA4)
             skip
             clear k4 z4 hA4))
        go_wp2_with (first
          | ((with_reducible refine guardList ?_); refine wantList_load (by rfl) 33 _ rfl wr.heap.size 1 (by rfl) (secL p.2) _ r4.out Try.underlying33 rfl (infoSecL _) ?_)
          | ((with_reducible refine guardList ?_)
             refine wantList_store (by rfl) 33 _ _ rfl g (p.1 * 128) (by rfl) (secL p.2) (by rfl) _ _ _ hG4.out hlen.out (secL_one _) (infoSecL _) (rows_put ss tail p.1 hpl.out p.2) ?_
             intro w5 hG5 k5 z5
             have ho5 := Lib.hid (hback.out w5 _ (by rw [List.length_set]; exact hsl.out) hG5)
             have hB5 := Lib.hid (hB4.out.kept k5 hne0.out)
             have hR5 := Lib.hid (hR4.out.kept k5 hne1.out)
             have q5 := Lib.hid (Kept.out q4.out k5 (fun i _ e => by subst e; exact hgb.out) q4.out.size)
             clear k5 z5))
        go_roundw
        case rel => exact ⟨k + 1, ss.set p.1 p.2, by omega, by go_num, Lib.hid hyes.out.symm, ho5, hB5, hR5, q5⟩
        case measure => simp [intOf] <;> omega
    · obtain rfl : k = np := by omega
      rw [List.take_of_length_le (by have := hnp.out; omega)] at hss
      have c0 : wr.cell? ⟨w.heap.size, 0, none⟩ = some (.slice so n sc) := (hB1.out.cell 0).trans rfl
      have c1 : wr.cell? ⟨w.heap.size, 1, none⟩ = some (.slice po k pc) := (hB1.out.cell 1).trans rfl
      have f0 := hB1.out.frozen 0
      have f1 := hB1.out.frozen 1
      go_upto_region 10 with (fail)
      have hBz : Blk ((wr.setCell ⟨w.heap.size, 0, none⟩ (.slice co n cc)).setCell ⟨w.heap.size, 1, none⟩ (.slice none 0 0)) w.heap.size 30 (devL co n cc none 0 0 ops f dd) := (hB1.out.set 0 (.slice co n cc)).set 1 (.slice none 0 0)
      have hRz := (hR1.out.far (p := ⟨w.heap.size, 0, none⟩) (by show w.heap.size + 1 ≠ w.heap.size; omega) (.slice co n cc)).far (p := ⟨w.heap.size, 1, none⟩) (by show w.heap.size + 1 ≠ w.heap.size; omega) (.slice none 0 0)
      have kz := (Kept.cellAt wr w.heap.size 0 (.slice co n cc)).trans (Kept.cellAt _ w.heap.size 1 (.slice none 0 0))
      have qz := Lib.hid (Kept.out hb.out kz (fun i _ e => by omega) hbs)
      have hoz := Lib.hid (owns_kept ho.out kz (fun g9 hg9 e9 => Own.ne_blk ho.out hB1.out (by decide) (e9 ▸ hg9)))
      have hrz := Lib.hid (hBz.range (o := 0) (xs := devL co n cc none 0 0 ops f dd) (fun j v hv => by simpa using hv))
      have hRz := Lib.hid hRz
      clear hBz kz c0 c1 f0 f1
      go_wp2_with (first
        | ((with_reducible refine guardList ?_); refine wantList_load (by rfl) 30 _ rfl w.heap.size 0 (by rfl) (devL co n cc none 0 0 ops f dd) _ hrz.out Try.underlying30 rfl infoDev5 ?_)
        | ((with_reducible refine guardList ?_)
           refine wantList_store (by rfl) 30 _ _ rfl (w.heap.size + 1) 0 (by rfl) (devL co n cc none 0 0 ops f dd) (by rfl) _ (devL none 0 0 none 0 0 0 0 false) (devL co n cc none 0 0 ops f dd) hRz.out (Nat.le_of_eq rfl) devL_one infoDev5 (whole_new rfl) ?_
           intro w5 hR5 k5 z5
           have hR5 := Lib.hid hR5
           have ho5 := Lib.hid (owns_kept hoz.out k5 (fun g9 hg9 e9 => Own.ne_blk hoz.out hRz.out (by decide) (e9 ▸ hg9)))
           have q5 := Lib.hid (Kept.out qz.out k5 (fun i _ e => by omega) qz.out.size)
           clear k5 z5))
      refine bodyPost_ret (results_row rfl (rowDev hR5.out)) rfl ⟨co, cc, rfl, ?_, b1.out, b2.out, fun a ha => (World.ownsRow.lt ho5.out a.block (by rw [ha]; rfl)).1, q5.out⟩
      rw [← hss.out]
      exact owns_reads ho5.out
end Go.Proofs.Ytfpacnokecfhmaa
