/- The document's own device: Now, power, Break, New. -/
import Derived.Test.YtfpacnokecfhmaaRefA
namespace Go.Proofs.Ytfpacnokecfhmaa
open Go.ChangeShapes Go.WideShapes Go.ChangeAt Go.RowKit
set_option linter.unusedVariables false

/-- a sector behind some writes -/
def nowOf (s : Sec) (p : List (Nat × Sec)) (i : Nat) : Sec := p.foldl (fun s x => if x.1 = i then x.2 else s) s
theorem nowOf_take (s : Sec) (p : List (Nat × Sec)) (i k : Nat) (h : k < p.length) : nowOf s (p.take (k + 1)) i = if p[k].1 = i then p[k].2 else nowOf s (p.take k) i := by
  rw [List.take_succ_eq_append_getElem h]
  unfold nowOf
  rw [List.foldl_append]
  rfl
theorem nowOf_put (l : List Sec) (p : List (Nat × Sec)) (i : Nat) (hi : i < l.length) : nowOf (l.getD i sec0) p i = (putAll l p).getD i sec0 := by
  induction p generalizing l with
  | nil => rfl
  | cons x r ih =>
    rw [putAll_cons, ← ih _ (by rw [List.length_set]; exact hi)]
    show nowOf (if x.1 = i then x.2 else l.getD i sec0) r i = _
    congr 1
    by_cases h : x.1 = i
    · subst h; rw [if_pos rfl, List.getD_eq_getElem?_getD, List.getElem?_set_self hi]; rfl
    · rw [if_neg h, List.getD_eq_getElem?_getD, List.getD_eq_getElem?_getD, List.getElem?_set_ne h]

theorem infoRw (p : Nat × Sec) : (Try.prog.info? 66).map (·.size) = some (wrL p).length := by
  rw [wrL_length]; kernel_rfl
theorem zeroRw (w : World) : Sem.run Try.prog (zeroValue 66) w = .ok (.agg (wrL (0, sec0)).toArray) w := by kernel_rfl
theorem wr_r1 {w : World} {A : Nat} {t : TypeId} {p : Nat × Sec} (h : Blk w A t (wrL p)) : w.rangeAt A 1 (secL p.2) := h.range fun j v hv => by
  rw [Nat.add_comm, wrL, List.getElem?_cons_succ]; exact hv
theorem wr_c0 {w : World} {A : Nat} {t : TypeId} {p : Nat × Sec} (h : Blk w A t (wrL p)) : w.cell? ⟨A, 0, none⟩ = some (.int .i64 (p.1 : Int)) := by rw [h.cell]; rfl

set_option maxRecDepth 100000 in
set_option maxHeartbeats 2000000 in
theorem Now_in (so : Option Addr) (st : List Sec) (n sc : Nat) (hn : Hid (st.length = n)) (po : Option Addr) (ps : List (Nat × Sec)) (np pc : Nat) (hnp : Hid (ps.length = np)) (x2 x3 x4 : Value) (i : Nat) (hi : i < n) (hle : n ≤ 1024) (hlp : np ≤ 1000000000) (w : World) (hr : Reads w so (rowsL secL st)) (hp : Reads w po (rowsL wrL ps)) :
    Calls Try.prog 33 #[.agg #[.slice so n sc, .slice po np pc, x2, x3, x4], .int .i64 (i : Int)] w fun e w' => e = .returned (.agg (secL (nowOf (st.getD i sec0) ps i)).toArray) ∧ Below w.heap.size w w' := by
  have hz := zeroSec
  have hzw := zeroRw
  obtain ⟨s0, hs0⟩ : ∃ s, Hid (s = st.getD i sec0) := ⟨_, Lib.hid rfl⟩
  have ht := fun w hr => At_in so st n sc hn (.slice po np pc) x2 x3 x4 i hi hle w hr
  rw [← hs0.out] at ht ⊢
  have ht := Lib.hid ht
  have hr := Lib.hid hr
  have hp := Lib.hid hp
  have i0 : (0 : Int) ≤ (i : Int) := by omega
  obtain ⟨wb, hwb⟩ : ∃ wb : World, Hid (wb = (w.alloc (.cells #[.slice so n sc, .slice po np pc, x2, x3, x4] 30)).alloc (.cells (secL sec0).toArray 33)) := ⟨_, Lib.hid rfl⟩
  have qb : Below w.heap.size w wb := by rw [hwb.out]; exact ((Below.refl w.heap.size w).alloc (Nat.le_refl _) _).alloc (by simp) _
  have hzb : wb.heap.size = w.heap.size + 2 := by rw [hwb.out]; simp
  have hB : Blk wb w.heap.size 30 [.slice so n sc, .slice po np pc, x2, x3, x4] := by rw [hwb.out]; exact (Blk.newA w 30 #[.slice so n sc, .slice po np pc, x2, x3, x4]).alloc _
  have hR : Blk wb (w.heap.size + 1) 33 (secL sec0) := by
    rw [hwb.out]
    have := Blk.new (w.alloc (.cells #[.slice so n sc, .slice po np pc, x2, x3, x4] 30)) 33 (secL sec0)
    simpa using this
  have qb := Lib.hid qb
  have hB := Lib.hid hB
  have hR := Lib.hid hR
  have hzb := Lib.hid hzb
  go_enter Try.func33, Try.ntmps33
  go_wp2_with fail
  rw [← hwb.out]
  refine (ht.out wb (hr.out.below qb.out)).mono ?_
  rintro e w1 ⟨rfl, b1⟩
  have hB1 := Lib.hid (hB.out.below b1 hB.out.lt)
  have hR1 := Lib.hid (hR.out.below b1 hR.out.lt)
  have q1 := Lib.hid (qb.out.trans (b1.mono qb.out.size))
  have hl1 : w.heap.size + 2 ≤ w1.heap.size := by have := b1.size; have := hzb.out; omega
  have c1 : w1.cell? ⟨w.heap.size, 1, none⟩ = some (.slice po np pc) := (hB1.out.cell 1).trans rfl
  clear b1
  go_wp2_with ((with_reducible refine guardList ?_)
               refine wantList_store (by rfl) 33 _ _ rfl w1.heap.size 0 (by rfl) (secL s0) (by rfl) _ (secL sec0) (secL s0) (Blk.new _ _ _) (by simp [secL_length]) (secL_one _) (infoSecL _) (whole_new (by simp [secL_length])) ?_
               intro w2 hv2 k2 z2
               have hB2 := hB1.out.alloc (.cells (secL sec0).toArray 33) |>.kept k2 (by omega)
               have hR2 := Lib.hid (hR1.out.alloc (.cells (secL sec0).toArray 33) |>.kept k2 (by omega))
               have q2 := Lib.hid (Kept.out (q1.out.alloc (by omega) _) k2 (fun i _ e => by omega) (by simp; omega))
               have c2 : w2.cell? ⟨w.heap.size, 1, none⟩ = some (.slice po np pc) := (hB2.cell 1).trans rfl
               have hl2 := hv2.lt
               have hv2 := Lib.hid hv2
               clear k2 z2 hB2)
  go_loopw [14] (fun j wr => ∃ (k : Nat) (s : Sec), k ≤ np ∧ j = .int .i64 k ∧ Hid (s = nowOf s0 (ps.take k) i) ∧ Hid (Blk wr w1.heap.size 33 (secL s)) ∧ Hid (Blk wr (w.heap.size + 1) 33 (secL sec0)) ∧ Hid (Below w.heap.size w wr))
    (fun j _ => np - (intOf j).toNat)
  case atStart => exact ⟨0, s0, by omega, rfl, Lib.hid rfl, hv2, hR2, q2⟩
  case round =>
    clear hv2 hR2 q2 c2
    obtain ⟨k, s, hk, rfl, hs, hv, hR3, hb⟩ := hrel
    have hbs := hb.out.size
    have hvl := hv.out.lt
    by_cases hlt : k < np
    · obtain ⟨b, off, rfl, hbb, hrow⟩ := (hp.out.below hb.out).rangeRow wrL_length (by omega) (k := k) (by rw [hnp.out]; exact hlt)
      obtain ⟨p, hpk⟩ : ∃ p : Nat × Sec, Hid (p = ps[k]'(by rw [hnp.out]; exact hlt)) := ⟨_, Lib.hid rfl⟩
      rw [← hpk.out] at hrow
      have hrow := Lib.hid hrow
      have j0 : (0 : Int) ≤ (k : Int) := by omega
      have j1 : (k : Int) < (np : Int) := by omega
      by_cases he : p.1 = i
      · have e1 : ((p.1 : Int) == (i : Int)) = true := by simp; omega
        have heH := Lib.hid he
        clear he
        go_upto_region 6 with (first
          | ((with_reducible refine guardList ?_); refine wantList_load (by rfl) 66 _ rfl b (off + k * 129) (by rfl) (wrL p) _ hrow.out Try.underlying66 rfl (infoRw _) ?_)
          | ((with_reducible refine guardList ?_)
             refine wantList_store (by rfl) 66 _ _ rfl wr.heap.size 0 (by rfl) (wrL p) (by rfl) _ (wrL (0, sec0)) (wrL p) (Blk.new _ _ _) (by simp [wrL_length]) (wrL_one _) (infoRw _) (whole_new (by simp [wrL_length])) ?_
             intro w4 hA4 k4 z4
             have hv4 := Lib.hid (hv.out.alloc (.cells (wrL (0, sec0)).toArray 66) |>.kept k4 (by omega))
             have hR4 := Lib.hid (hR3.out.alloc (.cells (wrL (0, sec0)).toArray 66) |>.kept k4 (by omega))
             have q4 := Lib.hid (Kept.out (hb.out.alloc hbs _) k4 (fun i _ e => by omega) (by simp; omega))
             have d0 := wr_c0 hA4
             have r4 := Lib.hid (wr_r1 hA4)
             clear k4 z4 hA4))
        go_wp2_with (first
          | ((with_reducible refine guardList ?_); refine wantList_load (by rfl) 33 _ rfl wr.heap.size 1 (by rfl) (secL p.2) _ r4.out Try.underlying33 rfl (infoSecL _) ?_)
          | ((with_reducible refine guardList ?_)
             refine wantList_store (by rfl) 33 _ _ rfl w1.heap.size 0 (by rfl) (secL p.2) (by rfl) _ (secL s) (secL p.2) hv4.out (by simp [secL_length]) (secL_one _) (infoSecL _) (whole_new (by simp [secL_length])) ?_
             intro w5 hv5 k5 z5
             have hv5 := Lib.hid hv5
             have hR5 := Lib.hid (hR4.out.kept k5 (by omega))
             have q5 := Lib.hid (Kept.out q4.out k5 (fun i _ e => by omega) q4.out.size)
             clear k5 z5))
        go_roundw
        case rel => exact ⟨k + 1, p.2, by omega, by go_num, Lib.hid (by rw [nowOf_take _ _ _ _ (by rw [hnp.out]; exact hlt), ← hpk.out, if_pos heH.out]), hv5, hR5, q5⟩
        case measure => simp [intOf] <;> omega
      · have e1 : ((p.1 : Int) == (i : Int)) = false := by simp; omega
        have heH := Lib.hid he
        clear he
        go_upto_region 7 with (first
          | ((with_reducible refine guardList ?_); refine wantList_load (by rfl) 66 _ rfl b (off + k * 129) (by rfl) (wrL p) _ hrow.out Try.underlying66 rfl (infoRw _) ?_)
          | ((with_reducible refine guardList ?_)
             refine wantList_store (by rfl) 66 _ _ rfl wr.heap.size 0 (by rfl) (wrL p) (by rfl) _ (wrL (0, sec0)) (wrL p) (Blk.new _ _ _) (by simp [wrL_length]) (wrL_one _) (infoRw _) (whole_new (by simp [wrL_length])) ?_
             intro w4 hA4 k4 z4
             have hv4 := Lib.hid (hv.out.alloc (.cells (wrL (0, sec0)).toArray 66) |>.kept k4 (by omega))
             have hR4 := Lib.hid (hR3.out.alloc (.cells (wrL (0, sec0)).toArray 66) |>.kept k4 (by omega))
             have q4 := Lib.hid (Kept.out (hb.out.alloc hbs _) k4 (fun i _ e => by omega) (by simp; omega))
             have d0 := wr_c0 hA4
             clear k4 z4 hA4))
        go_wp2
        go_roundw
        case rel => exact ⟨k + 1, s, by omega, by go_num, Lib.hid (by rw [nowOf_take _ _ _ _ (by rw [hnp.out]; exact hlt), ← hpk.out, if_neg heH.out]; exact hs.out), hv4, hR4, q4⟩
        case measure => simp [intOf] <;> omega
    · obtain rfl : k = np := by omega
      have hs2 := hs.out
      rw [List.take_of_length_le (by have := hnp.out; omega)] at hs2
      have hs2 := Lib.hid hs2
      go_wp2_with (first
        | ((with_reducible refine guardList ?_); refine wantList_load (by rfl) 33 _ rfl w1.heap.size 0 (by rfl) (secL s) _ (hv.out.range fun j v hv => by simpa using hv) Try.underlying33 rfl (infoSecL _) ?_)
        | ((with_reducible refine guardList ?_)
           refine wantList_store (by rfl) 33 _ _ rfl (w.heap.size + 1) 0 (by rfl) (secL s) (by rfl) _ (secL sec0) (secL s) hR3.out (by simp [secL_length]) (secL_one _) (infoSecL _) (whole_new (by simp [secL_length])) ?_
           intro w5 hR5 k5 z5
           have hR5 := Lib.hid hR5
           have q5 := Lib.hid (Kept.out hb.out k5 (fun i _ e => by omega) hbs)
           clear k5 z5))
      refine bodyPost_ret (results_row rfl (rowSec hR5.out)) rfl ⟨by rw [← hs2.out], q5.out⟩
end Go.Proofs.Ytfpacnokecfhmaa
