/- VdevFlushes, for every input: the law returns true and each argument reads behind the call as before. No condition. -/
import Derived.Test.YtfpacnokecfhmaaFlush
namespace Go.Proofs.Ytfpacnokecfhmaa.lawVdevFlushes
open Go.ChangeShapes Go.WideShapes Go.ChangeAt Go.RowKit Go.Deep
set_option linter.unusedVariables false

theorem rep_snoc (k : Nat) : boolsV (List.replicate (k + 1) true) = boolsV (List.replicate k true) ++ [Value.bool true] := by
  unfold boolsV; rw [List.replicate_succ', List.map_append]; rfl

set_option maxRecDepth 100000 in
set_option maxHeartbeats 4000000 in
theorem way_yes (ao : Option Addr) (as_ : List ActM) (cap n : Nat) (ko : Option Addr) (bs : List Bool) (kc : Nat) (at_ : Int) (w : World) (hacts : Acts w ao as_) (hn : Hid (as_.length = n)) (hn2 : n ≤ 100) (hkr : Reads w ko (boolsV bs)) (hkc : bs.length ≤ kc ∧ kc ≤ 140737488351232) (hkn : ko = none → kc = 0) (h0 : 0 ≤ at_) (h7 : at_ ≤ 7) :
    Calls Try.prog 8 #[.slice ao n cap, .slice ko bs.length kc, .int .i64 at_] w fun e w' => e = .returned (.bool true) ∧ Below w.heap.size w w' := by
  obtain ⟨j, hj⟩ : ∃ j : Nat, Hid (at_ = (j : Int)) := ⟨at_.toNat, Lib.hid (by omega)⟩
  have hj8 : j < 8 := by have := hj.out; omega
  obtain ⟨ib, hib, hzb, hzb1, hzb2⟩ := info_parts infoBool
  have hacts := Lib.hid hacts
  have hkr := Lib.hid hkr
  have hkn := Lib.hid hkn
  have hz := zeroSec
  have hza := zeroAct
  have he := eqSec
  go_enter Try.func8, Try.ntmps8
  go_wp2_with fail
  refine (alive_any w).mono ?_
  rintro e wa ⟨rfl, ba⟩
  have ba := Lib.hid ba
  go_wp2_with fail
  refine (New_any 8 (by unfold I64; omega) wa).mono ?_
  rintro e wb ⟨d, F0, rfl, hd0, lo0, bb⟩
  rw [show DevM.newLen 8 = 8 from rfl] at hd0
  have q0 := Lib.hid (ba.out.trans (bb.mono ba.out.size))
  have lo0 := Lib.hid (fun k hk => Nat.le_trans ba.out.size (lo0 k hk))
  have hd0 := Lib.hid hd0
  clear bb
  go_wp2_with fail
  refine (New_any 8 (by unfold I64; omega) wb).mono ?_
  rintro e wc ⟨c, G0, rfl, hc0, lo1, bc⟩
  rw [show DevM.newLen 8 = 8 from rfl] at hc0
  have qc := Lib.hid (q0.out.trans (bc.mono q0.out.size))
  have hsc : w.heap.size ≤ wc.heap.size := qc.out.size
  have hT0 := Lib.hid (Two.mk (B := w.heap.size) (v := .slice (some ⟨wc.heap.size, 0, none⟩) 0 0) (al := boolsV (List.replicate 0 true)) ((hd0.out.below bc).alloc (.cells #[] 4)) (hc0.alloc (.cells #[] 4)) lo0.out (fun k hk => Nat.le_trans q0.out.size (lo1 k hk)) (fun i hi hg => by have := hd0.out.lt i hi; have := lo1 i hg; omega)
    (Own.made wc #[] 0 hsc (by decide) rfl) (fun g hg => by simp [Value.ownBlock] at hg; subst hg; exact ⟨fun hf => by have := (hd0.out.below bc).lt _ hf; omega, fun hf => by have := hc0.lt _ hf; omega⟩))
  have hc0 := Lib.hid hc0
  have q1 := Lib.hid (qc.out.alloc hsc (.cells #[] 4))
  clear bc lo1
  go_wp2
  go_loopw [9, 46] (fun v i wr => ∃ (k : Nat) (F G : Nat → Prop) (m : DevM), k ≤ n ∧ i = .int .i64 k ∧ Hid (Two w.heap.size wr d c F G m m v (boolsV (List.replicate k true))) ∧ Hid (FlI m k) ∧ Hid (Below w.heap.size w wr))
    (fun _ i _ => n - (intOf i).toNat)
  case atStart => exact ⟨0, F0, G0, DevM.fresh 8, by omega, rfl, hT0, Lib.hid ⟨rfl, rfl, rfl, Nat.le_refl _⟩, q1⟩
  case round =>
    clear hT0 q1
    obtain ⟨k, F, G, m, hk, rfl, hT, hI, hb⟩ := hrel
    have hpl : m.pending.length ≤ 1000000000 := by have := hI.out.pend; omega
    have hbs : w.heap.size ≤ wr.heap.size := hb.out.size
    by_cases hlt : k < n
    · obtain ⟨b, off, rfl, hbb, hr⟩ := (hacts.out.below hb.out).range (k := k) (by rw [hn.out]; exact hlt)
      have hok : ActOk w (as_[k]'(by rw [hn.out]; exact hlt)) := hacts.out.each _ (List.getElem_mem _)
      obtain ⟨a, ha⟩ : ∃ a : ActM, Hid (a = as_[k]'(by rw [hn.out]; exact hlt)) := ⟨_, Lib.hid rfl⟩
      rw [← ha.out] at hr hok
      have hr := Lib.hid hr
      have hok := Lib.hid hok
      have hAF : Hid (¬ F wr.heap.size) := Lib.hid (fun e => by have := hT.out.dev.lt _ e; omega)
      have i0 : (0 : Int) ≤ (k : Int) := by omega
      have i1 : (k : Int) < (n : Int) := by omega
      by_cases hk1 : a.kind = 1
      · have hkd := Lib.hid hk1
        clear hk1
        go_wp2_with (first
          | ((with_reducible refine guardList ?_); refine wantList_load (by rfl) 36 _ rfl b (off + k * 131) (by rfl) (actL a) _ hr.out Try.underlying36 rfl (infoActL _) ?_)
          | (refine wantList_store (by rfl) 36 _ _ rfl wr.heap.size 0 (by rfl) (actL a) (by rfl) _ (actL act0) (actL a) (Blk.new _ _ _) (by simp [actL_length]) (actL_one _) (infoActL _) (whole_new (by simp [actL_length])) ?_
             intro w1 hA1 k1 z1
             have hT1 := Lib.hid (Two.mk ((hT.out.dev.alloc (.cells (actL act0).toArray 36)).kept k1 (fun i hi e => by have := hT.out.dev.lt i hi; omega)) ((hT.out.cev.alloc (.cells (actL act0).toArray 36)).kept k1 (fun i hi e => by have := hT.out.cev.lt i hi; omega)) hT.out.lowF hT.out.lowG hT.out.dis (owns_kept (World.ownsRow.alloc hT.out.own _) k1 (fun g hg e => by have := (hT.out.own.lt g hg).2; omega)) hT.out.vF)
             have q1 := Lib.hid (Kept.out (hb.out.alloc hbs _) k1 (fun i _ e => by omega) (by simp; omega))
             have c0 := act_c0 hA1
             have c1 := act_c1 hA1
             have r1 := Lib.hid (act_r2 hA1)
             have hA1 := Lib.hid hA1
             rw [hkd.out] at c0
             clear k1 z1)
          | ((with_reducible refine guardList ?_); refine wantList_load (by rfl) 33 _ rfl wr.heap.size 2 (by rfl) (secL a.data) _ r1.out Try.underlying33 rfl (infoSecL _) ?_))
        refine (o_Write hT1.out.dev a.at_ hok.out.at_ a.data hpl).mono ?_
        rintro e w2 ⟨rfl, F2, h2, k2, g2⟩
        have hs1 : w.heap.size ≤ w1.heap.size := q1.out.size
        have hT2 := Lib.hid (hT1.out.callD k2 h2 g2 hs1)
        have q2 := Lib.hid (Kept.out q1.out k2 (fun i _ hi => hT1.out.lowF i hi) hs1)
        have hA2 := hA1.out.kept k2 hAF.out
        have c0 := act_c0 hA2
        have c1 := act_c1 hA2
        have r2 := Lib.hid (act_r2 hA2)
        rw [hkd.out] at c0
        have hs2 : w.heap.size ≤ w2.heap.size := q2.out.size
        have hA2 := Lib.hid hA2
        clear k2 g2 h2
        go_upto_region 12 with (fail)
        go_wp2_with ((with_reducible refine guardList ?_); refine wantList_load (by rfl) 33 _ rfl wr.heap.size 2 (by rfl) (secL a.data) _ r2.out Try.underlying33 rfl (infoSecL _) ?_)
        refine (o_Write hT2.out.cev a.at_ hok.out.at_ a.data hpl).mono ?_
        rintro e w3 ⟨rfl, F3, h3, k3, g3⟩
        have hT3 := Lib.hid (hT2.out.callC k3 h3 g3 hs2)
        have q3 := Lib.hid (Kept.out q2.out k3 (fun i _ hi => hT2.out.lowG i hi) hs2)
        have hs3 : w.heap.size ≤ w3.heap.size := q3.out.size
        clear k3 g3 h3
        go_wp2_with (first
          | (at_builtin
             refine wpList_own_push rfl _ _ 34 rfl w.heap.size 4 ib _ 1 Try.underlying34 hib hzb hzb1 hzb2 rfl u9 (boolsV (List.replicate k true)) w3 (by rfl) hT3.out.own 1 (.bool true) (by rfl) rfl (by rw [boolsV_length]; simp; omega) (by rw [boolsV_length]; simp; omega) hs3 ?_
             intro v' w6 ho6 hg6
             have hT6 := Lib.hid (hT3.out.push hg6 ho6)
             have q6 := Lib.hid (q3.out.trans (hg6.out hs3 (fun g hg => (hT3.out.own.lt g hg).1)))
             clear ho6 hg6))
        go_roundw
        case rel => exact ⟨k + 1, F2, F3, (m.write a.at_ a.data).1, by omega, by go_num, Lib.hid (by rw [rep_snoc]; exact hT6.out), Lib.hid (hI.out.write _ _), q6⟩
        case measure => simp [intOf] <;> omega
      · have e1 : (a.kind == 1) = false := by simpa using hk1
        clear hk1
        go_wp2_with (first
          | ((with_reducible refine guardList ?_); refine wantList_load (by rfl) 36 _ rfl b (off + k * 131) (by rfl) (actL a) _ hr.out Try.underlying36 rfl (infoActL _) ?_)
          | (refine wantList_store (by rfl) 36 _ _ rfl wr.heap.size 0 (by rfl) (actL a) (by rfl) _ (actL act0) (actL a) (Blk.new _ _ _) (by simp [actL_length]) (actL_one _) (infoActL _) (whole_new (by simp [actL_length])) ?_
             intro w1 hA1 k1 z1
             have hT1 := Lib.hid (Two.mk ((hT.out.dev.alloc (.cells (actL act0).toArray 36)).kept k1 (fun i hi e => by have := hT.out.dev.lt i hi; omega)) ((hT.out.cev.alloc (.cells (actL act0).toArray 36)).kept k1 (fun i hi e => by have := hT.out.cev.lt i hi; omega)) hT.out.lowF hT.out.lowG hT.out.dis (owns_kept (World.ownsRow.alloc hT.out.own _) k1 (fun g hg e => by have := (hT.out.own.lt g hg).2; omega)) hT.out.vF)
             have q1 := Lib.hid (Kept.out (hb.out.alloc hbs _) k1 (fun i _ e => by omega) (by simp; omega))
             have c0 := act_c0 hA1
             have c1 := act_c1 hA1
             have r1 := Lib.hid (act_r2 hA1)
             have hA1 := Lib.hid hA1
             skip
             clear k1 z1)
          | ((with_reducible refine guardList ?_); refine wantList_load (by rfl) 33 _ rfl wr.heap.size 2 (by rfl) (secL a.data) _ r1.out Try.underlying33 rfl (infoSecL _) ?_)
          | (at_builtin
             refine wpList_own_push rfl _ _ 34 rfl w.heap.size 4 ib _ 1 Try.underlying34 hib hzb hzb1 hzb2 rfl u9 (boolsV (List.replicate k true)) w1 (by rfl) hT1.out.own 1 (.bool true) (by rfl) rfl (by rw [boolsV_length]; simp; omega) (by rw [boolsV_length]; simp; omega) q1.out.size ?_
             intro v' w6 ho6 hg6
             have hT6 := Lib.hid (hT1.out.push hg6 ho6)
             have q6 := Lib.hid (q1.out.trans (hg6.out q1.out.size (fun g hg => (hT1.out.own.lt g hg).1)))
             clear ho6 hg6))
        go_roundw
        case rel => exact ⟨k + 1, F, G, m, by omega, by go_num, Lib.hid (by rw [rep_snoc]; exact hT6.out), Lib.hid hI.out.succ, q6⟩
        case measure => simp [intOf] <;> omega
    · obtain rfl : k = n := by omega
      obtain ⟨co, cc, hvv, hcl, hcm, hcn, hcr, hcb, hcbk⟩ := hT.out.own.shape
      rw [boolsV_length, List.length_replicate] at hvv hcl
      subst hvv
      have hcn := Lib.hid hcn
      have hcr := Lib.hid hcr
      have hcbk := Lib.hid hcbk
      have hcb := Lib.hid hcb
      obtain ⟨s, hs⟩ : ∃ s, Hid (s = m.now.getD j sec0) := ⟨_, Lib.hid rfl⟩
      have hrd : Hid (m.read at_ = (s, 0)) := Lib.hid (by rw [hj.out, hs.out]; exact hI.out.read_ j hj8)
      obtain ⟨m1, hf1, hf2, hf3⟩ := hI.out.flush_
      have hfr : Hid (m.tick.flush.2 = 0) := Lib.hid (by rw [hf1])
      have hfm : Hid (m.tick.flush.1 = m1) := Lib.hid (by rw [hf1])
      have hnl : m.now.length = 8 := m.now_length.trans hI.out.len
      have hst1 : Hid (m1.stab at_ = s) := Lib.hid (by rw [hj.out, hs.out]; exact stab_of hf3 hnl j hj8)
      have hp1 : Hid (m1.pending.length = 0) := Lib.hid (by rw [hf2]; rfl)
      have hst2 : Hid ((m.crash (List.replicate k true)).stab at_ = s) := Lib.hid (by rw [hj.out, hs.out]; exact stab_of (hI.out.crash_ k (Nat.le_refl _)) hnl j hj8)
      have hp2 : Hid ((m.crash (List.replicate k true)).pending.length = 0) := Lib.hid rfl
      have hst3 : Hid ((m1.crash bs).stab at_ = s) := Lib.hid (by rw [hj.out, hs.out]; exact stab_of ((crash_none hf2 bs).trans hf3) hnl j hj8)
      have hpl1 : m1.pending.length ≤ 1000000000 := by have := hp1.out; omega
      clear hf1 hf2 hf3 hnl
      go_wp2_with fail
      refine (o_Read hT.out.dev at_ (by unfold I64; omega)).mono ?_
      rintro e w2 ⟨rfl, F2, h2, k2, g2⟩
      rw [hrd.out]
      have hT2 := Lib.hid (hT.out.callD k2 h2 g2 hbs)
      have q2 := Lib.hid (Kept.out hb.out k2 (fun i _ hi => hT.out.lowF i hi) hbs)
      have hcr2 := Lib.hid (Reads.keptF hcr.out k2 (fun a ha hf => by
        have h1 := (hT.out.vF a.block (by rw [hcbk.out, ha]; rfl)).1
        exact h1 hf))
      have hs2 : w.heap.size ≤ w2.heap.size := q2.out.size
      clear k2 g2 h2
      go_wp2_with (refine wantList_store (by rfl) 33 _ _ rfl w2.heap.size 0 (by rfl) (secL s) (by rfl) _ (secL sec0) (secL s) (Blk.new _ _ _) (by simp [secL_length]) (secL_one _) (infoSecL _) (whole_new (by simp [secL_length])) ?_
                   intro w3 hN3 k3 z3
                   have hT3 := Lib.hid (Two.mk ((hT2.out.dev.alloc (.cells (secL sec0).toArray 33)).kept k3 (fun i hi e => by have := hT2.out.dev.lt i hi; omega)) ((hT2.out.cev.alloc (.cells (secL sec0).toArray 33)).kept k3 (fun i hi e => by have := hT2.out.cev.lt i hi; omega)) hT2.out.lowF hT2.out.lowG hT2.out.dis (owns_kept (World.ownsRow.alloc hT2.out.own _) k3 (fun g hg e => by have := (hT2.out.own.lt g hg).2; omega)) hT2.out.vF)
                   have q3 := Lib.hid (Kept.out (q2.out.alloc hs2 _) k3 (fun i _ e => by omega) (by simp; omega))
                   have hs3 : w.heap.size ≤ w3.heap.size := q3.out.size
                   have hNF : Hid (¬ F2 w2.heap.size) := Lib.hid (fun hf => by have := hT2.out.dev.lt _ hf; omega)
                   have hNG : Hid (¬ G w2.heap.size) := Lib.hid (fun hf => by have := hT2.out.cev.lt _ hf; omega)
                   have hN3 := Lib.hid hN3
                   clear k3 z3)
      refine (o_Flush hT3.out.dev hpl).mono ?_
      rintro e w4 ⟨rfl, F4, h4, k4, g4⟩
      rw [hfm.out] at h4
      have hT4 := Lib.hid (hT3.out.callD k4 h4 g4 hs3)
      have q4 := Lib.hid (Kept.out q3.out k4 (fun i _ hi => hT3.out.lowF i hi) hs3)
      have hs4 : w.heap.size ≤ w4.heap.size := q4.out.size
      have hN4 := Lib.hid (hN3.out.kept k4 hNF.out)
      have hNF4 : Hid (¬ F4 w2.heap.size) := Lib.hid (g4.not hNF.out hN3.out.lt)
      clear k4 g4 h4
      go_wp2_with fail
      obtain ⟨co', cc', hvv, _, _, _, hcr4, _, hcbk4⟩ := hT4.out.own.shape
      injection hvv with hvv1 hvv2 hvv3
      subst hvv1
      have hcr4 := Lib.hid hcr4
      have hcbk4 := Lib.hid hcbk4
      clear hvv2 hvv3
      have hcall := o_Crash hT4.out.cev co cc (List.replicate k true) hpl (by simp; omega) hcr4.out (fun _ a ha hf => by
        have h1 := (hT4.out.vF a.block (by rw [hcbk.out, ha]; rfl)).2
        exact h1 hf)
      rw [List.length_replicate] at hcall
      refine hcall.mono ?_
      clear hcall
      rintro e w8 ⟨rfl, G8, h8, k8, g8⟩
      have hT8 := Lib.hid (hT4.out.callC k8 h8 g8 hs4)
      have q8 := Lib.hid (Kept.out q4.out k8 (fun i _ hi => hT4.out.lowG i hi) hs4)
      have hs8 : w.heap.size ≤ w8.heap.size := q8.out.size
      have hN8 : Hid (w8.rangeAt w2.heap.size 0 (secL s)) := Lib.hid ((hN4.out.kept k8 hNG.out).range fun j v hv => by simpa using hv)
      clear k8 g8 h8
      go_wp2
      refine inO_region [(3, fun w' => w'.rangeAt (w2.heap.size) (0) (secL s)), (9, fun w' => w'.rangeAt (w2.heap.size) (0) (secL s))] (by kernel_rfl) (Owed.cons (hN8.out) (Owed.cons (hN8.out) (Owed.nil _ _))) ?_
      refine inO_take 0 ⟨_, _, _, _, _, _⟩ (.pointer (some ⟨d, 0, none⟩)) rfl (by kernel_rfl) (by kernel_rfl) (by kernel_rfl) (fun _ _ _ h => h) rfl (fun ww => exec_move (by rfl) (by rfl) ww) ?_
      simp only [Act.put, List.setIfInBounds_toArray, List.set_cons_zero, List.set_cons_succ]
      refine inO_take 1 ⟨_, _, _, _, _, _⟩ (.int .i64 at_) rfl (by kernel_rfl) (by kernel_rfl) (by kernel_rfl) (fun _ _ _ h => h) rfl (fun ww => exec_move (by rfl) (by rfl) ww) ?_
      simp only [Act.put, List.setIfInBounds_toArray, List.set_cons_zero, List.set_cons_succ]
      refine inO_load 3 ⟨_, _, _, _, _, _⟩ (.agg (secL s).toArray) (fun w' => w'.rangeAt (w2.heap.size) (0) (secL s)) rfl (by kernel_rfl) (by kernel_rfl) (by kernel_rfl) (fun _ _ _ h => h) rfl (.head _) (fun ww hw => exec_load_mid _ _ (by rfl) _ _ (by rfl) _ _ hw Try.underlying33 rfl (infoSecL _)) ?_
      simp only [Act.put, List.setIfInBounds_toArray, List.set_cons_zero, List.set_cons_succ]
      refine inO_step 2 ⟨_, _, _, _, _, _⟩ rfl (by kernel_rfl) rfl (fun K hK => ?_)
      refine wp_call Try.func28 (by kernel_rfl) rfl _ _ rfl _ rfl _ (o_Stable hT8.out.dev.drew at_ (by unfold I64; omega)) fun e wA h => ?_
      obtain ⟨rfl, bwA⟩ := h
      rw [hst1.out]
      refine ⟨_, rfl, ?_⟩
      have hC9 := Lib.hid (hT8.out.cev.drew.below bwA)
      have hD9 := Lib.hid (hT8.out.dev.drew.below bwA)
      have hN9 := Lib.hid (range_below (w := w8.drew) hN8.out bwA)
      refine hK _ _ (Keeps.cons (fun hh => range_below hh bwA) (Keeps.cons (fun hh => range_below hh bwA) (Keeps.nil _ _ _))) ?_
      clear hK K
      simp only [Act.put, List.setIfInBounds_toArray, List.set_cons_zero, List.set_cons_succ]
      refine inO_take 4 ⟨_, _, _, _, _, _⟩ (.bool false) rfl (by kernel_rfl) (by kernel_rfl) (by kernel_rfl) (fun _ _ _ h => h) rfl (fun ww => by go_simp) ?_
      simp only [Act.put, List.setIfInBounds_toArray, List.set_cons_zero, List.set_cons_succ]
      refine inO_take 5 ⟨_, _, _, _, _, _⟩ (.bool false) rfl (by kernel_rfl) (by kernel_rfl) (by kernel_rfl) (fun _ _ _ h => h) rfl (fun ww => exec_move (by rfl) (by rfl) ww) ?_
      simp only [Act.put, List.setIfInBounds_toArray, List.set_cons_zero, List.set_cons_succ]
      refine inO_take 6 ⟨_, _, _, _, _, _⟩ (.pointer (some ⟨c, 0, none⟩)) rfl (by kernel_rfl) (by kernel_rfl) (by kernel_rfl) (fun _ _ _ h => h) rfl (fun ww => exec_move (by rfl) (by rfl) ww) ?_
      simp only [Act.put, List.setIfInBounds_toArray, List.set_cons_zero, List.set_cons_succ]
      refine inO_take 7 ⟨_, _, _, _, _, _⟩ (.int .i64 at_) rfl (by kernel_rfl) (by kernel_rfl) (by kernel_rfl) (fun _ _ _ h => h) rfl (fun ww => exec_move (by rfl) (by rfl) ww) ?_
      simp only [Act.put, List.setIfInBounds_toArray, List.set_cons_zero, List.set_cons_succ]
      refine inO_load 9 ⟨_, _, _, _, _, _⟩ (.agg (secL s).toArray) (fun w' => w'.rangeAt (w2.heap.size) (0) (secL s)) rfl (by kernel_rfl) (by kernel_rfl) (by kernel_rfl) (fun _ _ _ h => h) rfl (.tail _ (.head _)) (fun ww hw => exec_load_mid _ _ (by rfl) _ _ (by rfl) _ _ hw Try.underlying33 rfl (infoSecL _)) ?_
      simp only [Act.put, List.setIfInBounds_toArray, List.set_cons_zero, List.set_cons_succ]
      refine inO_step 8 ⟨_, _, _, _, _, _⟩ rfl (by kernel_rfl) rfl (fun K hK => ?_)
      refine wp_call Try.func28 (by kernel_rfl) rfl _ _ rfl _ rfl _ (o_Stable hC9.out at_ (by unfold I64; omega)) fun e wB h => ?_
      obtain ⟨rfl, bwB⟩ := h
      rw [hst2.out]
      refine ⟨_, rfl, ?_⟩
      have hC10 := Lib.hid (hC9.out.below bwB)
      have hD10 := Lib.hid (hD9.out.below bwB)
      have hN10 := Lib.hid (range_below hN9.out bwB)
      refine hK _ _ (Keeps.late (by kernel_rfl) (Keeps.cons (fun hh => range_below hh bwB) (Keeps.nil _ _ _))) ?_
      clear hK K
      simp only [Act.put, List.setIfInBounds_toArray, List.set_cons_zero, List.set_cons_succ]
      refine inO_take 10 ⟨_, _, _, _, _, _⟩ (.bool false) rfl (by kernel_rfl) (by kernel_rfl) (by kernel_rfl) (fun _ _ _ h => h) rfl (fun ww => by go_simp) ?_
      simp only [Act.put, List.setIfInBounds_toArray, List.set_cons_zero, List.set_cons_succ]
      refine inO_take 11 ⟨_, _, _, _, _, _⟩ (.bool false) rfl (by kernel_rfl) (by kernel_rfl) (by kernel_rfl) (fun _ _ _ h => h) rfl (fun ww => by go_simp) ?_
      simp only [Act.put, List.setIfInBounds_toArray, List.set_cons_zero, List.set_cons_succ]
      refine inO_take 12 ⟨_, _, _, _, _, _⟩ (.bool false) rfl (by kernel_rfl) (by kernel_rfl) (by kernel_rfl) (fun _ _ _ h => h) rfl (fun ww => exec_move (by rfl) (by rfl) ww) ?_
      simp only [Act.put, List.setIfInBounds_toArray, List.set_cons_zero, List.set_cons_succ]
      refine inO_take 13 ⟨_, _, _, _, _, _⟩ (.pointer (some ⟨d, 0, none⟩)) rfl (by kernel_rfl) (by kernel_rfl) (by kernel_rfl) (fun _ _ _ h => h) rfl (fun ww => exec_move (by rfl) (by rfl) ww) ?_
      simp only [Act.put, List.setIfInBounds_toArray, List.set_cons_zero, List.set_cons_succ]
      refine inO_take 15 ⟨_, _, _, _, _, _⟩ (.pointer (some ⟨c, 0, none⟩)) rfl (by kernel_rfl) (by kernel_rfl) (by kernel_rfl) (fun _ _ _ h => h) rfl (fun ww => exec_move (by rfl) (by rfl) ww) ?_
      simp only [Act.put, List.setIfInBounds_toArray, List.set_cons_zero, List.set_cons_succ]
      refine inO_step 14 ⟨_, _, _, _, _, _⟩ rfl (by kernel_rfl) rfl (fun K hK => ?_)
      refine wp_call Try.func25 (by kernel_rfl) rfl _ _ rfl _ rfl _ (o_Pending hD10.out) fun e wC h => ?_
      obtain ⟨rfl, rfl⟩ := h
      rw [hp1.out]
      refine ⟨_, rfl, ?_⟩
      refine hK _ _ (Keeps.cons (fun hh => hh) (Keeps.cons (fun hh => hh) (Keeps.nil _ _ _))) ?_
      clear hK K
      simp only [Act.put, List.setIfInBounds_toArray, List.set_cons_zero, List.set_cons_succ]
      refine inO_step 16 ⟨_, _, _, _, _, _⟩ rfl (by kernel_rfl) rfl (fun K hK => ?_)
      refine wp_call Try.func25 (by kernel_rfl) rfl _ _ rfl _ rfl _ (o_Pending hC10.out) fun e wC h => ?_
      obtain ⟨rfl, rfl⟩ := h
      rw [hp2.out]
      refine ⟨_, rfl, ?_⟩
      refine hK _ _ (Keeps.cons (fun hh => hh) (Keeps.cons (fun hh => hh) (Keeps.nil _ _ _))) ?_
      clear hK K
      simp only [Act.put, List.setIfInBounds_toArray, List.set_cons_zero, List.set_cons_succ]
      refine inO_take 17 ⟨_, _, _, _, _, _⟩ (.int .i64 0) rfl (by kernel_rfl) (by kernel_rfl) (by kernel_rfl) (fun _ _ _ h => h) rfl (fun ww => by (go_simp; rfl)) ?_
      simp only [Act.put, List.setIfInBounds_toArray, List.set_cons_zero, List.set_cons_succ]
      refine inO_take 18 ⟨_, _, _, _, _, _⟩ (.bool false) rfl (by kernel_rfl) (by kernel_rfl) (by kernel_rfl) (fun _ _ _ h => h) rfl (fun ww => by go_simp) ?_
      simp only [Act.put, List.setIfInBounds_toArray, List.set_cons_zero, List.set_cons_succ]
      refine inO_take 19 ⟨_, _, _, _, _, _⟩ (.bool false) rfl (by kernel_rfl) (by kernel_rfl) (by kernel_rfl) (fun _ _ _ h => h) rfl (fun ww => by go_simp) ?_
      simp only [Act.put, List.setIfInBounds_toArray, List.set_cons_zero, List.set_cons_succ]
      refine inO_done (by kernel_rfl) ?_
      have hs10 : w8.heap.size ≤ wA.heap.size := bwA.size
      have hs11 : wA.heap.size ≤ wB.heap.size := bwB.size
      have q10 := Lib.hid (q8.out.trans ((below_of_drew bwA).mono hs8))
      have q11 := Lib.hid (q10.out.trans (bwB.mono (Nat.le_trans hs8 hs10)))
      have hkr2 := Lib.hid (hkr.out.below q11.out)
      have hbl : bs.length ≤ 9223372036854775807 := by omega
      have hs12 : w.heap.size ≤ wB.heap.size := q11.out.size
      clear bwA bwB
      go_wp2_with (at_builtin
                   refine wpList_copy rfl _ _ 34 rfl 4 ib _ 1 Try.underlying34 hib hzb hzb1 hzb2 rfl wB (by rfl) ko bs.length kc (boolsV bs) (by rfl) hkn.out (boolsV_length bs) hkr2.out (boolsV_one bs) (by omega) (by omega) ?_
                   intro eo ec wk hok hel hem hen hbk
                   have hDk := Lib.hid (hD10.out.below hbk)
                   have hNk := Lib.hid (range_below hN10.out hbk)
                   have qk := Lib.hid (q11.out.trans (hbk.mono hs12))
                   have hsk : w.heap.size ≤ wk.heap.size := qk.out.size
                   have hok := Lib.hid hok
                   clear hbk hen)
      refine (o_Crash hDk.out eo ec bs hpl1 hbl hok.out.reads (fun _ a ha hf => by
        have h1 := hok.out.lt a.block (by rw [ha]; rfl)
        have h2 := hD10.out.lt _ hf
        omega)).mono ?_
      rintro e w12 ⟨rfl, F12, h12, k12, g12⟩
      have q12 := Lib.hid (Kept.out qk.out k12 (fun i _ hi => hT8.out.lowF i hi) hsk)
      have hN12 : Hid (w12.rangeAt w2.heap.size 0 (secL s)) := Lib.hid (fun j v hv => (k12.cell (p := ⟨w2.heap.size, 0 + j, none⟩) (cell_lt (hNk.out j v hv)) hNF4.out).trans (hNk.out j v hv))
      have hD12 := Lib.hid h12
      have hs13 : w.heap.size ≤ w12.heap.size := q12.out.size
      clear k12 g12
      go_wp2
      refine inO_region [(3, fun w' => w'.rangeAt (w2.heap.size) (0) (secL s))] (by kernel_rfl) (Owed.cons (hN12.out) (Owed.nil _ _)) ?_
      refine inO_take 0 ⟨_, _, _, _, _, _⟩ (.pointer (some ⟨d, 0, none⟩)) rfl (by kernel_rfl) (by kernel_rfl) (by kernel_rfl) (fun _ _ _ h => h) rfl (fun ww => exec_move (by rfl) (by rfl) ww) ?_
      simp only [Act.put, List.setIfInBounds_toArray, List.set_cons_zero, List.set_cons_succ]
      refine inO_take 1 ⟨_, _, _, _, _, _⟩ (.int .i64 at_) rfl (by kernel_rfl) (by kernel_rfl) (by kernel_rfl) (fun _ _ _ h => h) rfl (fun ww => exec_move (by rfl) (by rfl) ww) ?_
      simp only [Act.put, List.setIfInBounds_toArray, List.set_cons_zero, List.set_cons_succ]
      refine inO_load 3 ⟨_, _, _, _, _, _⟩ (.agg (secL s).toArray) (fun w' => w'.rangeAt (w2.heap.size) (0) (secL s)) rfl (by kernel_rfl) (by kernel_rfl) (by kernel_rfl) (fun _ _ _ h => h) rfl (.head _) (fun ww hw => exec_load_mid _ _ (by rfl) _ _ (by rfl) _ _ hw Try.underlying33 rfl (infoSecL _)) ?_
      simp only [Act.put, List.setIfInBounds_toArray, List.set_cons_zero, List.set_cons_succ]
      refine inO_step 2 ⟨_, _, _, _, _, _⟩ rfl (by kernel_rfl) rfl (fun K hK => ?_)
      refine wp_call Try.func28 (by kernel_rfl) rfl _ _ rfl _ rfl _ (o_Stable hD12.out.drew at_ (by unfold I64; omega)) fun e wE h => ?_
      obtain ⟨rfl, bwE⟩ := h
      rw [hst3.out]
      refine ⟨_, rfl, ?_⟩
      refine hK _ _ (Keeps.cons (fun hh => range_below hh bwE) (Keeps.nil _ _ _)) ?_
      clear hK K
      simp only [Act.put, List.setIfInBounds_toArray, List.set_cons_zero, List.set_cons_succ]
      refine inO_take 4 ⟨_, _, _, _, _, _⟩ (.bool true) rfl (by kernel_rfl) (by kernel_rfl) (by kernel_rfl) (fun _ _ _ h => h) rfl (fun ww => by go_simp) ?_
      simp only [Act.put, List.setIfInBounds_toArray, List.set_cons_zero, List.set_cons_succ]
      refine inO_take 5 ⟨_, _, _, _, _, _⟩ (.bool true) rfl (by kernel_rfl) (by kernel_rfl) (by kernel_rfl) (fun _ _ _ h => h) rfl (fun ww => by go_simp) ?_
      simp only [Act.put, List.setIfInBounds_toArray, List.set_cons_zero, List.set_cons_succ]
      refine inO_done (by kernel_rfl) ?_
      go_wp2
      go_ret
      exact ⟨rfl, q12.out.trans ((below_of_drew bwE).mono hs13)⟩

set_option maxHeartbeats 2000000 in
theorem way_no (ao : Option Addr) (n cap : Nat) (ko : Option Addr) (l kc : Nat) (at_ : Int) (w : World) (h : 100 < n ∨ (n ≤ 100 ∧ at_ < 0) ∨ (n ≤ 100 ∧ 0 ≤ at_ ∧ 7 < at_)) :
    Calls Try.prog 8 #[.slice ao n cap, .slice ko l kc, .int .i64 at_] w fun e w' => e = .returned (.bool true) ∧ Below w.heap.size w w' := by
  rcases h with h | ⟨h, h1⟩ | ⟨h, h1, h2⟩
  all_goals
    go_enter Try.func8, Try.ntmps8
    go_wp2_with fail
    refine (alive_any w).mono ?_
    rintro e wa ⟨rfl, ba⟩
    have ba := Lib.hid ba
    go_wp2_with fail
    refine (New_any 8 (by unfold I64; omega) wa).mono ?_
    rintro e wb ⟨d, F0, rfl, hd0, lo0, bb⟩
    have q0 := Lib.hid (ba.out.trans (bb.mono ba.out.size))
    clear bb lo0 hd0
    go_wp2_with fail
    refine (New_any 8 (by unfold I64; omega) wb).mono ?_
    rintro e wc ⟨d2, F2, rfl, hd2, lo2, bc⟩
    have q1 := Lib.hid (q0.out.trans (bc.mono q0.out.size))
    clear bc lo2 hd2
    go_wp2
    go_ret
    exact ⟨rfl, q1.out⟩

theorem walk (ao : Option Addr) (as_ : List ActM) (cap : Nat) (ko : Option Addr) (bs : List Bool) (kc : Nat) (at_ : Int) (w : World) (hacts : Acts w ao as_) (hl : as_.length ≤ 140737488351232) (hnil : ao = none → cap = 0) (hkr : Reads w ko (boolsV bs)) (hkc : bs.length ≤ kc ∧ kc ≤ 140737488351232) (hkn : ko = none → kc = 0) (hi : I64 at_) :
    Calls Try.prog 8 #[.slice ao as_.length cap, .slice ko bs.length kc, .int .i64 at_] w fun e w' => e = .returned (.bool true) ∧ Below w.heap.size w w' := by
  by_cases h1 : as_.length ≤ 100
  · by_cases h2 : 0 ≤ at_
    · by_cases h3 : at_ ≤ 7
      · exact way_yes ao as_ cap _ ko bs kc at_ w hacts (Lib.hid rfl) h1 hkr hkc hkn h2 h3
      · exact way_no ao _ cap ko _ kc at_ w (.inr (.inr ⟨h1, h2, by omega⟩))
    · exact way_no ao _ cap ko _ kc at_ w (.inr (.inl ⟨h1, by omega⟩))
  · exact way_no ao _ cap ko _ kc at_ w (.inl (by omega))

theorem own : ownKnob Try.prog.godebug = none := by kernel_rfl
theorem laidOut : laidOutB Try.prog = true := by kernel_rfl

set_option maxRecDepth 100000 in
theorem lifted (os : Os) (started : os.Started) (H : Type) (enc : TypeId × Value → H) :
    ReturnsInHanded {} Try.checked os 8 .any (Rows.vdevFlushesSpec.pre6 enc Try.prog Try.f8 Rows.vdevFlushesRow.domain false) (Rows.vdevFlushesSpec.post enc Try.prog Try.f8 false true false false) := by
  refine returnsInHanded_of_change_sized (C := Try.checked) own started (by kernel_rfl) Try.func8
    (ChangeSpec.witness6 (enc := enc) (C := Try.checked) false ⟨#[], #[.slice none 0 0, .slice none 0 0, .int .i64 0], []⟩ 8 (by kernel_rfl) (by kernel_rfl) (by kernel_rfl) (by kernel_rfl)) ?_
  intro W base args ds gs before hval0 hW hcnd hsz0 _
  have hval : ∀ (j : Nat) t v, Try.f8.params[j]? = some t → args[j]? = some v → Value.okWide Try.prog W .any base t v := hval0
  have hsz : (DataW.weightsEach Try.prog (Try.f8.params.toList ++ Rows.vdevFlushesSpec.plain.varTypes Try.prog) (ds ++ gs)).all (· ≤ reachBytes) = true := hsz0
  have hW' := hW
  obtain ⟨p, q, hA0, hV, rfl, hfz, hnd⟩ := hW
  have hA : DataW.TrodAll enc Try.prog W 0 (fun _ => true) true Try.f8.params.toList args.toList ds p := hA0
  rw [Try.params8] at hA hval hsz
  obtain ⟨v0, vs0, d0, ds0, p0, q0, hargs, rfl, rfl, h0, r0⟩ := trodAll_cons hA
  obtain ⟨v1, vs1, d1, ds1, p1, q1, rfl, rfl, rfl, h1, r1⟩ := trodAll_cons r0
  obtain ⟨v2, vs2, d2, ds2, p2, q2, rfl, rfl, rfl, h2, r2⟩ := trodAll_cons r1
  obtain ⟨rfl, rfl, rfl⟩ := trodAll_nil r2
  obtain rfl : args = #[v0, v1, v2] := by cases args; simp_all
  obtain ⟨rfl, rfl⟩ := trodVars_none hV
  have k0 := h0
  have lt0 : ∀ x ∈ p0, x.block < W.heap.size := by obtain ⟨m, hm⟩ := k0; exact DataW.trod_lt m _ _ _ hm
  obtain ⟨ao0, a0, cap0, rfl, sp0, fi0, nl0⟩ := arg_acts h0 (hval 0 26 v0 rfl rfl) (light_arg hsz (j := 0) (t := 26) rfl rfl)
  have k1 := h1
  have lt1 : ∀ x ∈ p1, x.block < W.heap.size := by obtain ⟨m, hm⟩ := k1; exact DataW.trod_lt m _ _ _ hm
  obtain ⟨ao1, a1, cap1, rfl, sp1, fi1, nl1⟩ := arg_bools h1 (hval 1 34 v1 rfl rfl) (light_arg hsz (j := 1) (t := 34) rfl rfl)
  obtain ⟨a2, rfl, rfl, rfl, wf2⟩ := open_int Try.underlying3 (hval 2 3 v2 rfl rfl) h2
  clear hA0 hval0 hsz0
  refine (walk ao0 a0 cap0 ao1 a1 cap1 a2 W sp0 fi0 nl0 sp1 fi1 nl1 (wf_i64 wf2)).mono fun e W' ⟨he, bel⟩ => ?_
  subst he
  exact ⟨_, rfl, _, _, _, [], _, [], hW', trodAll_mk1 (shut_bool Try.underlying4 _), (trodAll_cons_mk (Below.trod laidOut (by kernel_rfl) (of_decide_eq_true (by kernel_rfl)) k0 bel lt0) (trodAll_cons_mk (Below.trod laidOut (by kernel_rfl) (of_decide_eq_true (by kernel_rfl)) k1 bel lt1) (trodAll_cons_mk (shut_int Try.underlying3 wf2) trodAll_mk0))), rfl, bel.frame _, fun h => by cases h⟩

theorem proved : Rows.VdevFlushesSaid :=
  OpenClaim.holds_of_wide 8 Try.f8 rfl rfl rfl rfl rfl rfl rfl ⟨rfl, rfl, rfl, rfl, rfl⟩ rfl rfl rfl rfl rfl (by kernel_rfl) Try.func8 (by kernel_rfl)
    (of_decide_eq_true (by kernel_rfl)) (by unfold Func.isWrapper; first | (rw [if_pos (by decide +kernel)]; kernel_rfl) | (rw [if_neg (by decide +kernel)]; exact ⟨rfl, rfl⟩))
    (fun os started H enc _ => lifted os started H enc)
end Go.Proofs.Ytfpacnokecfhmaa.lawVdevFlushes
