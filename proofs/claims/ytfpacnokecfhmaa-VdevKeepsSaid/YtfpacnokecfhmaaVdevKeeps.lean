/- VdevKeeps, for every input: the law returns true and each argument reads behind the call as before. No condition. -/
import Derived.Test.YtfpacnokecfhmaaKeeps
namespace Go.Proofs.Ytfpacnokecfhmaa.lawVdevKeeps
open Go.ChangeShapes Go.WideShapes Go.ChangeAt Go.RowKit Go.Deep
set_option linter.unusedVariables false

theorem zeroSecL (s : Sec) : ((Try.prog.info? 33).bind (·.zero)).map (·.cells.size) = some (secL s).length := by
  rw [secL_length]; kernel_rfl

set_option maxRecDepth 100000 in
set_option maxHeartbeats 4000000 in
theorem way_yes (ao : Option Addr) (as_ : List ActM) (cap n : Nat) (ko : Option Addr) (bs : List Bool) (kc : Nat) (at_ : Int) (w : World) (hacts : Acts w ao as_) (hn : Hid (as_.length = n)) (hn2 : n ≤ 200) (hkr : Reads w ko (boolsV bs)) (hkc : bs.length ≤ kc ∧ kc ≤ 140737488351232) (hkn : ko = none → kc = 0) (h0 : 0 ≤ at_) (h7 : at_ ≤ 7) :
    Calls Try.prog 5 #[.slice ao n cap, .slice ko bs.length kc, .int .i64 at_] w fun e w' => e = .returned (.bool true) ∧ Below w.heap.size w w' := by
  obtain ⟨j, hj⟩ : ∃ j : Nat, Hid (at_ = (j : Int)) := ⟨at_.toNat, Lib.hid (by omega)⟩
  have hj8 : j < 8 := by have := hj.out; omega
  have hacts := Lib.hid hacts
  have hkr := Lib.hid hkr
  have hkn := Lib.hid hkn
  have hz := zeroSec
  have hza := zeroAct
  have he := eqSec
  go_enter Try.func5, Try.ntmps5
  go_wp2_with fail
  refine (alive_any w).mono ?_
  rintro e wa ⟨rfl, ba⟩
  have ba := Lib.hid ba
  go_wp2_with fail
  refine (New_any 8 (by unfold I64; omega) wa).mono ?_
  rintro e wb ⟨d, F0, rfl, hd0, lo0, bb⟩
  rw [show DevM.newLen 8 = 8 from rfl] at hd0
  have q0 := Lib.hid (ba.out.trans (bb.mono ba.out.size))
  have lo0 := Lib.hid (fun k hk => Nat.le_trans ba.out.size (lo0 k hk))
  have hd0 := Lib.hid hd0
  have hwb : w.heap.size ≤ wb.heap.size := q0.out.size
  clear bb
  go_wp2_with (first
    | (refine wantList_build (by rfl) 33 [] rfl (secL sec0) _ (by rfl) built_sec0 ?_)
    | (refine wantList_store (by rfl) 33 _ _ rfl wb.heap.size 0 (by rfl) (secL sec0) (by rfl) _ (secL sec0) (secL sec0) (Blk.new _ _ _) (by simp [secL_length]) (secL_one _) (infoSecL _) (whole_new (by simp [secL_length])) ?_
       intro wc hx k0 z0
       have hwc : wb.heap.size < wc.heap.size := hx.lt
       have hS0 := Lib.hid (KSt.reset (B := w.heap.size) (v := .slice none 0 0) (since := []) (X := wb.heap.size) (fl := sec0) (m := DevM.fresh 8) (d := d) (F := F0) (w := wc)
         ⟨(hd0.out.alloc (.cells (secL sec0).toArray 33)).kept k0 (fun i hi e => by have := hd0.out.lt i hi; omega), lo0.out, (fun hf => by have := hd0.out.lt _ hf; omega), hx, World.ownsRow_nil _ _ _ _, (by simp [Value.ownBlock]), (fun g hg => by simp [Value.ownBlock] at hg)⟩ (by omega))
       have qc := Lib.hid ((Kept.out (q0.out.alloc q0.out.size _) k0 (fun i _ e => by omega) (by simp; omega)).alloc (by omega) (.cells #[] 33))
       clear k0 z0 hx))
  go_loopw [9, 40] (fun v i wr => ∃ (k : Nat) (F : Nat → Prop) (m : DevM) (fl : Sec) (since : List Sec), k ≤ n ∧ i = .int .i64 k ∧ Hid (KSt w.heap.size wr d F m wb.heap.size fl v since) ∧ Hid (KeepsI m j fl since k) ∧ Hid (Below w.heap.size w wr))
    (fun _ i _ => n - (intOf i).toNat)
  case atStart => exact ⟨0, F0, DevM.fresh 8, sec0, [], by omega, rfl, hS0, Lib.hid ⟨rfl, Nat.le_refl _, rep_getD 8 j, rfl⟩, qc⟩
  case round =>
    clear hS0 qc
    obtain ⟨k, F, m, fl, since, hk, rfl, hS, hI, hb⟩ := hrel
    have hpl : m.pending.length ≤ 1000000000 := by have := hI.out.pend; omega
    have hbs : w.heap.size ≤ wr.heap.size := hb.out.size
    by_cases hlt : k < n
    · obtain ⟨b, off, rfl, hbb, hr⟩ := (hacts.out.below hb.out).range (k := k) (by rw [hn.out]; exact hlt)
      have hok : ActOk w (as_[k]'(by rw [hn.out]; exact hlt)) := hacts.out.each _ (List.getElem_mem _)
      obtain ⟨a, ha⟩ : ∃ a : ActM, Hid (a = as_[k]'(by rw [hn.out]; exact hlt)) := ⟨_, Lib.hid rfl⟩
      rw [← ha.out] at hr hok
      have hr := Lib.hid hr
      have hok := Lib.hid hok
      have hXne : ¬ (wb.heap.size = wr.heap.size) := fun e => by have := hS.out.var.lt; omega
      have hXne' : ¬ (wr.heap.size = wb.heap.size) := fun e => by have := hS.out.var.lt; omega
      have hAF : Hid (¬ F wr.heap.size) := Lib.hid (fun e => by have := hS.out.dev.lt _ e; omega)
      have i0 : (0 : Int) ≤ (k : Int) := by omega
      have i1 : (k : Int) < (n : Int) := by omega
      obtain ⟨ao9, cap9, hv9, hg9⟩ := owns_form hS.out.own
      subst hv9
      have hg9 := Lib.hid hg9
      by_cases hk1 : a.kind = 1
      · have hkd := Lib.hid hk1
        clear hk1
        cases hin : m.has a.at_
        · obtain ⟨m', hm0, hI'⟩ := hI.out.write_out a.at_ a.data hin
          have hres : Hid ((m.write a.at_ a.data).2 = 41) := Lib.hid (by rw [hm0])
          have hm' : Hid ((m.write a.at_ a.data).1 = m') := Lib.hid (by rw [hm0])
          have hI' := Lib.hid hI'
          clear hm0 hin
          go_wp2_with (first
            | (refine wantList_load (by rfl) 36 _ rfl b (off + k * 131) (by rfl) (actL a) _ hr.out Try.underlying36 rfl (infoActL _) ?_)
            | (refine wantList_store (by rfl) 36 _ _ rfl wr.heap.size 0 (by rfl) (actL a) (by rfl) _ (actL act0) (actL a) (Blk.new _ _ _) (by simp [actL_length]) (actL_one _) (infoActL _) (whole_new (by simp [actL_length])) ?_
               intro w1 hA1 k1 z1
               have hS1 := Lib.hid ((hS.out.alloc (.cells (actL act0).toArray 36)).kept k1 (fun i hi e => by have := hS.out.dev.lt i hi; omega) (by have := hS.out.var.lt; omega) (fun g hg e => by have := (World.ownsRow.lt hS.out.own g hg).2; omega))
               have q1 := Lib.hid (Kept.out (hb.out.alloc hbs _) k1 (fun i _ e => by omega) (by simp; omega))
               have c0 := act_c0 hA1
               have c1 := act_c1 hA1
               have r1 := Lib.hid (act_r2 hA1)
               have hA1 := Lib.hid hA1
               rw [hkd.out] at c0
               clear k1 z1)
            | (refine wantList_load (by rfl) 33 _ rfl wr.heap.size 2 (by rfl) (secL a.data) _ r1.out Try.underlying33 rfl (infoSecL _) ?_))
          refine (o_Write hS1.out.dev a.at_ hok.out.at_ a.data hpl).mono ?_
          rintro e w2 ⟨rfl, F2, h2, k2, g2⟩
          rw [hres.out]
          rw [hm'.out] at h2
          have hs1 : w.heap.size ≤ w1.heap.size := q1.out.size
          have hS2 := Lib.hid (hS1.out.call k2 h2 g2 hs1)
          have q2 := Lib.hid (Kept.out q1.out k2 (fun i _ hi => hS1.out.low i hi) hs1)
          have hA2 := hA1.out.kept k2 hAF.out
          have c0 := act_c0 hA2
          have c1 := act_c1 hA2
          have r2 := Lib.hid (act_r2 hA2)
          rw [hkd.out] at c0
          have hs2 : w.heap.size ≤ w2.heap.size := q2.out.size
          have hA2 := Lib.hid hA2
          clear k2 g2 h2
          go_wp2
          go_roundw
          case rel => exact ⟨k + 1, F2, m', fl, since, by omega, by go_num, hS2, hI', q2⟩
          case measure => simp [intOf] <;> omega
        · cases hla : m.lasts
          · obtain ⟨m', hm0, hI'⟩ := hI.out.write_off a.at_ a.data hin hla
            have hres : Hid ((m.write a.at_ a.data).2 = 42) := Lib.hid (by rw [hm0])
            have hm' : Hid ((m.write a.at_ a.data).1 = m') := Lib.hid (by rw [hm0])
            have hI' := Lib.hid hI'
            clear hm0 hin hla
            go_wp2_with (first
              | (refine wantList_load (by rfl) 36 _ rfl b (off + k * 131) (by rfl) (actL a) _ hr.out Try.underlying36 rfl (infoActL _) ?_)
              | (refine wantList_store (by rfl) 36 _ _ rfl wr.heap.size 0 (by rfl) (actL a) (by rfl) _ (actL act0) (actL a) (Blk.new _ _ _) (by simp [actL_length]) (actL_one _) (infoActL _) (whole_new (by simp [actL_length])) ?_
                 intro w1 hA1 k1 z1
                 have hS1 := Lib.hid ((hS.out.alloc (.cells (actL act0).toArray 36)).kept k1 (fun i hi e => by have := hS.out.dev.lt i hi; omega) (by have := hS.out.var.lt; omega) (fun g hg e => by have := (World.ownsRow.lt hS.out.own g hg).2; omega))
                 have q1 := Lib.hid (Kept.out (hb.out.alloc hbs _) k1 (fun i _ e => by omega) (by simp; omega))
                 have c0 := act_c0 hA1
                 have c1 := act_c1 hA1
                 have r1 := Lib.hid (act_r2 hA1)
                 have hA1 := Lib.hid hA1
                 rw [hkd.out] at c0
                 clear k1 z1)
              | (refine wantList_load (by rfl) 33 _ rfl wr.heap.size 2 (by rfl) (secL a.data) _ r1.out Try.underlying33 rfl (infoSecL _) ?_))
            refine (o_Write hS1.out.dev a.at_ hok.out.at_ a.data hpl).mono ?_
            rintro e w2 ⟨rfl, F2, h2, k2, g2⟩
            rw [hres.out]
            rw [hm'.out] at h2
            have hs1 : w.heap.size ≤ w1.heap.size := q1.out.size
            have hS2 := Lib.hid (hS1.out.call k2 h2 g2 hs1)
            have q2 := Lib.hid (Kept.out q1.out k2 (fun i _ hi => hS1.out.low i hi) hs1)
            have hA2 := hA1.out.kept k2 hAF.out
            have c0 := act_c0 hA2
            have c1 := act_c1 hA2
            have r2 := Lib.hid (act_r2 hA2)
            rw [hkd.out] at c0
            have hs2 : w.heap.size ≤ w2.heap.size := q2.out.size
            have hA2 := Lib.hid hA2
            clear k2 g2 h2
            go_wp2
            go_roundw
            case rel => exact ⟨k + 1, F2, m', fl, since, by omega, by go_num, hS2, hI', q2⟩
            case measure => simp [intOf] <;> omega
          · by_cases hrel2 : a.at_ = at_
            · obtain ⟨m', hm0, hI'⟩ := hI.out.write_in a.at_ a.data hin hla
              rw [if_pos (hrel2.trans hj.out)] at hI'
              have hres : Hid ((m.write a.at_ a.data).2 = 0) := Lib.hid (by rw [hm0])
              have hm' : Hid ((m.write a.at_ a.data).1 = m') := Lib.hid (by rw [hm0])
              have eAt : (a.at_ == at_) = true := by rw [hrel2]; simp
              have hI' := Lib.hid hI'
              clear hm0 hin hla hrel2
              go_wp2_with (first
                | (refine wantList_load (by rfl) 36 _ rfl b (off + k * 131) (by rfl) (actL a) _ hr.out Try.underlying36 rfl (infoActL _) ?_)
                | (refine wantList_store (by rfl) 36 _ _ rfl wr.heap.size 0 (by rfl) (actL a) (by rfl) _ (actL act0) (actL a) (Blk.new _ _ _) (by simp [actL_length]) (actL_one _) (infoActL _) (whole_new (by simp [actL_length])) ?_
                   intro w1 hA1 k1 z1
                   have hS1 := Lib.hid ((hS.out.alloc (.cells (actL act0).toArray 36)).kept k1 (fun i hi e => by have := hS.out.dev.lt i hi; omega) (by have := hS.out.var.lt; omega) (fun g hg e => by have := (World.ownsRow.lt hS.out.own g hg).2; omega))
                   have q1 := Lib.hid (Kept.out (hb.out.alloc hbs _) k1 (fun i _ e => by omega) (by simp; omega))
                   have c0 := act_c0 hA1
                   have c1 := act_c1 hA1
                   have r1 := Lib.hid (act_r2 hA1)
                   have hA1 := Lib.hid hA1
                   rw [hkd.out] at c0
                   clear k1 z1)
                | (refine wantList_load (by rfl) 33 _ rfl wr.heap.size 2 (by rfl) (secL a.data) _ r1.out Try.underlying33 rfl (infoSecL _) ?_))
              refine (o_Write hS1.out.dev a.at_ hok.out.at_ a.data hpl).mono ?_
              rintro e w2 ⟨rfl, F2, h2, k2, g2⟩
              rw [hres.out]
              rw [hm'.out] at h2
              have hs1 : w.heap.size ≤ w1.heap.size := q1.out.size
              have hS2 := Lib.hid (hS1.out.call k2 h2 g2 hs1)
              have q2 := Lib.hid (Kept.out q1.out k2 (fun i _ hi => hS1.out.low i hi) hs1)
              have hA2 := hA1.out.kept k2 hAF.out
              have c0 := act_c0 hA2
              have c1 := act_c1 hA2
              have r2 := Lib.hid (act_r2 hA2)
              rw [hkd.out] at c0
              have hs2 : w.heap.size ≤ w2.heap.size := q2.out.size
              have hA2 := Lib.hid hA2
              clear k2 g2 h2
              go_upto_region 12 with (fail)
              obtain ⟨i0, hi0, hz0, hz1, hz2⟩ := info_parts infoSec3
              have hsl := hI.out.short
              go_upto_region 13 with (first
                | (refine wantList_load (by rfl) 33 _ rfl wr.heap.size 2 (by rfl) (secL a.data) _ r2.out Try.underlying33 rfl (infoSecL _) ?_)
                | (refine wantList (by rfl) fun K hK => ?_
                   refine wp_buildOne 27 33 _ rfl (secL a.data) rfl Try.underlying27 (infoSecL _) (zeroSecL _) (by rw [secL_length]; omega) (by rw [secL_length]; decide) ?_
                   refine hK _ _ ?_
                   clear hK K
                   have hS3 := Lib.hid (hS2.out.alloc (.cells (secL a.data).toArray 33))
                   have q3 := Lib.hid (q2.out.alloc hs2 (.cells (secL a.data).toArray 33)))
                | (refine wantList (by rfl) fun K hK => ?_
                   refine wp_push _ _ 27 rfl w.heap.size 33 i0 _ 128 128 Try.underlying27 hi0 hz0 hz1 hz2 (List.size_toArray.trans (secL_length _)) (by omega) (.slice ao9 since.length cap9) since.length (rowsL secL since) rfl hS3.out.own w2.heap.size 1 (secL a.data) rfl (Blk.new _ _ _) (secL_length _) (secL_one _) (by unfold maxLen; omega) (by omega) (by simp; omega) ?_
                   intro v' w4 ho4 hg4 hat4
                   refine hK _ _ ?_
                   clear hK K
                   have hA4 := (hA2.out.alloc (.cells (secL a.data).toArray 33)).kept (F := fun k => (Value.slice ao9 since.length cap9).ownBlock = some k) (Kept.of_grown hg4 (fun k hk _ => hk)) (fun e => by have := hA2.out.lt; have := (World.ownsRow.lt hS.out.own _ e).2; omega)
                   have c04 := act_c0 hA4
                   rw [hkd.out] at c04
                   have hS4 := Lib.hid (hS3.out.push a.data hg4 ho4 hat4)
                   have q4 := Lib.hid (q3.out.grown hg4 q3.out.size (fun k hk => (World.ownsRow.lt hS3.out.own k hk).1))
                   clear ho4 hg4 hat4 hA4))
              go_wp2
              go_roundw
              case rel => exact ⟨k + 1, F2, m', fl, since ++ [a.data], by omega, by go_num, hS4, hI', q4⟩
              case measure => simp [intOf] <;> omega
            · obtain ⟨m', hm0, hI'⟩ := hI.out.write_in a.at_ a.data hin hla
              rw [if_neg (fun e => hrel2 (e.trans hj.out.symm)), List.append_nil] at hI'
              have hres : Hid ((m.write a.at_ a.data).2 = 0) := Lib.hid (by rw [hm0])
              have hm' : Hid ((m.write a.at_ a.data).1 = m') := Lib.hid (by rw [hm0])
              have eAt : (a.at_ == at_) = false := by simpa using hrel2
              have hI' := Lib.hid hI'
              clear hm0 hin hla hrel2
              go_wp2_with (first
                | (refine wantList_load (by rfl) 36 _ rfl b (off + k * 131) (by rfl) (actL a) _ hr.out Try.underlying36 rfl (infoActL _) ?_)
                | (refine wantList_store (by rfl) 36 _ _ rfl wr.heap.size 0 (by rfl) (actL a) (by rfl) _ (actL act0) (actL a) (Blk.new _ _ _) (by simp [actL_length]) (actL_one _) (infoActL _) (whole_new (by simp [actL_length])) ?_
                   intro w1 hA1 k1 z1
                   have hS1 := Lib.hid ((hS.out.alloc (.cells (actL act0).toArray 36)).kept k1 (fun i hi e => by have := hS.out.dev.lt i hi; omega) (by have := hS.out.var.lt; omega) (fun g hg e => by have := (World.ownsRow.lt hS.out.own g hg).2; omega))
                   have q1 := Lib.hid (Kept.out (hb.out.alloc hbs _) k1 (fun i _ e => by omega) (by simp; omega))
                   have c0 := act_c0 hA1
                   have c1 := act_c1 hA1
                   have r1 := Lib.hid (act_r2 hA1)
                   have hA1 := Lib.hid hA1
                   rw [hkd.out] at c0
                   clear k1 z1)
                | (refine wantList_load (by rfl) 33 _ rfl wr.heap.size 2 (by rfl) (secL a.data) _ r1.out Try.underlying33 rfl (infoSecL _) ?_))
              refine (o_Write hS1.out.dev a.at_ hok.out.at_ a.data hpl).mono ?_
              rintro e w2 ⟨rfl, F2, h2, k2, g2⟩
              rw [hres.out]
              rw [hm'.out] at h2
              have hs1 : w.heap.size ≤ w1.heap.size := q1.out.size
              have hS2 := Lib.hid (hS1.out.call k2 h2 g2 hs1)
              have q2 := Lib.hid (Kept.out q1.out k2 (fun i _ hi => hS1.out.low i hi) hs1)
              have hA2 := hA1.out.kept k2 hAF.out
              have c0 := act_c0 hA2
              have c1 := act_c1 hA2
              have r2 := Lib.hid (act_r2 hA2)
              rw [hkd.out] at c0
              have hs2 : w.heap.size ≤ w2.heap.size := q2.out.size
              have hA2 := Lib.hid hA2
              clear k2 g2 h2
              go_wp2
              go_roundw
              case rel => exact ⟨k + 1, F2, m', fl, since, by omega, by go_num, hS2, hI', q2⟩
              case measure => simp [intOf] <;> omega
      · by_cases hk2 : a.kind = 2
        · have hkd := Lib.hid hk2
          clear hk1 hk2
          cases hla : m.lasts
          · obtain ⟨m', hm0, hI'⟩ := hI.out.flush_off hla
            have hres : Hid (m.flush.2 = 42) := Lib.hid (by rw [hm0])
            have hm' : Hid (m.flush.1 = m') := Lib.hid (by rw [hm0])
            have hI' := Lib.hid hI'
            clear hm0 hla
            go_wp2_with (first
              | (refine wantList_load (by rfl) 36 _ rfl b (off + k * 131) (by rfl) (actL a) _ hr.out Try.underlying36 rfl (infoActL _) ?_)
              | (refine wantList_store (by rfl) 36 _ _ rfl wr.heap.size 0 (by rfl) (actL a) (by rfl) _ (actL act0) (actL a) (Blk.new _ _ _) (by simp [actL_length]) (actL_one _) (infoActL _) (whole_new (by simp [actL_length])) ?_
                 intro w1 hA1 k1 z1
                 have hS1 := Lib.hid ((hS.out.alloc (.cells (actL act0).toArray 36)).kept k1 (fun i hi e => by have := hS.out.dev.lt i hi; omega) (by have := hS.out.var.lt; omega) (fun g hg e => by have := (World.ownsRow.lt hS.out.own g hg).2; omega))
                 have q1 := Lib.hid (Kept.out (hb.out.alloc hbs _) k1 (fun i _ e => by omega) (by simp; omega))
                 have c0 := act_c0 hA1
                 have c1 := act_c1 hA1
                 have r1 := Lib.hid (act_r2 hA1)
                 have hA1 := Lib.hid hA1
                 rw [hkd.out] at c0
                 clear k1 z1)
              | (refine wantList_load (by rfl) 33 _ rfl wr.heap.size 2 (by rfl) (secL a.data) _ r1.out Try.underlying33 rfl (infoSecL _) ?_))
            refine (o_Flush hS1.out.dev hpl).mono ?_
            rintro e w2 ⟨rfl, F2, h2, k2, g2⟩
            rw [hres.out]
            rw [hm'.out] at h2
            have hs1 : w.heap.size ≤ w1.heap.size := q1.out.size
            have hS2 := Lib.hid (hS1.out.call k2 h2 g2 hs1)
            have q2 := Lib.hid (Kept.out q1.out k2 (fun i _ hi => hS1.out.low i hi) hs1)
            have hA2 := hA1.out.kept k2 hAF.out
            have c0 := act_c0 hA2
            have c1 := act_c1 hA2
            have r2 := Lib.hid (act_r2 hA2)
            rw [hkd.out] at c0
            have hs2 : w.heap.size ≤ w2.heap.size := q2.out.size
            have hA2 := Lib.hid hA2
            clear k2 g2 h2
            go_wp2
            go_roundw
            case rel => exact ⟨k + 1, F2, m', fl, since, by omega, by go_num, hS2, hI', q2⟩
            case measure => simp [intOf] <;> omega
          · by_cases hne : since = []
            · obtain ⟨m', hm0, hI'⟩ := hI.out.flush_on hj8 hla
              have hres : Hid (m.flush.2 = 0) := Lib.hid (by rw [hm0])
              have hm' : Hid (m.flush.1 = m') := Lib.hid (by rw [hm0])
              have hI' := Lib.hid hI'
              clear hm0 hla
              go_wp2_with (first
                | (refine wantList_load (by rfl) 36 _ rfl b (off + k * 131) (by rfl) (actL a) _ hr.out Try.underlying36 rfl (infoActL _) ?_)
                | (refine wantList_store (by rfl) 36 _ _ rfl wr.heap.size 0 (by rfl) (actL a) (by rfl) _ (actL act0) (actL a) (Blk.new _ _ _) (by simp [actL_length]) (actL_one _) (infoActL _) (whole_new (by simp [actL_length])) ?_
                   intro w1 hA1 k1 z1
                   have hS1 := Lib.hid ((hS.out.alloc (.cells (actL act0).toArray 36)).kept k1 (fun i hi e => by have := hS.out.dev.lt i hi; omega) (by have := hS.out.var.lt; omega) (fun g hg e => by have := (World.ownsRow.lt hS.out.own g hg).2; omega))
                   have q1 := Lib.hid (Kept.out (hb.out.alloc hbs _) k1 (fun i _ e => by omega) (by simp; omega))
                   have c0 := act_c0 hA1
                   have c1 := act_c1 hA1
                   have r1 := Lib.hid (act_r2 hA1)
                   have hA1 := Lib.hid hA1
                   rw [hkd.out] at c0
                   clear k1 z1)
                | (refine wantList_load (by rfl) 33 _ rfl wr.heap.size 2 (by rfl) (secL a.data) _ r1.out Try.underlying33 rfl (infoSecL _) ?_))
              refine (o_Flush hS1.out.dev hpl).mono ?_
              rintro e w2 ⟨rfl, F2, h2, k2, g2⟩
              rw [hres.out]
              rw [hm'.out] at h2
              have hs1 : w.heap.size ≤ w1.heap.size := q1.out.size
              have hS2 := Lib.hid (hS1.out.call k2 h2 g2 hs1)
              have q2 := Lib.hid (Kept.out q1.out k2 (fun i _ hi => hS1.out.low i hi) hs1)
              have hA2 := hA1.out.kept k2 hAF.out
              have c0 := act_c0 hA2
              have c1 := act_c1 hA2
              have r2 := Lib.hid (act_r2 hA2)
              rw [hkd.out] at c0
              have hs2 : w.heap.size ≤ w2.heap.size := q2.out.size
              have hA2 := Lib.hid hA2
              clear k2 g2 h2
              subst hne
              go_wp2
              go_roundw
              case rel => exact ⟨k + 1, F2, m', fl, [], by omega, by go_num, hS2, hI', q2⟩
              case measure => simp [intOf] <;> omega
            · obtain ⟨m', hm0, hI'⟩ := hI.out.flush_on hj8 hla
              have hres : Hid (m.flush.2 = 0) := Lib.hid (by rw [hm0])
              have hm' : Hid (m.flush.1 = m') := Lib.hid (by rw [hm0])
              have hI' := Lib.hid hI'
              clear hm0 hla
              go_wp2_with (first
                | (refine wantList_load (by rfl) 36 _ rfl b (off + k * 131) (by rfl) (actL a) _ hr.out Try.underlying36 rfl (infoActL _) ?_)
                | (refine wantList_store (by rfl) 36 _ _ rfl wr.heap.size 0 (by rfl) (actL a) (by rfl) _ (actL act0) (actL a) (Blk.new _ _ _) (by simp [actL_length]) (actL_one _) (infoActL _) (whole_new (by simp [actL_length])) ?_
                   intro w1 hA1 k1 z1
                   have hS1 := Lib.hid ((hS.out.alloc (.cells (actL act0).toArray 36)).kept k1 (fun i hi e => by have := hS.out.dev.lt i hi; omega) (by have := hS.out.var.lt; omega) (fun g hg e => by have := (World.ownsRow.lt hS.out.own g hg).2; omega))
                   have q1 := Lib.hid (Kept.out (hb.out.alloc hbs _) k1 (fun i _ e => by omega) (by simp; omega))
                   have c0 := act_c0 hA1
                   have c1 := act_c1 hA1
                   have r1 := Lib.hid (act_r2 hA1)
                   have hA1 := Lib.hid hA1
                   rw [hkd.out] at c0
                   clear k1 z1)
                | (refine wantList_load (by rfl) 33 _ rfl wr.heap.size 2 (by rfl) (secL a.data) _ r1.out Try.underlying33 rfl (infoSecL _) ?_))
              refine (o_Flush hS1.out.dev hpl).mono ?_
              rintro e w2 ⟨rfl, F2, h2, k2, g2⟩
              rw [hres.out]
              rw [hm'.out] at h2
              have hs1 : w.heap.size ≤ w1.heap.size := q1.out.size
              have hS2 := Lib.hid (hS1.out.call k2 h2 g2 hs1)
              have q2 := Lib.hid (Kept.out q1.out k2 (fun i _ hi => hS1.out.low i hi) hs1)
              have hA2 := hA1.out.kept k2 hAF.out
              have c0 := act_c0 hA2
              have c1 := act_c1 hA2
              have r2 := Lib.hid (act_r2 hA2)
              rw [hkd.out] at c0
              have hs2 : w.heap.size ≤ w2.heap.size := q2.out.size
              have hA2 := Lib.hid hA2
              clear k2 g2 h2
              have hpos : 0 < since.length := List.length_pos_iff.2 hne
              have hposI : (0 : Int) < (since.length : Int) := by omega
              go_upto_region 14 with (fail)
              obtain ⟨ns, hns, ys, y, hys⟩ : ∃ ns, Hid (since.length = ns + 1) ∧ ∃ (ys : List Sec) (y : Sec), Hid (since = ys ++ [y] ∧ ys.length = ns) := by
                rcases List.eq_nil_or_concat since with h | ⟨ys, y, h⟩
                · exact absurd h hne
                · exact ⟨ys.length, Lib.hid (by rw [h]; simp), ys, y, Lib.hid ⟨by rw [h]; simp, rfl⟩⟩
              obtain ⟨g9, rfl, hgo9, hgl9⟩ := hg9.out (by have := hns.out; omega)
              have hry : w2.rangeAt g9 (ns * 128) (secL y) := fun jj u hu => by
                have h1 := rowsL_at secL_length since ns (by have := hns.out; omega) jj u (by have h := hys.out.1; subst h; have h3 := hys.out.2; simpa [← h3] using hu)
                have hjl : ns * 128 + jj < (rowsL secL since).length := (List.getElem?_eq_some_iff.1 h1).1
                rw [World.ownsRow.cellAt hS2.out.own (ns * 128 + jj) (by rw [rowsL_length secL_length] at hjl; omega)]
                exact h1
              have hry := Lib.hid hry
              have hlast : Hid (since.getLastD fl = y) := Lib.hid (by rw [hys.out.1]; simp)
              rw [hlast.out] at hI'
              rw [hns.out]
              have j0 : (0 : Int) ≤ (ns : Int) := by omega
              have jb : (ns : Int) ≤ 200 := by have := hI.out.short; have := hns.out; omega
              clear hne
              go_upto_region 15 with (first
                | (refine wantList_load (by rfl) 33 _ rfl g9 (ns * 128) (by rfl) (secL y) _ hry.out Try.underlying33 rfl (infoSecL _) ?_)
                | (refine wantList_store (by rfl) 33 _ _ rfl wb.heap.size 0 (by rfl) (secL y) (by rfl) _ (secL fl) (secL y) hS2.out.var (by simp [secL_length]) (secL_one _) (infoSecL _) (whole_new (by simp [secL_length])) ?_
                   intro w3 hx3 k3 z3
                   have hS3 := Lib.hid (hS2.out.setVar k3 hx3)
                   have q3 := Lib.hid (Kept.out q2.out k3 (fun i _ e => by omega) hs2)
                   have hA3 := hA2.out.kept k3 hXne'
                   have c03 := act_c0 hA3
                   rw [hkd.out] at c03
                   have hs3 : w.heap.size ≤ w3.heap.size := q3.out.size
                   have hAl := hA3.lt
                   clear k3 z3 hA3))
              go_wp2
              go_roundw
              case rel => exact ⟨k + 1, F2, m', y, [], by omega, by go_num, Lib.hid (hS3.out.reset hs3), hI', Lib.hid (q3.out.alloc hs3 _)⟩
              case measure => simp [intOf] <;> omega
        · by_cases hk3 : a.kind = 3
          · have hkd := Lib.hid hk3
            clear hk1 hk2 hk3
            go_wp2_with (first
              | (refine wantList_load (by rfl) 36 _ rfl b (off + k * 131) (by rfl) (actL a) _ hr.out Try.underlying36 rfl (infoActL _) ?_)
              | (refine wantList_store (by rfl) 36 _ _ rfl wr.heap.size 0 (by rfl) (actL a) (by rfl) _ (actL act0) (actL a) (Blk.new _ _ _) (by simp [actL_length]) (actL_one _) (infoActL _) (whole_new (by simp [actL_length])) ?_
                 intro w1 hA1 k1 z1
                 have hS1 := Lib.hid ((hS.out.alloc (.cells (actL act0).toArray 36)).kept k1 (fun i hi e => by have := hS.out.dev.lt i hi; omega) (by have := hS.out.var.lt; omega) (fun g hg e => by have := (World.ownsRow.lt hS.out.own g hg).2; omega))
                 have q1 := Lib.hid (Kept.out (hb.out.alloc hbs _) k1 (fun i _ e => by omega) (by simp; omega))
                 have c0 := act_c0 hA1
                 have c1 := act_c1 hA1
                 have r1 := Lib.hid (act_r2 hA1)
                 have hA1 := Lib.hid hA1
                 rw [hkd.out] at c0
                 clear k1 z1)
              | (refine wantList_load (by rfl) 33 _ rfl wr.heap.size 2 (by rfl) (secL a.data) _ r1.out Try.underlying33 rfl (infoSecL _) ?_))
            refine (o_Break hS1.out.dev a.at_ hok.out.at_).mono ?_
            rintro e w2 ⟨rfl, F2, h2, k2, g2⟩
            skip
            have hs1 : w.heap.size ≤ w1.heap.size := q1.out.size
            have hS2 := Lib.hid (hS1.out.call k2 h2 g2 hs1)
            have q2 := Lib.hid (Kept.out q1.out k2 (fun i _ hi => hS1.out.low i hi) hs1)
            have hA2 := hA1.out.kept k2 hAF.out
            have c0 := act_c0 hA2
            have c1 := act_c1 hA2
            have r2 := Lib.hid (act_r2 hA2)
            rw [hkd.out] at c0
            have hs2 : w.heap.size ≤ w2.heap.size := q2.out.size
            have hA2 := Lib.hid hA2
            clear k2 g2 h2
            go_wp2
            go_roundw
            case rel => exact ⟨k + 1, F2, m.brk a.at_, fl, since, by omega, by go_num, hS2, Lib.hid ⟨hI.out.len, hI.out.succ.pend, hI.out.fl, hI.out.si⟩, q2⟩
            case measure => simp [intOf] <;> omega
          · have e1 : (a.kind == 1) = false := by simpa using hk1
            have e2 : (a.kind == 2) = false := by simpa using hk2
            have e3 : (a.kind == 3) = false := by simpa using hk3
            clear hk1 hk2 hk3
            go_wp2_with (first
              | (refine wantList_load (by rfl) 36 _ rfl b (off + k * 131) (by rfl) (actL a) _ hr.out Try.underlying36 rfl (infoActL _) ?_)
              | (refine wantList_store (by rfl) 36 _ _ rfl wr.heap.size 0 (by rfl) (actL a) (by rfl) _ (actL act0) (actL a) (Blk.new _ _ _) (by simp [actL_length]) (actL_one _) (infoActL _) (whole_new (by simp [actL_length])) ?_
                 intro w1 hA1 k1 z1
                 have hS1 := Lib.hid ((hS.out.alloc (.cells (actL act0).toArray 36)).kept k1 (fun i hi e => by have := hS.out.dev.lt i hi; omega) (by have := hS.out.var.lt; omega) (fun g hg e => by have := (World.ownsRow.lt hS.out.own g hg).2; omega))
                 have q1 := Lib.hid (Kept.out (hb.out.alloc hbs _) k1 (fun i _ e => by omega) (by simp; omega))
                 have c0 := act_c0 hA1
                 have c1 := act_c1 hA1
                 have r1 := Lib.hid (act_r2 hA1)
                 have hA1 := Lib.hid hA1
                 skip
                 clear k1 z1)
              | (refine wantList_load (by rfl) 33 _ rfl wr.heap.size 2 (by rfl) (secL a.data) _ r1.out Try.underlying33 rfl (infoSecL _) ?_))
            go_roundw
            case rel => exact ⟨k + 1, F, m, fl, since, by omega, by go_num, hS1, Lib.hid hI.out.succ, q1⟩
            case measure => simp [intOf] <;> omega
    · obtain rfl : k = n := by omega
      obtain ⟨ib, hib, hzb, hzb1, hzb2⟩ := info_parts infoBool
      have hshort := hI.out.short
      have hkr2 := Lib.hid (hkr.out.below hb.out)
      obtain ⟨ao9, cap9, hv9, hg9⟩ := owns_form hS.out.own
      subst hv9
      have hg9 := Lib.hid hg9
      have hbl : bs.length ≤ 9223372036854775807 := by omega
      go_wp2_with (at_builtin
                   refine wpList_copy rfl _ _ 34 rfl 4 ib _ 1 Try.underlying34 hib hzb hzb1 hzb2 rfl wr (by rfl) ko bs.length kc (boolsV bs) (by rfl) hkn.out (boolsV_length bs) hkr2.out (boolsV_one bs) (by omega) (by omega) ?_
                   intro co cc wk hok hcl hcm hcn hbk
                   have hSk := Lib.hid (hS.out.late (G := fun _ => False) (Kept.of_below hbk _) (fun _ _ => id))
                   have qk := Lib.hid (hb.out.trans (hbk.mono hbs))
                   have hsk : w.heap.size ≤ wk.heap.size := qk.out.size
                   have hok := Lib.hid hok
                   clear hbk hcn)
      refine (o_Crash hSk.out.dev co cc bs hpl hbl hok.out.reads (fun _ a ha hf => by
        have h1 := hok.out.lt a.block (by rw [ha]; rfl)
        have h2 := hS.out.dev.lt _ hf
        omega)).mono ?_
      rintro e wz ⟨rfl, Fz, hz1, kz, gz⟩
      have hSz := Lib.hid (hSk.out.call kz hz1 gz hsk)
      have qz := Lib.hid (Kept.out qk.out kz (fun i _ hi => hSk.out.low i hi) hsk)
      have hcr := hI.out.crash_ hj8 bs
      rw [← hj.out] at hcr
      obtain ⟨s, hs⟩ : ∃ s, Hid (s = (m.crash bs).stab at_) := ⟨_, Lib.hid rfl⟩
      rw [← hs.out] at hcr
      have hcr := Lib.hid hcr
      have hsz : w.heap.size ≤ wz.heap.size := qz.out.size
      clear kz gz hz1
      go_wp2_with fail
      refine (o_Stable hSz.out.dev at_ (by unfold I64; omega)).mono ?_
      rintro e wy ⟨rfl, by_⟩
      rw [← hs.out]
      have hSy := Lib.hid (hSz.out.late (G := fun _ => False) (Kept.of_below by_ _) (fun _ _ => id))
      have qy := Lib.hid (qz.out.trans (by_.mono hsz))
      have hsy : w.heap.size ≤ wy.heap.size := qy.out.size
      have hXy : ¬ (wb.heap.size = wy.heap.size) := fun e => by have := hSy.out.var.lt; omega
      clear by_
      go_wp2_with (first
        | (refine wantList_store (by rfl) 33 _ _ rfl wy.heap.size 0 (by rfl) (secL s) (by rfl) _ (secL sec0) (secL s) (Blk.new _ _ _) (by simp [secL_length]) (secL_one _) (infoSecL _) (whole_new (by simp [secL_length])) ?_
           intro w5 hY k5 z5
           have hS5 := Lib.hid ((hSy.out.alloc (.cells (secL sec0).toArray 33)).kept k5 (fun i hi e => by have := hSy.out.dev.lt i hi; omega) hXy (fun g hg e => by have := (World.ownsRow.lt hSy.out.own g hg).2; omega))
           have q5 := Lib.hid (Kept.out (qy.out.alloc hsy _) k5 (fun i _ e => by omega) (by simp; omega))
           have hY5 := hY.lt
           have hY := Lib.hid hY
           clear k5 z5)
        | (refine wantList_load (by rfl) 33 _ rfl wy.heap.size 0 (by rfl) (secL s) _ (hY.out.range fun j v hv => by simpa using hv) Try.underlying33 rfl (infoSecL _) ?_)
        | (refine wantList_load (by rfl) 33 _ rfl wb.heap.size 0 (by rfl) (secL fl) _ (hS5.out.var.range fun j v hv => by simpa using hv) Try.underlying33 rfl (infoSecL _) ?_))
      go_loopw [13, 108] (fun okv i wr => ∃ (k : Nat), k ≤ since.length ∧ i = .int .i64 k ∧ okv = .bool (okB s fl since k) ∧ Hid (KSt w.heap.size wr d Fz (m.crash bs) wb.heap.size fl (.slice ao9 since.length cap9) since) ∧ Hid (Blk wr wy.heap.size 33 (secL s)) ∧ Hid (Below w.heap.size w wr))
        (fun _ i _ => since.length - (intOf i).toNat)
      case atStart => exact ⟨0, by omega, rfl, by rw [okB_zero], hS5, hY, q5⟩
      case round =>
        clear hS5 hY q5
        obtain ⟨k2, hk2, rfl, rfl, hS6, hY6, hb6⟩ := hrel
        by_cases hlt2 : k2 < since.length
        · obtain ⟨g9, rfl, hgo9, hgl9⟩ := hg9.out (by omega)
          have hr6 : wr.rangeAt g9 (k2 * 128) (secL since[k2]) := fun jj u hu => by
            have h1 := rowsL_at secL_length since k2 hlt2 jj u hu
            have hjl : k2 * 128 + jj < (rowsL secL since).length := (List.getElem?_eq_some_iff.1 h1).1
            rw [World.ownsRow.cellAt hS6.out.own (k2 * 128 + jj) (by rw [rowsL_length secL_length] at hjl; omega)]
            exact h1
          have hr6 := Lib.hid hr6
          have hs6 : w.heap.size ≤ wr.heap.size := hb6.out.size
          have hY6l := hY6.out.lt
          have hX6 : ¬ (wb.heap.size = wr.heap.size) := fun e => by have := hS6.out.var.lt; omega
          have j0 : (0 : Int) ≤ (k2 : Int) := by omega
          have j1 : (k2 : Int) < (since.length : Int) := by omega
          cases hokk : okB s fl since k2
          all_goals
            go_wp2_with (first
              | (refine wantList_load (by rfl) 33 _ rfl g9 (k2 * 128) (by rfl) (secL since[k2]) _ hr6.out Try.underlying33 rfl (infoSecL _) ?_)
              | (refine wantList_store (by rfl) 33 _ _ rfl wr.heap.size 0 (by rfl) (secL since[k2]) (by rfl) _ (secL sec0) (secL since[k2]) (Blk.new _ _ _) (by simp [secL_length]) (secL_one _) (infoSecL _) (whole_new (by simp [secL_length])) ?_
                 intro w7 hE7 k7 z7
                 have hS7 := Lib.hid ((hS6.out.alloc (.cells (secL sec0).toArray 33)).kept k7 (fun i hi e => by have := hS6.out.dev.lt i hi; omega) hX6 (fun g hg e => by have := (World.ownsRow.lt hS6.out.own g hg).2; omega))
                 have q7 := Lib.hid (Kept.out (hb6.out.alloc hs6 _) k7 (fun i _ e => by omega) (by simp; omega))
                 have hY7 := Lib.hid ((hY6.out.alloc (.cells (secL sec0).toArray 33)).kept k7 (by omega))
                 have hE7 := Lib.hid hE7
                 clear k7 z7)
              | (refine wantList_load (by rfl) 33 _ rfl wy.heap.size 0 (by rfl) (secL s) _ (hY7.out.range fun j v hv => by simpa using hv) Try.underlying33 rfl (infoSecL _) ?_)
              | (refine wantList_load (by rfl) 33 _ rfl wr.heap.size 0 (by rfl) (secL since[k2]) _ (hE7.out.range fun j v hv => by simpa using hv) Try.underlying33 rfl (infoSecL _) ?_))
            go_roundw
            case rel => exact ⟨k2 + 1, by omega, by go_num, by rw [okB_succ _ _ _ _ hlt2, hokk]; rfl, hS7, hY7, q7⟩
            case measure => simp [intOf] <;> omega
        · obtain rfl : k2 = since.length := by omega
          rw [okB_all _ _ _ hcr.out]
          go_wp2_with fail
          refine (o_Dead hS6.out.dev).mono ?_
          rintro e w8 ⟨rfl, rfl⟩
          rw [show (m.crash bs).dead = false from rfl]
          go_wp2
          go_ret
          exact ⟨rfl, hb6.out⟩

set_option maxHeartbeats 2000000 in
theorem way_no (ao : Option Addr) (n cap : Nat) (ko : Option Addr) (l kc : Nat) (at_ : Int) (w : World) (h : 200 < n ∨ (n ≤ 200 ∧ at_ < 0) ∨ (n ≤ 200 ∧ 0 ≤ at_ ∧ 7 < at_)) :
    Calls Try.prog 5 #[.slice ao n cap, .slice ko l kc, .int .i64 at_] w fun e w' => e = .returned (.bool true) ∧ Below w.heap.size w w' := by
  rcases h with h | ⟨h, h1⟩ | ⟨h, h1, h2⟩
  all_goals
    go_enter Try.func5, Try.ntmps5
    go_wp2_with fail
    refine (alive_any w).mono ?_
    rintro e wa ⟨rfl, ba⟩
    have ba := Lib.hid ba
    go_wp2_with fail
    refine (New_any 8 (by unfold I64; omega) wa).mono ?_
    rintro e wb ⟨d, F0, rfl, hd0, lo0, bb⟩
    have q0 := Lib.hid (ba.out.trans (bb.mono ba.out.size))
    clear bb lo0 hd0
    go_wp2
    go_ret
    exact ⟨rfl, q0.out⟩

theorem walk (ao : Option Addr) (as_ : List ActM) (cap : Nat) (ko : Option Addr) (bs : List Bool) (kc : Nat) (at_ : Int) (w : World) (hacts : Acts w ao as_) (hl : as_.length ≤ 140737488351232) (hnil : ao = none → cap = 0) (hkr : Reads w ko (boolsV bs)) (hkc : bs.length ≤ kc ∧ kc ≤ 140737488351232) (hkn : ko = none → kc = 0) (hi : I64 at_) :
    Calls Try.prog 5 #[.slice ao as_.length cap, .slice ko bs.length kc, .int .i64 at_] w fun e w' => e = .returned (.bool true) ∧ Below w.heap.size w w' := by
  by_cases h1 : as_.length ≤ 200
  · by_cases h2 : 0 ≤ at_
    · by_cases h3 : at_ ≤ 7
      · exact way_yes ao as_ cap _ ko bs kc at_ w hacts (Lib.hid rfl) h1 hkr hkc hkn h2 h3
      · exact way_no ao _ cap ko _ kc at_ w (.inr (.inr ⟨h1, h2, by omega⟩))
    · exact way_no ao _ cap ko _ kc at_ w (.inr (.inl ⟨h1, by omega⟩))
  · exact way_no ao _ cap ko _ kc at_ w (.inl (by omega))

theorem own : ownKnob Try.prog.godebug = none := by kernel_rfl
theorem laidOut : laidOutB Try.prog = true := by kernel_rfl

set_option maxRecDepth 100000 in
theorem lifted (os : Os) (started : os.Started) (H : Type) (enc : TypeId × Value → H) :
    ReturnsInHanded {} Try.checked os 5 .any (Rows.vdevKeepsSpec.pre6 enc Try.prog Try.f5 Rows.vdevKeepsRow.domain false) (Rows.vdevKeepsSpec.post enc Try.prog Try.f5 false true false false) := by
  refine returnsInHanded_of_change_sized (C := Try.checked) own started (by kernel_rfl) Try.func5
    (ChangeSpec.witness6 (enc := enc) (C := Try.checked) false ⟨#[], #[.slice none 0 0, .slice none 0 0, .int .i64 0], []⟩ 8 (by kernel_rfl) (by kernel_rfl) (by kernel_rfl) (by kernel_rfl)) ?_
  intro W base args ds gs before hval0 hW hcnd hsz0 _
  have hval : ∀ (j : Nat) t v, Try.f5.params[j]? = some t → args[j]? = some v → Value.okWide Try.prog W .any base t v := hval0
  have hsz : (DataW.weightsEach Try.prog (Try.f5.params.toList ++ Rows.vdevKeepsSpec.plain.varTypes Try.prog) (ds ++ gs)).all (· ≤ reachBytes) = true := hsz0
  have hW' := hW
  obtain ⟨p, q, hA0, hV, rfl, hfz, hnd⟩ := hW
  have hA : DataW.TrodAll enc Try.prog W 0 (fun _ => true) true Try.f5.params.toList args.toList ds p := hA0
  rw [Try.params5] at hA hval hsz
  obtain ⟨v0, vs0, d0, ds0, p0, q0, hargs, rfl, rfl, h0, r0⟩ := trodAll_cons hA
  obtain ⟨v1, vs1, d1, ds1, p1, q1, rfl, rfl, rfl, h1, r1⟩ := trodAll_cons r0
  obtain ⟨v2, vs2, d2, ds2, p2, q2, rfl, rfl, rfl, h2, r2⟩ := trodAll_cons r1
  obtain ⟨rfl, rfl, rfl⟩ := trodAll_nil r2
  obtain rfl : args = #[v0, v1, v2] := by cases args; simp_all
  obtain ⟨rfl, rfl⟩ := trodVars_none hV
  have k0 := h0
  have lt0 : ∀ x ∈ p0, x.block < W.heap.size := by obtain ⟨m, hm⟩ := k0; exact DataW.trod_lt m _ _ _ hm
  obtain ⟨ao0, a0, cap0, rfl, sp0, fi0, nl0⟩ := arg_acts h0 (hval 0 26 v0 rfl rfl) (light_arg hsz (j := 0) (t := 26) rfl rfl)
  have k1 := h1
  have lt1 : ∀ x ∈ p1, x.block < W.heap.size := by obtain ⟨m, hm⟩ := k1; exact DataW.trod_lt m _ _ _ hm
  obtain ⟨ao1, a1, cap1, rfl, sp1, fi1, nl1⟩ := arg_bools h1 (hval 1 34 v1 rfl rfl) (light_arg hsz (j := 1) (t := 34) rfl rfl)
  obtain ⟨a2, rfl, rfl, rfl, wf2⟩ := open_int Try.underlying3 (hval 2 3 v2 rfl rfl) h2
  clear hA0 hval0 hsz0
  refine (walk ao0 a0 cap0 ao1 a1 cap1 a2 W sp0 fi0 nl0 sp1 fi1 nl1 (wf_i64 wf2)).mono fun e W' ⟨he, bel⟩ => ?_
  subst he
  exact ⟨_, rfl, _, _, _, [], _, [], hW', trodAll_mk1 (shut_bool Try.underlying4 _), (trodAll_cons_mk (Below.trod laidOut (by kernel_rfl) (of_decide_eq_true (by kernel_rfl)) k0 bel lt0) (trodAll_cons_mk (Below.trod laidOut (by kernel_rfl) (of_decide_eq_true (by kernel_rfl)) k1 bel lt1) (trodAll_cons_mk (shut_int Try.underlying3 wf2) trodAll_mk0))), rfl, bel.frame _, fun h => by cases h⟩

theorem proved : Rows.VdevKeepsSaid :=
  OpenClaim.holds_of_wide 5 Try.f5 rfl rfl rfl rfl rfl rfl rfl ⟨rfl, rfl, rfl, rfl, rfl⟩ rfl rfl rfl rfl rfl (by kernel_rfl) Try.func5 (by kernel_rfl)
    (of_decide_eq_true (by kernel_rfl)) (by unfold Func.isWrapper; first | (rw [if_pos (by decide +kernel)]; kernel_rfl) | (rw [if_neg (by decide +kernel)]; exact ⟨rfl, rfl⟩))
    (fun os started H enc _ => lifted os started H enc)
end Go.Proofs.Ytfpacnokecfhmaa.lawVdevKeeps
