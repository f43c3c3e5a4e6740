/- UberRuns, for every input: the law returns true and each argument reads behind the call as before. No condition. -/
import Derived.Test.YtfblehdeoloijaaGUberT
namespace Go.Proofs.Ytfblehdeoloijaa.lawUberRuns
open Go.ChangeShapes Go.WideShapes Go.ChangeAt Go.RowKit Go.Deep
set_option linter.unusedVariables false
set_option maxRecDepth 20000

set_option maxRecDepth 100000 in
set_option maxHeartbeats 16000000 in
theorem way_yes (N : Nat) (hN : N ≤ 20) (ao : Option Addr) (as_ : List AcM) (cap n : Nat) (w : World) (hacts : Acs w ao as_) (hn : Hid (as_.length = n)) (hn2 : n ≤ 40) :
    Calls Try.prog 5 #[.int .i64 (N : Int), .slice ao n cap] w fun e w' => e = .returned (.bool true) ∧ Below w.heap.size w w' := by
  obtain ⟨ib, hib, hzb, hzb1, hzb2⟩ := info_parts infoBool
  have hacts := Lib.hid hacts
  have hz := zeroSec
  have hza := zeroAc
  have hNN : DevM.newLen (N : Int) = N := by unfold DevM.newLen; omega
  have hNN := Lib.hid hNN
  go_enter Try.func5, Try.ntmps5
  go_wp2_with fail
  refine (uberAlive_any w).mono ?_
  rintro e wa ⟨rfl, ba⟩
  have ba := Lib.hid ba
  go_wp2_with fail
  refine (New_any (N : Int) (by unfold I64; omega) wa).mono ?_
  rintro e wb ⟨d, F0, rfl, hd0, lo0, bb⟩
  have q0 := Lib.hid (ba.out.trans (bb.mono ba.out.size))
  have lo0 := Lib.hid (fun k hk => Nat.le_trans ba.out.size (lo0 k hk))
  have hd0 := Lib.hid hd0
  clear bb
  go_wp2_with fail
  refine (r_New (X := F0) (N : Int) (by unfold I64; omega) wb hd0.out.lt).mono ?_
  rintro e wn ⟨V0, rfl, hr0, bc⟩
  have qc := Lib.hid (q0.out.trans (bc.mono q0.out.size))
  have hdc := Lib.hid (hd0.out.below bc)
  have hsc : w.heap.size ≤ wn.heap.size := qc.out.size
  have hr0 := Lib.hid hr0
  clear bc
  go_wp2_with ((with_reducible refine guardList ?_)
               refine wantList_store (by rfl) 47 _ _ rfl (wn.heap.size) 0 (by rfl) V0 (by rfl) _ (devL none 0 0 none 0 0 0 0 false) V0 (Blk.new wn 47 (devL none 0 0 none 0 0 0 0 false)) (by have h1 := hr0.out.len; have h2 : (devL none 0 0 none 0 0 0 0 false).length = 5 := rfl; omega) hr0.out.one hr0.out.info (whole_new (hr0.out.len.trans (Eq.symm rfl))) ?_
               intro wd hv0 k0 z0
               have hR0 := Lib.hid (Runs.start hdc.out lo0.out hr0.out hsc _ k0 hv0)
               have qd := Lib.hid (Kept.out (qc.out.alloc hsc _) k0 (fun i _ e => by omega) (by simp; omega))
               clear k0 z0 hv0)
  go_loopw [39] (fun i wr => ∃ (k : Nat) (F : Nat → Prop) (md mr : DevM) (V : List Value) (X : Nat → Prop), k ≤ n ∧ i = .int .i64 k ∧ Hid (Runs w.heap.size wr d F md mr wn.heap.size V X) ∧ Hid (Same md mr) ∧ Hid (md.pending = []) ∧ Hid (RunI mr (5 * k)) ∧ Hid (Below w.heap.size w wr))
    (fun i _ => n - (intOf i).toNat)
  case atStart => exact ⟨0, F0, _, _, V0, _, by omega, rfl, hR0, Lib.hid ⟨rfl, rfl, rfl, rfl⟩, Lib.hid rfl, Lib.hid (runI_fresh _), qd⟩
  case round =>
    clear hR0 qd
    obtain ⟨k, F, md, mr, V, X, hk, rfl, hR, hS, hpd, hI, hb⟩ := hrel
    by_cases hlt : k < n
    · obtain ⟨b, off, rfl, hbb, hr⟩ := (hacts.out.below hb.out).range (k := k) (by rw [hn.out]; exact hlt)
      have hok : AcOk w (as_[k]'(by rw [hn.out]; exact hlt)) := hacts.out.each _ (List.getElem_mem _)
      obtain ⟨a, ha⟩ : ∃ a : AcM, Hid (a = as_[k]'(by rw [hn.out]; exact hlt)) := ⟨_, Lib.hid rfl⟩
      rw [← ha.out] at hr hok
      clear ha
      have hr := Lib.hid hr
      have hok := Lib.hid hok
      have hbs := hb.out.size
      have hIV := Lib.hid hR.out.ref.info
      have hLV := Lib.hid hR.out.ref.len
      -- the plain data of the round
      have fr0 : Hid mr.Fits := Lib.hid (hS.out.fits hR.out.dev.fits (by have := hI.out.ops; omega))
      have frb := Lib.hid (fr0.out.brk hok.out.brk)
      have frc := Lib.hid (frb.out.commit a.u)
      have frz := Lib.hid (DevM.Fits.crash frc.out a.keep)
      have irb := Lib.hid (hI.out.brk a.brk)
      have irc := Lib.hid (irb.out.commit a.u)
      have irz : Hid (RunI ((((mr.brk a.brk).commit a.u).1).crash a.keep) (5 * (k + 1))) := Lib.hid (irc.out.crash a.keep)
      have sc := (hS.out.brk a.brk).commit a.u
      have hcp : Hid (((md.brk a.brk).commit a.u).1.pending.length ≤ 1000000000) := Lib.hid (commit_pend (m := md.brk a.brk) hpd.out a.u)
      have hpl : Hid ((md.brk a.brk).pending.length ≤ 900000000) := Lib.hid (by rw [show (md.brk a.brk).pending = [] from hpd.out]; exact Nat.zero_le _)
      clear fr0 hI hS hpd
      go_wp2_with (first
        | ((with_reducible refine atDst (some 42) (by rfl) ?_); refine wantList_load (by rfl) 51 _ rfl b (off + k * 9) (by rfl) (acL a) _ (hr.out) Try.underlying51 rfl (infoAcL _) ?_)
        | ((with_reducible refine guardList ?_); refine atOper 8 (by rfl) ?_
           refine wantList_store (by rfl) 51 _ _ rfl wr.heap.size 0 (by rfl) (acL a) (by rfl) _ (acL ac0) (acL a) (Blk.new wr 51 (acL ac0)) (Nat.le_of_eq rfl) (acL_one _) (infoAcL _) (rfl) ?_
           intro w1 b1 k1 z1
           have R1 := Lib.hid (RT.start hR.out hb.out k1 b1)
           have c7 : w1.cell? ⟨wr.heap.size, 7, none⟩ = some (.int .i64 a.brk) := ac_c7 b1
           have hl1 : wr.heap.size < w1.heap.size := b1.lt
           clear b1 k1 z1))
      refine (o_Break R1.out.runs.dev a.brk hok.out.brk).mono ?_
      rintro e w2 ⟨rfl, T⟩
      obtain ⟨F2, X2, R2⟩ := R1.out.turn T
      have R2 := Lib.hid R2
      clear T c7 hl1
      have c7 : w2.cell? ⟨wr.heap.size, 7, none⟩ = some (.int .i64 a.brk) := ac_c7 R2.out.act
      go_wp2_with (first
        | ((with_reducible refine atDst (some 47) (by rfl) ?_); refine wantList_load (by rfl) 47 _ rfl wn.heap.size 0 (by rfl) (V) _ (range_blk R2.out.runs.var) Try.underlying47 rfl (hIV.out) ?_))
      refine (r_Break R2.out.runs.ref a.brk hok.out.brk).mono ?_
      rintro e w3 ⟨V1, rfl, r3, b3⟩
      have R3 := Lib.hid (R2.out.below b3)
      have r3 := Lib.hid r3
      have hLV1 := Lib.hid r3.out.len
      have hIV1 := Lib.hid r3.out.info
      clear b3 c7
      go_wp2_with (first
        | ((with_reducible refine guardList ?_); refine atOper 6 (by rfl) ?_
           refine wantList_store (by rfl) 47 _ _ rfl wn.heap.size 0 (by rfl) (V1) (by rfl) _ (V) (V1) (R3.out.runs.var) (by rw [hLV1.out, hLV.out]; decide) (r3.out.one) (hIV1.out) (whole_new (by rw [hLV1.out, hLV.out])) ?_
           intro w4 b4 k4 z4
           have R4 := Lib.hid (R3.out.setV r3.out k4 b4)
           clear b4 k4 z4)
        | ((with_reducible refine atDst (some 53) (by rfl) ?_); refine wantList_load (by rfl) 27 _ rfl wr.heap.size 0 (by rfl) (u5L a.u) _ (ac_r0 R4.out.act) Try.underlying27 rfl (infoUberL _) ?_))
      refine (oCommit_L R4.out.runs.dev hpl.out a.u hok.out.fit).mono ?_
      generalize (md.brk a.brk).commit a.u = mc at *
      obtain ⟨mdc, ed⟩ := mc
      dsimp only at *
      rintro e w5 ⟨rfl, T⟩
      obtain ⟨F5, X5, R5⟩ := R4.out.turn T
      have R5 := Lib.hid R5
      clear T hpl
      go_wp2_with (first
        | ((with_reducible refine atDst (some 56) (by rfl) ?_); refine wantList_load (by rfl) 47 _ rfl wn.heap.size 0 (by rfl) (V1) _ (range_blk R5.out.runs.var) Try.underlying47 rfl (hIV1.out) ?_)
        | ((with_reducible refine atDst (some 58) (by rfl) ?_); refine wantList_load (by rfl) 27 _ rfl wr.heap.size 0 (by rfl) (u5L a.u) _ (ac_r0 R5.out.act) Try.underlying27 rfl (infoUberL _) ?_))
      refine (rUCommit R5.out.runs.ref R5.out.runs.xlt frb.out (by have := irb.out.ops; omega) (by have := irb.out.pend; omega) a.u hok.out.fit).mono ?_
      generalize (mr.brk a.brk).commit a.u = mrc at *
      obtain ⟨mrc, er⟩ := mrc
      dsimp only at *
      obtain ⟨sc, rfl⟩ := sc
      rintro e w6 ⟨V2, rfl, r6, b6⟩
      have R6 := Lib.hid (R5.out.below b6)
      have r6 := Lib.hid r6
      have hLV2 := Lib.hid r6.out.len
      have hIV2 := Lib.hid r6.out.info
      clear b6
      go_wp2_with (first
        | ((with_reducible refine guardList ?_); refine atOper 10 (by rfl) ?_
           refine wantList_store (by rfl) 47 _ _ rfl w6.heap.size 0 (by rfl) (V2) (by rfl) _ (devL none 0 0 none 0 0 0 0 false) (V2) (Blk.new w6 47 (devL none 0 0 none 0 0 0 0 false)) (by rw [hLV2.out]; exact Nat.le_of_eq rfl) (r6.out.one) (hIV2.out) (whole_new (by rw [hLV2.out]; rfl)) ?_
           intro w7 b7 k7 z7
           have R7 := Lib.hid (R6.out.below (below_new k7))
           have r7 := Lib.hid (r6.out.below (below_new k7))
           have T7 := Lib.hid b7
           clear b7 k7 z7)
        | ((with_reducible refine atDst (some 62) (by rfl) ?_); refine wantList_load (by rfl) 47 _ rfl w6.heap.size 0 (by rfl) (V2) _ (range_blk T7.out) Try.underlying47 rfl (hIV2.out) ?_)
        | ((with_reducible refine guardList ?_); refine atOper 6 (by rfl) ?_
           refine wantList_store (by rfl) 47 _ _ rfl wn.heap.size 0 (by rfl) (V2) (by rfl) _ (V1) (V2) (R7.out.runs.var) (by rw [hLV2.out, hLV1.out]; decide) (r7.out.one) (hIV2.out) (whole_new (by rw [hLV2.out, hLV1.out])) ?_
           intro w8 b8 k8 z8
           have R8 := Lib.hid (R7.out.setV r7.out k8 b8)
           have c8 : w8.cell? ⟨wr.heap.size, 8, none⟩ = some (.slice a.kao a.keep.length a.kcap) := ac_c8 R8.out.act
           have hl8 : wr.heap.size < w8.heap.size := R8.out.act.lt
           have kr8 := Lib.hid (hok.out.keep.below R8.out.q)
           have hkc1 := hok.out.cap.1
           have hkc2 := hok.out.cap.2
           clear b8 k8 z8)
        | (at_builtin
           refine wpList_copy rfl _ _ 49 rfl 4 ib _ 1 Try.underlying49 hib hzb hzb1 hzb2 rfl w8 (by rfl) a.kao a.keep.length a.kcap (boolsV a.keep) (by rfl) hok.out.nil (boolsV_length a.keep) kr8.out (boolsV_one a.keep) (by omega) (by omega) ?_
           intro eo ec w9 hown hel hem hen hbk
           have R9 := Lib.hid (R8.out.below hbk)
           have hown := Lib.hid hown
           clear hbk hen hel hem))
      refine (o_Crash R9.out.runs.dev eo ec a.keep hcp.out (by omega) hown.out.reads (fun _ a' ha hf => by
          have h1 := hown.out.lt a'.block (by rw [ha]; rfl)
          have h2 := R8.out.runs.dev.lt _ hf
          omega)).mono ?_
      rintro e w10 ⟨rfl, T⟩
      obtain ⟨F10, X10, R10⟩ := R9.out.turn T
      have R10 := Lib.hid R10
      have kr10 := Lib.hid (hok.out.keep.below R10.out.q)
      clear T c8 hl8 kr8 hown
      have c8 : w10.cell? ⟨wr.heap.size, 8, none⟩ = some (.slice a.kao a.keep.length a.kcap) := ac_c8 R10.out.act
      go_wp2_with (first
        | ((with_reducible refine atDst (some 69) (by rfl) ?_); refine wantList_load (by rfl) 47 _ rfl wn.heap.size 0 (by rfl) (V2) _ (range_blk R10.out.runs.var) Try.underlying47 rfl (hIV2.out) ?_))
      refine (r_Crash R10.out.runs.ref R10.out.runs.xlt frc.out (by have := irc.out.pend; omega) a.kao a.kcap a.keep (by omega) kr10.out).mono ?_
      rintro e w11 ⟨V3, rfl, r11, b11⟩
      have R11 := Lib.hid (R10.out.below b11)
      have r11 := Lib.hid r11
      have hLV3 := Lib.hid r11.out.len
      have hIV3 := Lib.hid r11.out.info
      clear b11 c8 kr10
      have sz := Lib.hid (sc.crash a.keep)
      have hpz : Hid ((mdc.crash a.keep).pending = []) := Lib.hid rfl
      go_wp2_with (first
        | ((with_reducible refine guardList ?_); refine atOper 6 (by rfl) ?_
           refine wantList_store (by rfl) 47 _ _ rfl wn.heap.size 0 (by rfl) (V3) (by rfl) _ (V2) (V3) (R11.out.runs.var) (by rw [hLV3.out, hLV2.out]; decide) (r11.out.one) (hIV3.out) (whole_new (by rw [hLV3.out, hLV2.out])) ?_
           intro w12 b12 k12 z12
           have R12 := Lib.hid (R11.out.setV r11.out k12 b12)
           clear b12 k12 z12))
      generalize mdc.crash a.keep = mdz at *
      generalize mrc.crash a.keep = mrz at *
      obtain ⟨xs, hxs⟩ : ∃ xs, Hid (mdz.list = xs) := ⟨_, Lib.hid rfl⟩
      obtain ⟨B, hB⟩ : ∃ B, Hid (mdz.best = B) := ⟨_, Lib.hid rfl⟩
      have hxs2 : Hid (mrz.list = xs) := Lib.hid (by rw [← sz.out.list]; exact hxs.out)
      have hB1 : Hid ((mdz.ticks 4).best = B) := Lib.hid (by rw [ticks_best]; exact hB.out)
      have hB2 : Hid (mrz.best = B) := Lib.hid (by rw [← sz.out.best]; exact hB.out)
      have hxl : xs.length ≤ 4 := by rw [← hxs.out]; exact lists_length mdz 4
      refine (oList R12.out.runs.dev).mono ?_
      rw [hxs.out]
      rintro e w13 ⟨ao1, cap1, F13, rfl, d13, k13, g13, l13, n13⟩
      have R13 := Lib.hid (R12.out.turnF d13 k13 g13)
      have L13 : Hid (Beside w13 F13 ao1 (rowsL u5L xs)) := Lib.hid (Beside.of_list l13)
      clear d13 k13 g13 l13 n13
      go_wp2_with (first
        | ((with_reducible refine atDst (some 75) (by rfl) ?_); refine wantList_load (by rfl) 47 _ rfl wn.heap.size 0 (by rfl) (V3) _ (range_blk R13.out.runs.var) Try.underlying47 rfl (hIV3.out) ?_))
      refine (rUList R13.out.runs.ref frz.out (by have := irz.out.pend; omega)).mono ?_
      rw [hxs2.out]
      rintro e w14 ⟨ao2, cap2, rfl, n14, l14, o14, b14⟩
      have R14 := Lib.hid (R13.out.below b14)
      have L14 := Lib.hid (L13.out.below b14)
      have M14 : Hid (Beside w14 F13 ao2 (rowsL u5L xs)) := Lib.hid (Beside.fresh l14 o14 R13.out.runs.dev.lt)
      clear b14 l14 o14 n14 L13
      go_wp2_with fail
      refine (oBest R14.out.runs.dev).mono ?_
      rw [hB1.out]
      rintro e w15 ⟨rfl, F15, d15, k15, g15⟩
      have R15 := Lib.hid (R14.out.turnF d15 k15 g15)
      have L15 := Lib.hid (L14.out.turn k15 g15)
      have M15 := Lib.hid (M14.out.turn k15 g15)
      clear d15 k15 g15 L14 M14
      generalize hPB : B.getD u5z = P at *
      generalize hOB : B.isSome = OK at *
      go_wp2_with (first
        | ((with_reducible refine guardList ?_); refine atOper 14 (by rfl) ?_
           refine wantList_store (by rfl) 27 _ _ rfl w15.heap.size 0 (by rfl) (u5L P) (by rfl) _ (u5L u5z) (u5L P) (Blk.new w15 27 (u5L u5z)) (Nat.le_of_eq rfl) (u5L_one _) (infoUberL _) (rfl) ?_
           intro w16 b16 k16 z16
           have R16 := Lib.hid (R15.out.below (below_new k16))
           have L16 := Lib.hid (L15.out.below (below_new k16))
           have M16 := Lib.hid (M15.out.below (below_new k16))
           have P16 := Lib.hid b16
           clear b16 k16 z16)
        | ((with_reducible refine atDst (some 83) (by rfl) ?_); refine wantList_load (by rfl) 47 _ rfl wn.heap.size 0 (by rfl) (V3) _ (range_blk R16.out.runs.var) Try.underlying47 rfl (hIV3.out) ?_))
      refine (rUBest R16.out.runs.ref frz.out (by have := irz.out.pend; omega)).mono ?_
      rw [hB2.out, hPB, hOB]
      rintro e w17 ⟨rfl, b17⟩
      have R17 := Lib.hid (R16.out.below b17)
      have L17 := Lib.hid (L16.out.below b17)
      have M17 := Lib.hid (M16.out.below b17)
      have P17 := Lib.hid (blk_out P16.out b17)
      clear b17
      have hqe : ∀ w, (Op.equalIn 10000 27 (.agg (u5L P).toArray) (.agg (u5L P).toArray)).run Try.prog w = .ok true w := fun w => by rw [eqUber_L, U5.eqB_self]
      go_wp2_with (first
        | ((with_reducible refine guardList ?_); refine atOper 16 (by rfl) ?_
           refine wantList_store (by rfl) 27 _ _ rfl w17.heap.size 0 (by rfl) (u5L P) (by rfl) _ (u5L u5z) (u5L P) (Blk.new w17 27 (u5L u5z)) (Nat.le_of_eq rfl) (u5L_one _) (infoUberL _) (rfl) ?_
           intro w18 b18 k18 z18
           have R18 := Lib.hid (R17.out.below (below_new k18))
           have L18 := Lib.hid (L17.out.below (below_new k18)).reads
           have M18 := Lib.hid (M17.out.below (below_new k18)).reads
           have P18 := Lib.hid (blk_out P17.out (below_new k18))
           have Q18 := Lib.hid b18
           clear b18 k18 z18)
        | ((with_reducible refine atDst (some 98) (by rfl) ?_); refine wantList_load (by rfl) 27 _ rfl w15.heap.size 0 (by rfl) (u5L P) _ (range_blk P18.out) Try.underlying27 rfl (infoUberL _) ?_)
        | ((with_reducible refine atDst (some 99) (by rfl) ?_); refine wantList_load (by rfl) 27 _ rfl w17.heap.size 0 (by rfl) (u5L P) _ (range_blk Q18.out) Try.underlying27 rfl (infoUberL _) ?_))
      clear hqe
      obtain ⟨wo, rfl⟩ : ∃ wo : World, wo = wr := ⟨_, rfl⟩
      go_loopw [109] (fun i wr => ∃ q : Nat, q ≤ xs.length ∧ i = .int .i64 q ∧ Hid (Below w18.heap.size w18 wr))
        (fun i _ => xs.length - (intOf i).toNat)
      case atStart => exact ⟨0, by omega, rfl, Lib.hid (Below.refl _ _)⟩
      case round =>
        obtain ⟨q, hq, rfl, hb⟩ := hrel
        by_cases hlq : q < xs.length
        · obtain ⟨b1, off1, rfl, hb1, hr1⟩ := (L18.out.below hb.out).rangeRow u5L_length (by decide) hlq
          obtain ⟨b2, off2, rfl, hb2, hr2⟩ := (M18.out.below hb.out).rangeRow u5L_length (by decide) hlq
          obtain ⟨x, hx⟩ : ∃ x : U5, Hid (x = xs[q]) := ⟨_, Lib.hid rfl⟩
          rw [← hx.out] at hr1 hr2
          have hr1 := Lib.hid hr1
          have hr2 := Lib.hid hr2
          have hqe : ∀ w, (Op.equalIn 10000 27 (.agg (u5L x).toArray) (.agg (u5L x).toArray)).run Try.prog w = .ok true w := fun w => by rw [eqUber_L, U5.eqB_self]
          clear hx
          have i0 : (0 : Int) ≤ (q : Int) := by omega
          have i1 : (q : Int) < (xs.length : Int) := by omega
          go_wp2
          refine inO_region [(3, fun w' => w'.rangeAt (b1) (off1 + q * 7) (u5L x)), (7, fun w' => w'.rangeAt (b2) (off2 + q * 7) (u5L x))] (by kernel_rfl) (Owed.cons (show wr.drew.rangeAt b1 (off1 + q * 7) (u5L x) from hr1.out) (Owed.cons (show wr.drew.rangeAt b2 (off2 + q * 7) (u5L x) from hr2.out) (Owed.nil _ _))) ?_
          refine inO_take 0 ⟨_, _, _, _, _, _⟩ (.slice (some ⟨b1, off1, none⟩) xs.length cap1) rfl (by kernel_rfl) (by kernel_rfl) (by kernel_rfl) (fun _ _ _ h => h) rfl (fun ww => exec_move (by rfl) (by rfl) ww) ?_
          simp only [Act.put, List.setIfInBounds_toArray, List.set_cons_zero, List.set_cons_succ]
          refine inO_take 1 ⟨_, _, _, _, _, _⟩ (.int .i64 (q : Int)) rfl (by kernel_rfl) (by kernel_rfl) (by kernel_rfl) (fun _ _ _ h => h) rfl (fun ww => exec_move (by rfl) (by rfl) ww) ?_
          simp only [Act.put, List.setIfInBounds_toArray, List.set_cons_zero, List.set_cons_succ]
          refine inO_take 2 ⟨_, _, _, _, _, _⟩ (.pointer (some ⟨b1, off1 + q * 7, none⟩)) rfl (by kernel_rfl) (by kernel_rfl) (by kernel_rfl) (fun _ _ _ h => h) rfl (fun ww => by go_simp) ?_
          simp only [Act.put, List.setIfInBounds_toArray, List.set_cons_zero, List.set_cons_succ]
          refine inO_load 3 ⟨_, _, _, _, _, _⟩ (.agg (u5L x).toArray) (fun w' => w'.rangeAt (b1) (off1 + q * 7) (u5L x)) rfl (by kernel_rfl) (by kernel_rfl) (by kernel_rfl) (fun _ _ _ h => h) rfl (.head _) (fun ww hw => exec_load_mid _ _ (by rfl) _ _ (by rfl) _ _ hw Try.underlying27 rfl (infoUberL _)) ?_
          simp only [Act.put, List.setIfInBounds_toArray, List.set_cons_zero, List.set_cons_succ]
          refine inO_take 4 ⟨_, _, _, _, _, _⟩ (.slice (some ⟨b2, off2, none⟩) xs.length cap2) rfl (by kernel_rfl) (by kernel_rfl) (by kernel_rfl) (fun _ _ _ h => h) rfl (fun ww => exec_move (by rfl) (by rfl) ww) ?_
          simp only [Act.put, List.setIfInBounds_toArray, List.set_cons_zero, List.set_cons_succ]
          refine inO_take 5 ⟨_, _, _, _, _, _⟩ (.int .i64 (q : Int)) rfl (by kernel_rfl) (by kernel_rfl) (by kernel_rfl) (fun _ _ _ h => h) rfl (fun ww => exec_move (by rfl) (by rfl) ww) ?_
          simp only [Act.put, List.setIfInBounds_toArray, List.set_cons_zero, List.set_cons_succ]
          refine inO_take 6 ⟨_, _, _, _, _, _⟩ (.pointer (some ⟨b2, off2 + q * 7, none⟩)) rfl (by kernel_rfl) (by kernel_rfl) (by kernel_rfl) (fun _ _ _ h => h) rfl (fun ww => by go_simp) ?_
          simp only [Act.put, List.setIfInBounds_toArray, List.set_cons_zero, List.set_cons_succ]
          refine inO_load 7 ⟨_, _, _, _, _, _⟩ (.agg (u5L x).toArray) (fun w' => w'.rangeAt (b2) (off2 + q * 7) (u5L x)) rfl (by kernel_rfl) (by kernel_rfl) (by kernel_rfl) (fun _ _ _ h => h) rfl (.tail _ (.head _)) (fun ww hw => exec_load_mid _ _ (by rfl) _ _ (by rfl) _ _ hw Try.underlying27 rfl (infoUberL _)) ?_
          simp only [Act.put, List.setIfInBounds_toArray, List.set_cons_zero, List.set_cons_succ]
          refine inO_take 8 ⟨_, _, _, _, _, _⟩ (.bool false) rfl (by kernel_rfl) (by kernel_rfl) (by kernel_rfl) (fun _ _ _ h => h) rfl (fun ww => by go_simp) ?_
          simp only [Act.put, List.setIfInBounds_toArray, List.set_cons_zero, List.set_cons_succ]
          refine inO_done (by kernel_rfl) ?_
          go_wp2
          go_roundw
          case rel => exact ⟨q + 1, by omega, by go_num, Lib.hid hb.out.drew⟩
          case measure => simp [intOf] <;> omega
        · obtain rfl : q = xs.length := by omega
          have RZ := Lib.hid (R18.out.below hb.out)
          go_wp2
          go_roundw
          case rel => exact ⟨k + 1, F15, (mdz.ticks 4).ticks 4, mrz, V3, _, by omega, by go_num, Lib.hid RZ.out.runs, Lib.hid ((sz.out.ticksL 4).ticksL 4), Lib.hid (by rw [ticks_pend, ticks_pend]; exact hpz.out), irz, Lib.hid RZ.out.q⟩
          case measure => simp [intOf] <;> omega
    · obtain rfl : k = n := by omega
      · have fm : Hid mr.Fits := Lib.hid (hS.out.fits hR.out.dev.fits (by have := hI.out.ops; omega))
        have hIV := Lib.hid hR.out.ref.info
        go_wp2
        go_loopw [19] (fun i wq => ∃ z : Nat, z ≤ N ∧ i = .int .i64 z ∧ Hid (Runs w.heap.size wq d F md mr wn.heap.size V X) ∧ Hid (Below w.heap.size w wq))
          (fun i _ => N - (intOf i).toNat)
        case atStart => exact ⟨0, by omega, rfl, hR, hb⟩
        case round =>
          clear hR hb
          obtain ⟨z, hz1, rfl, hR6, q6⟩ := hrel
          have hs6 := q6.out.size
          have hD6 := Lib.hid hR6.out.dev.drew
          obtain ⟨s, hs⟩ : ∃ s, Hid (md.stab (z : Int) = s) := ⟨_, Lib.hid rfl⟩
          have hs' : Hid (mr.stab (z : Int) = s) := Lib.hid (by rw [← hS.out.stab]; exact hs.out)
          have hqs : ∀ w, (Op.equalIn 10000 34 (.agg (secL s).toArray) (.agg (secL s).toArray)).run Try.prog w = .ok true w := fun w => by rw [eqSec]; simp
          by_cases hlz : z < N
          · go_wp2
            refine inO_region [(3, fun w' => w'.rangeAt (wn.heap.size) (0) (V))] (by kernel_rfl) (Owed.cons (range_dev hR6.out.var) (Owed.nil _ _)) ?_
            refine inO_take 0 ⟨_, _, _, _, _, _⟩ (.pointer (some ⟨d, 0, none⟩)) rfl (by kernel_rfl) (by kernel_rfl) (by kernel_rfl) (fun _ _ _ h => h) rfl (fun ww => exec_move (by rfl) (by rfl) ww) ?_
            simp only [Act.put, List.setIfInBounds_toArray, List.set_cons_zero, List.set_cons_succ]
            refine inO_take 1 ⟨_, _, _, _, _, _⟩ (.int .i64 (z : Int)) rfl (by kernel_rfl) (by kernel_rfl) (by kernel_rfl) (fun _ _ _ h => h) rfl (fun ww => exec_move (by rfl) (by rfl) ww) ?_
            simp only [Act.put, List.setIfInBounds_toArray, List.set_cons_zero, List.set_cons_succ]
            refine inO_load 3 ⟨_, _, _, _, _, _⟩ (.agg (V).toArray) (fun w' => w'.rangeAt (wn.heap.size) (0) (V)) rfl (by kernel_rfl) (by kernel_rfl) (by kernel_rfl) (fun _ _ _ h => h) rfl (.head _) (fun ww hw => exec_load_mid _ _ (by rfl) _ _ (by rfl) _ _ hw Try.underlying47 rfl hIV.out) ?_
            simp only [Act.put, List.setIfInBounds_toArray, List.set_cons_zero, List.set_cons_succ]
            refine inO_take 4 ⟨_, _, _, _, _, _⟩ (.int .i64 (z : Int)) rfl (by kernel_rfl) (by kernel_rfl) (by kernel_rfl) (fun _ _ _ h => h) rfl (fun ww => exec_move (by rfl) (by rfl) ww) ?_
            simp only [Act.put, List.setIfInBounds_toArray, List.set_cons_zero, List.set_cons_succ]
            refine inO_step 2 ⟨_, _, _, _, _, _⟩ rfl (by kernel_rfl) rfl (fun K hK => ?_)
            refine wp_call Try.func28 (by kernel_rfl) rfl _ _ rfl _ rfl _ (o_Stable hD6.out (z : Int) (by unfold I64; omega)) fun e wA h => ?_
            obtain ⟨rfl, bA⟩ := h
            have hRA := Lib.hid (hR6.out.drew.below bA)
            rw [hs.out]
            refine ⟨_, rfl, ?_⟩
            refine hK _ _ (Keeps.cons (fun hh => range_below hh bA) (Keeps.nil _ _ _)) ?_
            clear hK K
            simp only [Act.put, List.setIfInBounds_toArray, List.set_cons_zero, List.set_cons_succ]
            refine inO_step 5 ⟨_, _, _, _, _, _⟩ rfl (by kernel_rfl) rfl (fun K hK => ?_)
            refine wp_call Try.func29 (by kernel_rfl) rfl _ _ rfl _ rfl _ (r_At hRA.out.ref fm.out (z : Int) (by unfold I64; omega)) fun e wB h => ?_
            obtain ⟨rfl, bB⟩ := h
            have hRB := Lib.hid (hRA.out.below bB)
            rw [hs'.out]
            refine ⟨_, rfl, ?_⟩
            refine hK _ _ (Keeps.late (by kernel_rfl) (Keeps.nil _ _ _)) ?_
            clear hK K
            simp only [Act.put, List.setIfInBounds_toArray, List.set_cons_zero, List.set_cons_succ]
            refine inO_take 6 ⟨_, _, _, _, _, _⟩ (.bool false) rfl (by kernel_rfl) (by kernel_rfl) (by kernel_rfl) (fun _ _ _ h => h) rfl (fun ww => by go_simp) ?_
            simp only [Act.put, List.setIfInBounds_toArray, List.set_cons_zero, List.set_cons_succ]
            refine inO_done (by kernel_rfl) ?_
            go_wp2
            go_roundw
            case rel => exact ⟨z + 1, by omega, by go_num, hRB, Lib.hid ((q6.out.trans ((below_of_drew bA).mono hs6)).trans (bB.mono (Nat.le_trans hs6 bA.size)))⟩
            case measure => simp [intOf] <;> omega
          · go_wp2
            go_ret
            exact ⟨rfl, q6.out⟩



set_option maxHeartbeats 4000000 in
theorem way_neg (z : Int) (hz : I64 z) (h0 : z < 0) (ao : Option Addr) (n cap : Nat) (w : World) :
    Calls Try.prog 5 #[.int .i64 z, .slice ao n cap] w fun e w' => e = .returned (.bool true) ∧ Below w.heap.size w w' := by
  go_enter Try.func5, Try.ntmps5
  go_wp2_with fail
  refine (uberAlive_any w).mono ?_
  rintro e wa ⟨rfl, ba⟩
  have ba := Lib.hid ba
  go_wp2
  go_ret
  exact ⟨rfl, ba.out⟩
set_option maxHeartbeats 4000000 in
theorem way_big (z : Int) (hz : I64 z) (h0 : 20 < z) (ao : Option Addr) (n cap : Nat) (w : World) :
    Calls Try.prog 5 #[.int .i64 z, .slice ao n cap] w fun e w' => e = .returned (.bool true) ∧ Below w.heap.size w w' := by
  have h1 : ¬ z < 0 := by omega
  go_enter Try.func5, Try.ntmps5
  go_wp2_with fail
  refine (uberAlive_any w).mono ?_
  rintro e wa ⟨rfl, ba⟩
  have ba := Lib.hid ba
  go_wp2
  go_ret
  exact ⟨rfl, ba.out⟩
set_option maxHeartbeats 4000000 in
theorem way_long (z : Int) (h1 : ¬ z < 0) (h2 : ¬ 20 < z) (ao : Option Addr) (n cap : Nat) (w : World) (h : 40 < n) :
    Calls Try.prog 5 #[.int .i64 z, .slice ao n cap] w fun e w' => e = .returned (.bool true) ∧ Below w.heap.size w w' := by
  go_enter Try.func5, Try.ntmps5
  go_wp2_with fail
  refine (uberAlive_any w).mono ?_
  rintro e wa ⟨rfl, ba⟩
  have ba := Lib.hid ba
  go_wp2
  go_ret
  exact ⟨rfl, ba.out⟩

theorem walk (z : Int) (ao : Option Addr) (as_ : List AcM) (cap : Nat) (w : World) (hz : I64 z) (hacts : Acs w ao as_) (hl : as_.length ≤ 140737488351232) (hn : ao = none → cap = 0) :
    Calls Try.prog 5 #[.int .i64 z, .slice ao as_.length cap] w fun e w' => e = .returned (.bool true) ∧ Below w.heap.size w w' := by
  by_cases h0 : z < 0
  · exact way_neg z hz h0 ao _ cap w
  · by_cases h2 : 20 < z
    · exact way_big z hz h2 ao _ cap w
    · by_cases h : as_.length ≤ 40
      · obtain ⟨N, rfl⟩ : ∃ N : Nat, z = (N : Int) := ⟨z.toNat, by omega⟩
        exact way_yes N (by omega) ao as_ cap as_.length w hacts (Lib.hid rfl) h
      · exact way_long z h0 h2 ao _ cap w (by omega)

theorem own : ownKnob Try.prog.godebug = none := by kernel_rfl
theorem laidOut : laidOutB Try.prog = true := by kernel_rfl

set_option maxRecDepth 100000 in
theorem lifted (os : Os) (started : os.Started) (H : Type) (enc : TypeId × Value → H) :
    ReturnsInHanded {} Try.checked os 5 .any (Rows.uberRunsSpec.pre6 enc Try.prog Try.f5 Rows.uberRunsRow.domain false) (Rows.uberRunsSpec.post enc Try.prog Try.f5 false true false false) := by
  refine returnsInHanded_of_change_sized (C := Try.checked) own started (by kernel_rfl) Try.func5
    (ChangeSpec.witness6 (enc := enc) (C := Try.checked) false ⟨#[], #[.int .i64 0, .slice none 0 0], []⟩ 8 (by kernel_rfl) (by kernel_rfl) (by kernel_rfl) (by kernel_rfl)) ?_
  intro W base args ds gs before hval0 hW hcnd hsz0 _
  have hval : ∀ (j : Nat) t v, Try.f5.params[j]? = some t → args[j]? = some v → Value.okWide Try.prog W .any base t v := hval0
  have hsz : (DataW.weightsEach Try.prog (Try.f5.params.toList ++ Rows.uberRunsSpec.plain.varTypes Try.prog) (ds ++ gs)).all (· ≤ reachBytes) = true := hsz0
  have hW' := hW
  obtain ⟨p, q, hA0, hV, rfl, hfz, hnd⟩ := hW
  have hA : DataW.TrodAll enc Try.prog W 0 (fun _ => true) true Try.f5.params.toList args.toList ds p := hA0
  rw [Try.params5] at hA hval hsz
  obtain ⟨v0, vs0, d0, ds0, p0, q0, hargs, rfl, rfl, h0, r0⟩ := trodAll_cons hA
  obtain ⟨v1, vs1, d1, ds1, p1, q1, rfl, rfl, rfl, h1, r1⟩ := trodAll_cons r0
  obtain ⟨rfl, rfl, rfl⟩ := trodAll_nil r1
  obtain rfl : args = #[v0, v1] := by cases args; simp_all
  obtain ⟨rfl, rfl⟩ := trodVars_none hV
  obtain ⟨a0, rfl, rfl, rfl, wf0⟩ := open_int Try.underlying3 (hval 0 3 v0 rfl rfl) h0
  have k1 := h1
  have lt1 : ∀ x ∈ p1, x.block < W.heap.size := by obtain ⟨m, hm⟩ := k1; exact DataW.trod_lt m _ _ _ hm
  obtain ⟨ao1, a1, cap1, rfl, sp1, fi1, nl1⟩ := arg_acts6 h1 (hval 1 43 v1 rfl rfl) (light_arg hsz (j := 1) (t := 43) rfl rfl)
  clear hA0 hval0 hsz0
  refine (walk a0 ao1 a1 cap1 W (wf_i64 wf0) sp1 fi1 nl1).mono fun e W' ⟨he, bel⟩ => ?_
  subst he
  exact ⟨_, rfl, _, _, _, [], _, [], hW', trodAll_mk1 (shut_bool Try.underlying4 _), (trodAll_cons_mk (shut_int Try.underlying3 wf0) (trodAll_cons_mk (Below.trod laidOut (by kernel_rfl) (of_decide_eq_true (by kernel_rfl)) k1 bel lt1) trodAll_mk0)), rfl, bel.frame _, fun h => by cases h⟩

theorem proved : Rows.UberRunsSaid :=
  OpenClaim.holds_of_wide 5 Try.f5 rfl rfl rfl rfl rfl rfl rfl ⟨rfl, rfl, rfl, rfl, rfl⟩ rfl rfl rfl rfl rfl (by kernel_rfl) Try.func5 (by kernel_rfl)
    (of_decide_eq_true (by kernel_rfl)) (by unfold Func.isWrapper; first | (rw [if_pos (by decide +kernel)]; kernel_rfl) | (rw [if_neg (by decide +kernel)]; exact ⟨rfl, rfl⟩))
    (fun os started H enc _ => lifted os started H enc)
end Go.Proofs.Ytfblehdeoloijaa.lawUberRuns
