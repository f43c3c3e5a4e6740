/- VdevRuns, for every input: the law returns true and each argument reads behind the call as before. No condition. -/
import Derived.Test.YtfpacnokecfhmaaRunA
namespace Go.Proofs.Ytfpacnokecfhmaa.lawVdevRuns
open Go.ChangeShapes Go.WideShapes Go.ChangeAt Go.RowKit Go.Deep
set_option linter.unusedVariables false

set_option maxRecDepth 100000 in
set_option maxHeartbeats 8000000 in
theorem way_yes (sec : Int) (hsec : I64 sec) (ao : Option Addr) (as_ : List ActM) (cap n : Nat) (w : World) (hacts : Acts w ao as_) (hn : Hid (as_.length = n)) (hn2 : n ≤ 200) :
    Calls Try.prog 4 #[.int .i64 sec, .slice ao n cap] w fun e w' => e = .returned (.bool true) ∧ Below w.heap.size w w' := by
  obtain ⟨ib, hib, hzb, hzb1, hzb2⟩ := info_parts infoBool
  have hacts := Lib.hid hacts
  have hz := zeroSec
  have hza := zeroAct
  have he := eqSec
  go_enter Try.func4, Try.ntmps4
  go_wp2_with fail
  refine (alive_any w).mono ?_
  rintro e wa ⟨rfl, ba⟩
  have ba := Lib.hid ba
  go_wp2_with fail
  refine (New_any sec hsec wa).mono ?_
  rintro e wb ⟨d, F0, rfl, hd0, lo0, bb⟩
  have q0 := Lib.hid (ba.out.trans (bb.mono ba.out.size))
  have lo0 := Lib.hid (fun k hk => Nat.le_trans ba.out.size (lo0 k hk))
  have hd0 := Lib.hid hd0
  clear bb
  go_wp2_with fail
  refine (r_New (X := F0) sec hsec wb hd0.out.lt).mono ?_
  rintro e wn ⟨V0, rfl, hr0, bc⟩
  have qc := Lib.hid (q0.out.trans (bc.mono q0.out.size))
  have hdc := Lib.hid (hd0.out.below bc)
  have hsc : w.heap.size ≤ wn.heap.size := qc.out.size
  have hr0 := Lib.hid hr0
  clear bc
  go_wp2_with ((with_reducible refine guardList ?_)
               refine wantList_store (by rfl) 30 _ _ rfl (wn.heap.size) 0 (by rfl) V0 (by rfl) _ (devL none 0 0 none 0 0 0 0 false) V0 (Blk.new wn 30 (devL none 0 0 none 0 0 0 0 false)) (by have h1 := hr0.out.len; have h2 : (devL none 0 0 none 0 0 0 0 false).length = 5 := rfl; omega) hr0.out.one hr0.out.info (whole_new (hr0.out.len.trans (Eq.symm rfl))) ?_
               intro wd hv0 k0 z0
               have hR0 := Lib.hid (Runs.start hdc.out lo0.out hr0.out hsc _ k0 hv0)
               have qd := Lib.hid (Kept.out (qc.out.alloc hsc _) k0 (fun i _ e => by omega) (by simp; omega))
               clear k0 z0 hv0)
  go_loopw [31] (fun i wr => ∃ (k : Nat) (F : Nat → Prop) (m : DevM) (V : List Value) (X : Nat → Prop), k ≤ n ∧ i = .int .i64 k ∧ Hid (Runs w.heap.size wr d F m m wn.heap.size V X) ∧ Hid (RunI m k) ∧ Hid (Below w.heap.size w wr))
    (fun i _ => n - (intOf i).toNat)
  case atStart => exact ⟨0, F0, _, V0, _, by omega, rfl, hR0, Lib.hid (runI_fresh _), qd⟩
  case round =>
    clear hR0 qd
    obtain ⟨k, F, m, V, X, hk, rfl, hR, hI, hb⟩ := hrel
    have hpl : m.pending.length ≤ 1000000000 := hI.out.le (by omega)
    have hops : Hid (m.ops < 4611686018427387903) := Lib.hid (hI.out.lt (by omega))
    have hbs : w.heap.size ≤ wr.heap.size := hb.out.size
    by_cases hlt : k < n
    · obtain ⟨b, off, rfl, hbb, hr⟩ := (hacts.out.below hb.out).range (k := k) (by rw [hn.out]; exact hlt)
      have hok : ActOk w (as_[k]'(by rw [hn.out]; exact hlt)) := hacts.out.each _ (List.getElem_mem _)
      obtain ⟨a, ha⟩ : ∃ a : ActM, Hid (a = as_[k]'(by rw [hn.out]; exact hlt)) := ⟨_, Lib.hid rfl⟩
      rw [← ha.out] at hr hok
      have hr := Lib.hid hr
      have hok := Lib.hid hok
      have i0 : (0 : Int) ≤ (k : Int) := by omega
      have i1 : (k : Int) < (n : Int) := by omega
      go_upto_block 2 with (first
        | ((with_reducible refine guardList ?_)
           refine wantList_load (by rfl) 36 _ rfl b (off + k * 131) (by rfl) (actL a) _ hr.out Try.underlying36 rfl (infoActL _) ?_)
        | ((with_reducible refine guardList ?_)
           refine wantList_store (by rfl) 36 _ _ rfl wr.heap.size 0 (by rfl) (actL a) (by rfl) _ (actL act0) (actL a) (Blk.new _ _ _) (by simp [actL_length]) (actL_one _) (infoActL _) (whole_new (by simp [actL_length])) ?_
           intro w1 hA1 k1 z1
           have b1 := Lib.hid (Kept.out ((Below.refl wr.heap.size wr).alloc (Nat.le_refl _) _) k1 (fun i _ e => by omega) (by simp))
           have hz1 : w1.heap.size = wr.heap.size + 1 := by simpa using z1
           have hA1 := Lib.hid hA1
           clear k1 z1)
        | ((with_reducible refine guardList ?_)
           refine wantList_build (by rfl) 33 [] rfl (secL sec0) _ (by rfl) built_sec0 ?_)
        | ((with_reducible refine guardList ?_)
           refine wantList_store (by rfl) 33 _ _ rfl (wr.heap.size + 1) 0 (by rfl) (secL sec0) (by rfl) _ (secL sec0) (secL sec0) (by rw [← hz1]; exact (Blk.new w1 33 (secL sec0)).alloc _) (by simp [secL_length]) (secL_one _) (infoSecL _) (whole_new (by simp [secL_length])) ?_
           intro w2 hS2 k2 z2
           have hA2 := Lib.hid (((hA1.out.alloc _).alloc _).kept k2 (by omega))
           have hT2 := Lib.hid (show Blk w2 (wr.heap.size + 2) 33 (secL sec0) from (by have h := two_new w1 (.cells (secL sec0).toArray 33) 33 (secL sec0); rw [hz1] at h; exact h.kept k2 (by omega)))
           have b2 := Lib.hid (Kept.out ((b1.out.alloc (by omega) _).alloc (by simp; omega) _) k2 (fun i _ e => by omega) (by simp; omega))
           have hz2 : w2.heap.size = wr.heap.size + 3 := by simp at z2; omega
           have hS2 := Lib.hid hS2
           clear k2 z2)
        | ((with_reducible refine guardList ?_)
           refine wantList_store (by rfl) 33 _ _ rfl (wr.heap.size + 2) 0 (by rfl) (secL sec0) (by rfl) _ (secL sec0) (secL sec0) hT2.out (by simp [secL_length]) (secL_one _) (infoSecL _) (whole_new (by simp [secL_length])) ?_
           intro w3 hT3 k3 z3
           have hA3 := hA2.out.kept k3 (by omega)
           have b3 := Kept.out b2.out k3 (fun i _ e => by omega) (by omega)
           have hR3 := Lib.hid (hR.out.grow (G := fun _ => False) (hR.out.below b3) (fun i => wr.heap.size ≤ i ∧ i < w3.heap.size) (fun i hi => hi) (Kept.of_below b3 _) (fun _ _ => False.elim))
           have c0 := act_c0 hA3
           have hL3 := Lib.hid (Loc.mk (F := F) (X := fun i => X i ∨ (wr.heap.size ≤ i ∧ i < w3.heap.size)) hA3 (hS2.out.kept k3 (by omega)) hT3 (fun hf => by have := hR.out.dev.lt _ hf; omega) (fun hf => by have := hR.out.dev.lt _ hf; omega) (fun hf => by have := hR.out.dev.lt _ hf; omega) (.inr ⟨by omega, by omega⟩) (.inr ⟨by omega, by omega⟩) (by omega))
           have q3 := Lib.hid (hb.out.trans (b3.mono hbs))
           clear k3 z3 hT3 hA3 b3))
      have hs3 : w.heap.size ≤ w3.heap.size := q3.out.size
      have hm : Hid m.Fits := Lib.hid hR.out.dev.fits
      go_cut [11, 12] from 39 to 120 (fun v11 v12 w' => ∃ (F' : Nat → Prop) (m' : DevM) (V' : List Value) (X' : Nat → Prop) (x : Sec) (e : Int), v11 = .int .i64 e ∧ v12 = .int .i64 e ∧ Hid (Runs w.heap.size w' d F' m' m' wn.heap.size V' X') ∧ Hid (Loc w' F' X' wr.heap.size (wr.heap.size + 1) (wr.heap.size + 2) a x x) ∧ Hid (RunI m' (k + 1)) ∧ Hid (Below w.heap.size w w'))
      case first =>
        by_cases hk0 : a.kind = 0
        · have e0 : (a.kind == 0) = true := by simpa using hk0
          clear hk0
          obtain ⟨m', hm'⟩ : ∃ m', Hid (m.tick = m') := ⟨_, Lib.hid rfl⟩
          have hI' : Hid (RunI m' (k + 1)) := Lib.hid (by rw [← hm'.out]; exact hI.out.tick)
          obtain ⟨ev, hev⟩ : ∃ ev, Hid ((m.read a.at_).2 = ev) := ⟨_, Lib.hid rfl⟩
          obtain ⟨x, hx⟩ : ∃ x, Hid ((m.read a.at_).1 = x) := ⟨_, Lib.hid rfl⟩
          have c1 := act_c1 hL3.out.hA
          go_wp2_with fail
          refine (o_Read hR3.out.dev a.at_ hok.out.at_).mono ?_
          rintro e w4 ⟨rfl, F4, h4, k4, g4⟩
          rw [hm'.out] at h4
          rw [hx.out, hev.out]
          have hL4 := Lib.hid (hL3.out.callD k4 g4)
          have hR4 := Lib.hid (hR3.out.callD k4 h4 g4 hs3)
          have q4 := Lib.hid (Kept.out q3.out k4 (fun i _ hi => hR3.out.low i hi) hs3)
          have hs4 : w.heap.size ≤ w4.heap.size := q4.out.size
          have c1 := act_c1 hL4.out.hA
          clear k4 h4 g4
          go_upto_region 15 with (first
                  | ((with_reducible refine guardList ?_)
                     refine wantList_store (by rfl) 33 _ _ rfl (wr.heap.size + 1) 0 (by rfl) (secL x) (by rfl) _ (secL sec0) (secL x) hL4.out.hS (by simp [secL_length]) (secL_one _) (infoSecL _) (whole_new (by simp [secL_length])) ?_
                     intro w5 hb5 k5 z5
                     have hL5 := Lib.hid (hL4.out.setS k5 hb5)
                     have hR5 := Lib.hid (hR4.out.setS hL4.out k5)
                     have q5 := Lib.hid (Kept.out q4.out k5 (fun i _ e => by omega) hs4)
                     have hs5 : w.heap.size ≤ w5.heap.size := q5.out.size
                     have c1 := act_c1 hL5.out.hA
                     clear k5 z5 hb5))
          go_wp2_with (first
                  | ((with_reducible refine guardList ?_)
                     refine wantList_load (by rfl) 30 _ rfl wn.heap.size 0 (by rfl) V _ (range_dev hR5.out.var) Try.underlying30 rfl hR5.out.ref.info ?_))
          refine (r_Read hR5.out.ref hm.out hops.out hpl a.at_ hok.out.at_).mono ?_
          rintro e w6 ⟨V6, rfl, v6, b6⟩
          rw [hm'.out] at v6
          rw [hx.out, hev.out]
          have hL6 := Lib.hid (hL5.out.below b6)
          have hR6 := Lib.hid (hR5.out.below b6)
          have v6 := Lib.hid v6
          have q6 := Lib.hid (q5.out.trans (b6.mono hs5))
          have hs6 : w.heap.size ≤ w6.heap.size := q6.out.size
          clear b6
          go_wp2_with (first
                  | ((with_reducible refine guardList ?_)
                     refine wantList_store (by rfl) 30 _ _ rfl (wn.heap.size) 0 (by rfl) V6 (by rfl) _ (V) V6 hR6.out.var (by have h1 := v6.out.len; have h2 : (V).length = 5 := hR6.out.ref.len; omega) v6.out.one v6.out.info (whole_new (v6.out.len.trans (Eq.symm hR6.out.ref.len))) ?_
                     intro w7 hb7 k7 z7
                     have hL7 := Lib.hid (hL6.out.setV hR6.out.var k7)
                     have hR7 := Lib.hid (hR6.out.setV v6.out k7 hb7)
                     have q7 := Lib.hid (Kept.out q6.out k7 (fun i _ e => by have := hR6.out.gb; omega) hs6)
                     have hs7 : w.heap.size ≤ w7.heap.size := q7.out.size
                     clear k7 z7 hb7)
                  | ((with_reducible refine guardList ?_)
                     refine wantList_store (by rfl) 33 _ _ rfl (wr.heap.size + 2) 0 (by rfl) (secL x) (by rfl) _ (secL sec0) (secL x) hL7.out.hT (by simp [secL_length]) (secL_one _) (infoSecL _) (whole_new (by simp [secL_length])) ?_
                     intro w8 hb8 k8 z8
                     have hL8 := Lib.hid (hL7.out.setT k8 hb8)
                     have hR8 := Lib.hid (hR7.out.setT hL7.out k8)
                     have q8 := Lib.hid (Kept.out q7.out k8 (fun i _ e => by omega) hs7)
                     have hs8 : w.heap.size ≤ w8.heap.size := q8.out.size
                     clear k8 z8 hb8))
          go_meet
          exact ⟨_, m', _, _, x, ev, rfl, rfl, hR8, hL8, hI', q8⟩
        have e0 : (a.kind == 0) = false := by simpa using hk0
        by_cases hk1 : a.kind = 1
        · have e1 : (a.kind == 1) = true := by simpa using hk1
          clear hk0 hk1
          obtain ⟨m', hm'⟩ : ∃ m', Hid ((m.write a.at_ a.data).1 = m') := ⟨_, Lib.hid rfl⟩
          have hI' : Hid (RunI m' (k + 1)) := Lib.hid (by rw [← hm'.out]; exact hI.out.write _ _)
          obtain ⟨ev, hev⟩ : ∃ ev, Hid ((m.write a.at_ a.data).2 = ev) := ⟨_, Lib.hid rfl⟩
          have c1 := act_c1 hL3.out.hA
          have r2 := Lib.hid (act_r2 hL3.out.hA)
          go_wp2_with (first
                  | ((with_reducible refine guardList ?_)
                     refine wantList_load (by rfl) 33 _ rfl (wr.heap.size) 2 (by rfl) (secL a.data) _ r2.out Try.underlying33 rfl (infoSecL _) ?_))
          refine (o_Write hR3.out.dev a.at_ hok.out.at_ a.data hpl).mono ?_
          rintro e w4 ⟨rfl, F4, h4, k4, g4⟩
          rw [hm'.out] at h4
          rw [hev.out]
          have hL4 := Lib.hid (hL3.out.callD k4 g4)
          have hR4 := Lib.hid (hR3.out.callD k4 h4 g4 hs3)
          have q4 := Lib.hid (Kept.out q3.out k4 (fun i _ hi => hR3.out.low i hi) hs3)
          have hs4 : w.heap.size ≤ w4.heap.size := q4.out.size
          have c1 := act_c1 hL4.out.hA
          have r2 := Lib.hid (act_r2 hL4.out.hA)
          clear k4 h4 g4
          go_wp2_with (first
                  | ((with_reducible refine guardList ?_)
                     refine wantList_load (by rfl) 30 _ rfl wn.heap.size 0 (by rfl) V _ (range_dev hR4.out.var) Try.underlying30 rfl hR4.out.ref.info ?_)
                  | ((with_reducible refine guardList ?_)
                     refine wantList_load (by rfl) 33 _ rfl (wr.heap.size) 2 (by rfl) (secL a.data) _ r2.out Try.underlying33 rfl (infoSecL _) ?_))
          refine (r_Put hR4.out.ref hR4.out.xlt hm.out hops.out hpl a.at_ hok.out.at_ a.data).mono ?_
          rintro e w5 ⟨V5, rfl, v5, b5⟩
          rw [hm'.out] at v5
          rw [hev.out]
          have hL5 := Lib.hid (hL4.out.below b5)
          have hR5 := Lib.hid (hR4.out.below b5)
          have v5 := Lib.hid v5
          have q5 := Lib.hid (q4.out.trans (b5.mono hs4))
          have hs5 : w.heap.size ≤ w5.heap.size := q5.out.size
          clear b5
          go_wp2_with (first
                  | ((with_reducible refine guardList ?_)
                     refine wantList_store (by rfl) 30 _ _ rfl (wn.heap.size) 0 (by rfl) V5 (by rfl) _ (V) V5 hR5.out.var (by have h1 := v5.out.len; have h2 : (V).length = 5 := hR5.out.ref.len; omega) v5.out.one v5.out.info (whole_new (v5.out.len.trans (Eq.symm hR5.out.ref.len))) ?_
                     intro w6 hb6 k6 z6
                     have hL6 := Lib.hid (hL5.out.setV hR5.out.var k6)
                     have hR6 := Lib.hid (hR5.out.setV v5.out k6 hb6)
                     have q6 := Lib.hid (Kept.out q5.out k6 (fun i _ e => by have := hR5.out.gb; omega) hs5)
                     have hs6 : w.heap.size ≤ w6.heap.size := q6.out.size
                     clear k6 z6 hb6))
          go_meet
          exact ⟨_, m', _, _, sec0, ev, rfl, rfl, hR6, hL6, hI', q6⟩
        have e1 : (a.kind == 1) = false := by simpa using hk1
        by_cases hk2 : a.kind = 2
        · have e2 : (a.kind == 2) = true := by simpa using hk2
          clear hk0 hk1 hk2
          obtain ⟨m', hm'⟩ : ∃ m', Hid (m.flush.1 = m') := ⟨_, Lib.hid rfl⟩
          have hI' : Hid (RunI m' (k + 1)) := Lib.hid (by rw [← hm'.out]; exact hI.out.flush)
          obtain ⟨ev, hev⟩ : ∃ ev, Hid (m.flush.2 = ev) := ⟨_, Lib.hid rfl⟩
          go_wp2_with fail
          refine (o_Flush hR3.out.dev hpl).mono ?_
          rintro e w4 ⟨rfl, F4, h4, k4, g4⟩
          rw [hm'.out] at h4
          rw [hev.out]
          have hL4 := Lib.hid (hL3.out.callD k4 g4)
          have hR4 := Lib.hid (hR3.out.callD k4 h4 g4 hs3)
          have q4 := Lib.hid (Kept.out q3.out k4 (fun i _ hi => hR3.out.low i hi) hs3)
          have hs4 : w.heap.size ≤ w4.heap.size := q4.out.size
          clear k4 h4 g4
          go_wp2_with (first
                  | ((with_reducible refine guardList ?_)
                     refine wantList_load (by rfl) 30 _ rfl wn.heap.size 0 (by rfl) V _ (range_dev hR4.out.var) Try.underlying30 rfl hR4.out.ref.info ?_))
          refine (r_Flush hR4.out.ref hR4.out.xlt hm.out hops.out hpl).mono ?_
          rintro e w5 ⟨V5, rfl, v5, b5⟩
          rw [hm'.out] at v5
          rw [hev.out]
          have hL5 := Lib.hid (hL4.out.below b5)
          have hR5 := Lib.hid (hR4.out.below b5)
          have v5 := Lib.hid v5
          have q5 := Lib.hid (q4.out.trans (b5.mono hs4))
          have hs5 : w.heap.size ≤ w5.heap.size := q5.out.size
          clear b5
          go_wp2_with (first
                  | ((with_reducible refine guardList ?_)
                     refine wantList_store (by rfl) 30 _ _ rfl (wn.heap.size) 0 (by rfl) V5 (by rfl) _ (V) V5 hR5.out.var (by have h1 := v5.out.len; have h2 : (V).length = 5 := hR5.out.ref.len; omega) v5.out.one v5.out.info (whole_new (v5.out.len.trans (Eq.symm hR5.out.ref.len))) ?_
                     intro w6 hb6 k6 z6
                     have hL6 := Lib.hid (hL5.out.setV hR5.out.var k6)
                     have hR6 := Lib.hid (hR5.out.setV v5.out k6 hb6)
                     have q6 := Lib.hid (Kept.out q5.out k6 (fun i _ e => by have := hR5.out.gb; omega) hs5)
                     have hs6 : w.heap.size ≤ w6.heap.size := q6.out.size
                     clear k6 z6 hb6))
          go_meet
          exact ⟨_, m', _, _, sec0, ev, rfl, rfl, hR6, hL6, hI', q6⟩
        have e2 : (a.kind == 2) = false := by simpa using hk2
        by_cases hk3 : a.kind = 3
        · have e3 : (a.kind == 3) = true := by simpa using hk3
          clear hk0 hk1 hk2 hk3
          obtain ⟨m', hm'⟩ : ∃ m', Hid (m.brk a.at_ = m') := ⟨_, Lib.hid rfl⟩
          have hI' : Hid (RunI m' (k + 1)) := Lib.hid (by rw [← hm'.out]; exact hI.out.brk _)
          have c1 := act_c1 hL3.out.hA
          go_wp2_with fail
          refine (o_Break hR3.out.dev a.at_ hok.out.at_).mono ?_
          rintro e w4 ⟨rfl, F4, h4, k4, g4⟩
          rw [hm'.out] at h4
          have hL4 := Lib.hid (hL3.out.callD k4 g4)
          have hR4 := Lib.hid (hR3.out.callD k4 h4 g4 hs3)
          have q4 := Lib.hid (Kept.out q3.out k4 (fun i _ hi => hR3.out.low i hi) hs3)
          have hs4 : w.heap.size ≤ w4.heap.size := q4.out.size
          have c1 := act_c1 hL4.out.hA
          clear k4 h4 g4
          go_wp2_with (first
                  | ((with_reducible refine guardList ?_)
                     refine wantList_load (by rfl) 30 _ rfl wn.heap.size 0 (by rfl) V _ (range_dev hR4.out.var) Try.underlying30 rfl hR4.out.ref.info ?_))
          refine (r_Break hR4.out.ref a.at_ hok.out.at_).mono ?_
          rintro e w5 ⟨V5, rfl, v5, b5⟩
          rw [hm'.out] at v5
          have hL5 := Lib.hid (hL4.out.below b5)
          have hR5 := Lib.hid (hR4.out.below b5)
          have v5 := Lib.hid v5
          have q5 := Lib.hid (q4.out.trans (b5.mono hs4))
          have hs5 : w.heap.size ≤ w5.heap.size := q5.out.size
          clear b5
          go_wp2_with (first
                  | ((with_reducible refine guardList ?_)
                     refine wantList_store (by rfl) 30 _ _ rfl (wn.heap.size) 0 (by rfl) V5 (by rfl) _ (V) V5 hR5.out.var (by have h1 := v5.out.len; have h2 : (V).length = 5 := hR5.out.ref.len; omega) v5.out.one v5.out.info (whole_new (v5.out.len.trans (Eq.symm hR5.out.ref.len))) ?_
                     intro w6 hb6 k6 z6
                     have hL6 := Lib.hid (hL5.out.setV hR5.out.var k6)
                     have hR6 := Lib.hid (hR5.out.setV v5.out k6 hb6)
                     have q6 := Lib.hid (Kept.out q5.out k6 (fun i _ e => by have := hR5.out.gb; omega) hs5)
                     have hs6 : w.heap.size ≤ w6.heap.size := q6.out.size
                     clear k6 z6 hb6))
          go_meet
          exact ⟨_, m', _, _, sec0, 0, rfl, rfl, hR6, hL6, hI', q6⟩
        have e3 : (a.kind == 3) = false := by simpa using hk3
        by_cases hk4 : a.kind = 4
        · have e4 : (a.kind == 4) = true := by simpa using hk4
          clear hk0 hk1 hk2 hk3 hk4
          obtain ⟨m', hm'⟩ : ∃ m', Hid (m.crash a.keep = m') := ⟨_, Lib.hid rfl⟩
          have hI' : Hid (RunI m' (k + 1)) := Lib.hid (by rw [← hm'.out]; exact hI.out.crash _)
          have c3 := act_c3 hL3.out.hA
          have hAl3 : wr.heap.size < w3.heap.size := hL3.out.hA.lt
          have hkc1 := hok.out.cap.1
          have hkc2 := hok.out.cap.2
          have hbl : a.keep.length ≤ 9223372036854775807 := by omega
          have kr3 := Lib.hid (hok.out.keep.below q3.out)
          go_wp2_with (first
                  | (at_builtin
                     refine wpList_copy rfl _ _ 34 rfl 4 ib _ 1 Try.underlying34 hib hzb hzb1 hzb2 rfl w3 (by rfl) a.kao a.keep.length a.kcap (boolsV a.keep) (by rfl) hok.out.nil (boolsV_length a.keep) kr3.out (boolsV_one a.keep) (by omega) (by omega) ?_
                     intro eo ec w9 hown hel hem hen hbk
                     have hR9 := Lib.hid (hR3.out.below hbk)
                     have hL9 := Lib.hid (hL3.out.below hbk)
                     have q9 := Lib.hid (q3.out.trans (hbk.mono hs3))
                     have hs9 : w.heap.size ≤ w9.heap.size := q9.out.size
                     have hown := Lib.hid hown
                     clear hbk hen))
          refine (o_Crash hR9.out.dev eo ec a.keep hpl hbl hown.out.reads (fun _ a' ha hf => by
                  have h1 := hown.out.lt a'.block (by rw [ha]; rfl)
                  have h2 := hR3.out.dev.lt _ hf
                  omega)).mono ?_
          rintro e w4 ⟨rfl, F4, h4, k4, g4⟩
          rw [hm'.out] at h4
          have hL4 := Lib.hid (hL9.out.callD k4 g4)
          have hR4 := Lib.hid (hR9.out.callD k4 h4 g4 hs9)
          have q4 := Lib.hid (Kept.out q9.out k4 (fun i _ hi => hR9.out.low i hi) hs9)
          have hs4 : w.heap.size ≤ w4.heap.size := q4.out.size
          have c3 := act_c3 hL4.out.hA
          have hAl4 : wr.heap.size < w4.heap.size := hL4.out.hA.lt
          clear k4 h4 g4
          have kr4 := Lib.hid (hok.out.keep.below q4.out)
          go_wp2_with (first
                  | ((with_reducible refine guardList ?_)
                     refine wantList_load (by rfl) 30 _ rfl wn.heap.size 0 (by rfl) V _ (range_dev hR4.out.var) Try.underlying30 rfl hR4.out.ref.info ?_))
          refine (r_Crash hR4.out.ref hR4.out.xlt hm.out hpl a.kao a.kcap a.keep hbl kr4.out).mono ?_
          rintro e w5 ⟨V5, rfl, v5, b5⟩
          rw [hm'.out] at v5
          have hL5 := Lib.hid (hL4.out.below b5)
          have hR5 := Lib.hid (hR4.out.below b5)
          have v5 := Lib.hid v5
          have q5 := Lib.hid (q4.out.trans (b5.mono hs4))
          have hs5 : w.heap.size ≤ w5.heap.size := q5.out.size
          clear b5
          go_wp2_with (first
                  | ((with_reducible refine guardList ?_)
                     refine wantList_store (by rfl) 30 _ _ rfl (wn.heap.size) 0 (by rfl) V5 (by rfl) _ (V) V5 hR5.out.var (by have h1 := v5.out.len; have h2 : (V).length = 5 := hR5.out.ref.len; omega) v5.out.one v5.out.info (whole_new (v5.out.len.trans (Eq.symm hR5.out.ref.len))) ?_
                     intro w6 hb6 k6 z6
                     have hL6 := Lib.hid (hL5.out.setV hR5.out.var k6)
                     have hR6 := Lib.hid (hR5.out.setV v5.out k6 hb6)
                     have q6 := Lib.hid (Kept.out q5.out k6 (fun i _ e => by have := hR5.out.gb; omega) hs5)
                     have hs6 : w.heap.size ≤ w6.heap.size := q6.out.size
                     clear k6 z6 hb6))
          go_meet
          exact ⟨_, m', _, _, sec0, 0, rfl, rfl, hR6, hL6, hI', q6⟩
        have e4 : (a.kind == 4) = false := by simpa using hk4
        by_cases hk5 : a.kind = 5
        · have e5 : (a.kind == 5) = true := by simpa using hk5
          clear hk0 hk1 hk2 hk3 hk4 hk5
          obtain ⟨m', hm'⟩ : ∃ m', Hid ((m.rot a.at_ a.data).1 = m') := ⟨_, Lib.hid rfl⟩
          have hI' : Hid (RunI m' (k + 1)) := Lib.hid (by rw [← hm'.out]; exact hI.out.rot _ _)
          obtain ⟨ev, hev⟩ : ∃ ev, Hid ((m.rot a.at_ a.data).2 = ev) := ⟨_, Lib.hid rfl⟩
          have c1 := act_c1 hL3.out.hA
          have r2 := Lib.hid (act_r2 hL3.out.hA)
          go_wp2_with (first
                  | ((with_reducible refine guardList ?_)
                     refine wantList_load (by rfl) 33 _ rfl (wr.heap.size) 2 (by rfl) (secL a.data) _ r2.out Try.underlying33 rfl (infoSecL _) ?_))
          refine (o_Rot hR3.out.dev a.at_ hok.out.at_ a.data hpl).mono ?_
          rintro e w4 ⟨rfl, F4, h4, k4, g4⟩
          rw [hm'.out] at h4
          rw [hev.out]
          have hL4 := Lib.hid (hL3.out.callD k4 g4)
          have hR4 := Lib.hid (hR3.out.callD k4 h4 g4 hs3)
          have q4 := Lib.hid (Kept.out q3.out k4 (fun i _ hi => hR3.out.low i hi) hs3)
          have hs4 : w.heap.size ≤ w4.heap.size := q4.out.size
          have c1 := act_c1 hL4.out.hA
          have r2 := Lib.hid (act_r2 hL4.out.hA)
          clear k4 h4 g4
          go_wp2_with (first
                  | ((with_reducible refine guardList ?_)
                     refine wantList_load (by rfl) 30 _ rfl wn.heap.size 0 (by rfl) V _ (range_dev hR4.out.var) Try.underlying30 rfl hR4.out.ref.info ?_)
                  | ((with_reducible refine guardList ?_)
                     refine wantList_load (by rfl) 33 _ rfl (wr.heap.size) 2 (by rfl) (secL a.data) _ r2.out Try.underlying33 rfl (infoSecL _) ?_))
          refine (r_Rot hR4.out.ref hR4.out.xlt hm.out hpl a.at_ hok.out.at_ a.data).mono ?_
          rintro e w5 ⟨V5, rfl, v5, b5⟩
          rw [hm'.out] at v5
          rw [hev.out]
          have hL5 := Lib.hid (hL4.out.below b5)
          have hR5 := Lib.hid (hR4.out.below b5)
          have v5 := Lib.hid v5
          have q5 := Lib.hid (q4.out.trans (b5.mono hs4))
          have hs5 : w.heap.size ≤ w5.heap.size := q5.out.size
          clear b5
          go_wp2_with (first
                  | ((with_reducible refine guardList ?_)
                     refine wantList_store (by rfl) 30 _ _ rfl (wn.heap.size) 0 (by rfl) V5 (by rfl) _ (V) V5 hR5.out.var (by have h1 := v5.out.len; have h2 : (V).length = 5 := hR5.out.ref.len; omega) v5.out.one v5.out.info (whole_new (v5.out.len.trans (Eq.symm hR5.out.ref.len))) ?_
                     intro w6 hb6 k6 z6
                     have hL6 := Lib.hid (hL5.out.setV hR5.out.var k6)
                     have hR6 := Lib.hid (hR5.out.setV v5.out k6 hb6)
                     have q6 := Lib.hid (Kept.out q5.out k6 (fun i _ e => by have := hR5.out.gb; omega) hs5)
                     have hs6 : w.heap.size ≤ w6.heap.size := q6.out.size
                     clear k6 z6 hb6))
          go_meet
          exact ⟨_, m', _, _, sec0, ev, rfl, rfl, hR6, hL6, hI', q6⟩
        have e5 : (a.kind == 5) = false := by simpa using hk5
        clear hk0 hk1 hk2 hk3 hk4 hk5
        have hI' : Hid (RunI m (k + 1)) := Lib.hid hI.out.succ
        go_wp2
        go_meet
        exact ⟨_, m, _, _, sec0, 0, rfl, rfl, hR3, hL3, hI', q3⟩
      case rest =>
        obtain ⟨F', m', V', X', x, ev, rfl, rfl, hR4, hL4, hI4, q4⟩ := hcut
        obtain ⟨so, sc, po, pc, y0, y1, y2, y4⟩ := hR4.out.cells
        have y0 := Lib.hid y0
        have y1 := Lib.hid y1
        have y2 := Lib.hid y2
        have y4 := Lib.hid y4
        have hS4 : Hid (wc.rangeAt (wr.heap.size + 1) 0 (secL x)) := Lib.hid (range_dev hL4.out.hS)
        have hT4 : Hid (wc.rangeAt (wr.heap.size + 2) 0 (secL x)) := Lib.hid (range_dev hL4.out.hT)
        have hD4 := Lib.hid (hR4.out.dev.drew)
        clear c0
        go_wp2
        refine inO_region [(0, fun w' => w'.rangeAt (wr.heap.size + 1) (0) (secL x)), (1, fun w' => w'.rangeAt (wr.heap.size + 2) (0) (secL x)), (12, fun w' => w'.cell? ⟨wn.heap.size, 1, none⟩ = some (.slice po m'.pending.length pc)), (20, fun w' => w'.cell? ⟨wn.heap.size, 2, none⟩ = some (.int .i64 (m'.ops : Int))), (27, fun w' => w'.cell? ⟨wn.heap.size, 4, none⟩ = some (.bool m'.dead)), (34, fun w' => w'.cell? ⟨wn.heap.size, 0, none⟩ = some (.slice so m'.stable.length sc))] (by kernel_rfl) (Owed.cons (hS4.out) (Owed.cons (hT4.out) (Owed.cons (y1.out) (Owed.cons (y2.out) (Owed.cons (y4.out) (Owed.cons (y0.out) (Owed.nil _ _))))))) ?_
        refine inO_load 0 ⟨_, _, _, _, _, _⟩ (.agg (secL x).toArray) (fun w' => w'.rangeAt (wr.heap.size + 1) (0) (secL x)) rfl (by kernel_rfl) (by kernel_rfl) (by kernel_rfl) (fun _ _ _ h => h) rfl (.head _) (fun ww hw => exec_load_mid _ _ (by rfl) _ _ (by rfl) _ _ hw Try.underlying33 rfl (infoSecL _)) ?_
        simp only [Act.put, List.setIfInBounds_toArray, List.set_cons_zero, List.set_cons_succ]
        refine inO_load 1 ⟨_, _, _, _, _, _⟩ (.agg (secL x).toArray) (fun w' => w'.rangeAt (wr.heap.size + 2) (0) (secL x)) rfl (by kernel_rfl) (by kernel_rfl) (by kernel_rfl) (fun _ _ _ h => h) rfl (.tail _ (.head _)) (fun ww hw => exec_load_mid _ _ (by rfl) _ _ (by rfl) _ _ hw Try.underlying33 rfl (infoSecL _)) ?_
        simp only [Act.put, List.setIfInBounds_toArray, List.set_cons_zero, List.set_cons_succ]
        refine inO_take 2 ⟨_, _, _, _, _, _⟩ (.bool false) rfl (by kernel_rfl) (by kernel_rfl) (by kernel_rfl) (fun _ _ _ h => h) rfl (fun ww => by go_simp) ?_
        simp only [Act.put, List.setIfInBounds_toArray, List.set_cons_zero, List.set_cons_succ]
        refine inO_take 3 ⟨_, _, _, _, _, _⟩ (.bool false) rfl (by kernel_rfl) (by kernel_rfl) (by kernel_rfl) (fun _ _ _ h => h) rfl (fun ww => exec_move (by rfl) (by rfl) ww) ?_
        simp only [Act.put, List.setIfInBounds_toArray, List.set_cons_zero, List.set_cons_succ]
        refine inO_take 4 ⟨_, _, _, _, _, _⟩ (.int .i64 ev) rfl (by kernel_rfl) (by kernel_rfl) (by kernel_rfl) (fun _ _ _ h => h) rfl (fun ww => exec_move (by rfl) (by rfl) ww) ?_
        simp only [Act.put, List.setIfInBounds_toArray, List.set_cons_zero, List.set_cons_succ]
        refine inO_take 5 ⟨_, _, _, _, _, _⟩ (.int .i64 ev) rfl (by kernel_rfl) (by kernel_rfl) (by kernel_rfl) (fun _ _ _ h => h) rfl (fun ww => exec_move (by rfl) (by rfl) ww) ?_
        simp only [Act.put, List.setIfInBounds_toArray, List.set_cons_zero, List.set_cons_succ]
        refine inO_take 6 ⟨_, _, _, _, _, _⟩ (.bool false) rfl (by kernel_rfl) (by kernel_rfl) (by kernel_rfl) (fun _ _ _ h => h) rfl (fun ww => by go_simp) ?_
        simp only [Act.put, List.setIfInBounds_toArray, List.set_cons_zero, List.set_cons_succ]
        refine inO_take 7 ⟨_, _, _, _, _, _⟩ (.bool false) rfl (by kernel_rfl) (by kernel_rfl) (by kernel_rfl) (fun _ _ _ h => h) rfl (fun ww => by go_simp) ?_
        simp only [Act.put, List.setIfInBounds_toArray, List.set_cons_zero, List.set_cons_succ]
        refine inO_take 8 ⟨_, _, _, _, _, _⟩ (.bool false) rfl (by kernel_rfl) (by kernel_rfl) (by kernel_rfl) (fun _ _ _ h => h) rfl (fun ww => exec_move (by rfl) (by rfl) ww) ?_
        simp only [Act.put, List.setIfInBounds_toArray, List.set_cons_zero, List.set_cons_succ]
        refine inO_take 9 ⟨_, _, _, _, _, _⟩ (.pointer (some ⟨d, 0, none⟩)) rfl (by kernel_rfl) (by kernel_rfl) (by kernel_rfl) (fun _ _ _ h => h) rfl (fun ww => exec_move (by rfl) (by rfl) ww) ?_
        simp only [Act.put, List.setIfInBounds_toArray, List.set_cons_zero, List.set_cons_succ]
        refine inO_take 11 ⟨_, _, _, _, _, _⟩ (.pointer (some ⟨wn.heap.size, 1, none⟩)) rfl (by kernel_rfl) (by kernel_rfl) (by kernel_rfl) (fun _ _ _ h => h) rfl (fun ww => by go_simp) ?_
        simp only [Act.put, List.setIfInBounds_toArray, List.set_cons_zero, List.set_cons_succ]
        refine inO_load 12 ⟨_, _, _, _, _, _⟩ (.slice po m'.pending.length pc) (fun w' => w'.cell? ⟨wn.heap.size, 1, none⟩ = some (.slice po m'.pending.length pc)) rfl (by kernel_rfl) (by kernel_rfl) (by kernel_rfl) (fun _ _ _ h => h) rfl (.tail _ (.tail _ (.head _))) (fun ww hw => by go_simp) ?_
        simp only [Act.put, List.setIfInBounds_toArray, List.set_cons_zero, List.set_cons_succ]
        refine inO_take 13 ⟨_, _, _, _, _, _⟩ (.int .i64 (m'.pending.length : Int)) rfl (by kernel_rfl) (by kernel_rfl) (by kernel_rfl) (fun _ _ _ h => h) rfl (fun ww => by go_simp) ?_
        simp only [Act.put, List.setIfInBounds_toArray, List.set_cons_zero, List.set_cons_succ]
        refine inO_step 10 ⟨_, _, _, _, _, _⟩ rfl (by kernel_rfl) rfl (fun K hK => ?_)
        refine wp_call Try.func25 (by kernel_rfl) rfl _ _ rfl _ rfl _ (o_Pending hD4.out) fun e wC h => ?_
        obtain ⟨rfl, rfl⟩ := h
        refine ⟨_, rfl, ?_⟩
        refine hK _ _ (Keeps.cons (fun hh => hh) (Keeps.cons (fun hh => hh) (Keeps.cons (fun hh => hh) (Keeps.cons (fun hh => hh) (Keeps.cons (fun hh => hh) (Keeps.cons (fun hh => hh) (Keeps.nil _ _ _))))))) ?_
        clear hK K
        simp only [Act.put, List.setIfInBounds_toArray, List.set_cons_zero, List.set_cons_succ]
        refine inO_take 14 ⟨_, _, _, _, _, _⟩ (.bool false) rfl (by kernel_rfl) (by kernel_rfl) (by kernel_rfl) (fun _ _ _ h => h) rfl (fun ww => by go_simp) ?_
        simp only [Act.put, List.setIfInBounds_toArray, List.set_cons_zero, List.set_cons_succ]
        refine inO_take 15 ⟨_, _, _, _, _, _⟩ (.bool false) rfl (by kernel_rfl) (by kernel_rfl) (by kernel_rfl) (fun _ _ _ h => h) rfl (fun ww => by go_simp) ?_
        simp only [Act.put, List.setIfInBounds_toArray, List.set_cons_zero, List.set_cons_succ]
        refine inO_take 16 ⟨_, _, _, _, _, _⟩ (.bool false) rfl (by kernel_rfl) (by kernel_rfl) (by kernel_rfl) (fun _ _ _ h => h) rfl (fun ww => exec_move (by rfl) (by rfl) ww) ?_
        simp only [Act.put, List.setIfInBounds_toArray, List.set_cons_zero, List.set_cons_succ]
        refine inO_take 17 ⟨_, _, _, _, _, _⟩ (.pointer (some ⟨d, 0, none⟩)) rfl (by kernel_rfl) (by kernel_rfl) (by kernel_rfl) (fun _ _ _ h => h) rfl (fun ww => exec_move (by rfl) (by rfl) ww) ?_
        simp only [Act.put, List.setIfInBounds_toArray, List.set_cons_zero, List.set_cons_succ]
        refine inO_take 19 ⟨_, _, _, _, _, _⟩ (.pointer (some ⟨wn.heap.size, 2, none⟩)) rfl (by kernel_rfl) (by kernel_rfl) (by kernel_rfl) (fun _ _ _ h => h) rfl (fun ww => by go_simp) ?_
        simp only [Act.put, List.setIfInBounds_toArray, List.set_cons_zero, List.set_cons_succ]
        refine inO_load 20 ⟨_, _, _, _, _, _⟩ (.int .i64 (m'.ops : Int)) (fun w' => w'.cell? ⟨wn.heap.size, 2, none⟩ = some (.int .i64 (m'.ops : Int))) rfl (by kernel_rfl) (by kernel_rfl) (by kernel_rfl) (fun _ _ _ h => h) rfl (.tail _ (.tail _ (.tail _ (.head _)))) (fun ww hw => by go_simp) ?_
        simp only [Act.put, List.setIfInBounds_toArray, List.set_cons_zero, List.set_cons_succ]
        refine inO_step 18 ⟨_, _, _, _, _, _⟩ rfl (by kernel_rfl) rfl (fun K hK => ?_)
        refine wp_call Try.func26 (by kernel_rfl) rfl _ _ rfl _ rfl _ (o_Ops hD4.out) fun e wC h => ?_
        obtain ⟨rfl, rfl⟩ := h
        refine ⟨_, rfl, ?_⟩
        refine hK _ _ (Keeps.cons (fun hh => hh) (Keeps.cons (fun hh => hh) (Keeps.cons (fun hh => hh) (Keeps.cons (fun hh => hh) (Keeps.cons (fun hh => hh) (Keeps.cons (fun hh => hh) (Keeps.nil _ _ _))))))) ?_
        clear hK K
        simp only [Act.put, List.setIfInBounds_toArray, List.set_cons_zero, List.set_cons_succ]
        refine inO_take 21 ⟨_, _, _, _, _, _⟩ (.bool false) rfl (by kernel_rfl) (by kernel_rfl) (by kernel_rfl) (fun _ _ _ h => h) rfl (fun ww => by go_simp) ?_
        simp only [Act.put, List.setIfInBounds_toArray, List.set_cons_zero, List.set_cons_succ]
        refine inO_take 22 ⟨_, _, _, _, _, _⟩ (.bool false) rfl (by kernel_rfl) (by kernel_rfl) (by kernel_rfl) (fun _ _ _ h => h) rfl (fun ww => by go_simp) ?_
        simp only [Act.put, List.setIfInBounds_toArray, List.set_cons_zero, List.set_cons_succ]
        refine inO_take 23 ⟨_, _, _, _, _, _⟩ (.bool false) rfl (by kernel_rfl) (by kernel_rfl) (by kernel_rfl) (fun _ _ _ h => h) rfl (fun ww => exec_move (by rfl) (by rfl) ww) ?_
        simp only [Act.put, List.setIfInBounds_toArray, List.set_cons_zero, List.set_cons_succ]
        refine inO_take 24 ⟨_, _, _, _, _, _⟩ (.pointer (some ⟨d, 0, none⟩)) rfl (by kernel_rfl) (by kernel_rfl) (by kernel_rfl) (fun _ _ _ h => h) rfl (fun ww => exec_move (by rfl) (by rfl) ww) ?_
        simp only [Act.put, List.setIfInBounds_toArray, List.set_cons_zero, List.set_cons_succ]
        refine inO_take 26 ⟨_, _, _, _, _, _⟩ (.pointer (some ⟨wn.heap.size, 4, none⟩)) rfl (by kernel_rfl) (by kernel_rfl) (by kernel_rfl) (fun _ _ _ h => h) rfl (fun ww => by go_simp) ?_
        simp only [Act.put, List.setIfInBounds_toArray, List.set_cons_zero, List.set_cons_succ]
        refine inO_load 27 ⟨_, _, _, _, _, _⟩ (.bool m'.dead) (fun w' => w'.cell? ⟨wn.heap.size, 4, none⟩ = some (.bool m'.dead)) rfl (by kernel_rfl) (by kernel_rfl) (by kernel_rfl) (fun _ _ _ h => h) rfl (.tail _ (.tail _ (.tail _ (.tail _ (.head _))))) (fun ww hw => by go_simp) ?_
        simp only [Act.put, List.setIfInBounds_toArray, List.set_cons_zero, List.set_cons_succ]
        refine inO_step 25 ⟨_, _, _, _, _, _⟩ rfl (by kernel_rfl) rfl (fun K hK => ?_)
        refine wp_call Try.func27 (by kernel_rfl) rfl _ _ rfl _ rfl _ (o_Dead hD4.out) fun e wC h => ?_
        obtain ⟨rfl, rfl⟩ := h
        refine ⟨_, rfl, ?_⟩
        refine hK _ _ (Keeps.cons (fun hh => hh) (Keeps.cons (fun hh => hh) (Keeps.cons (fun hh => hh) (Keeps.cons (fun hh => hh) (Keeps.cons (fun hh => hh) (Keeps.cons (fun hh => hh) (Keeps.nil _ _ _))))))) ?_
        clear hK K
        simp only [Act.put, List.setIfInBounds_toArray, List.set_cons_zero, List.set_cons_succ]
        refine inO_take 28 ⟨_, _, _, _, _, _⟩ (.bool false) rfl (by kernel_rfl) (by kernel_rfl) (by kernel_rfl) (fun _ _ _ h => h) rfl (fun ww => by go_simp) ?_
        simp only [Act.put, List.setIfInBounds_toArray, List.set_cons_zero, List.set_cons_succ]
        refine inO_take 29 ⟨_, _, _, _, _, _⟩ (.bool false) rfl (by kernel_rfl) (by kernel_rfl) (by kernel_rfl) (fun _ _ _ h => h) rfl (fun ww => by go_simp) ?_
        simp only [Act.put, List.setIfInBounds_toArray, List.set_cons_zero, List.set_cons_succ]
        refine inO_take 30 ⟨_, _, _, _, _, _⟩ (.bool false) rfl (by kernel_rfl) (by kernel_rfl) (by kernel_rfl) (fun _ _ _ h => h) rfl (fun ww => exec_move (by rfl) (by rfl) ww) ?_
        simp only [Act.put, List.setIfInBounds_toArray, List.set_cons_zero, List.set_cons_succ]
        refine inO_take 31 ⟨_, _, _, _, _, _⟩ (.pointer (some ⟨d, 0, none⟩)) rfl (by kernel_rfl) (by kernel_rfl) (by kernel_rfl) (fun _ _ _ h => h) rfl (fun ww => exec_move (by rfl) (by rfl) ww) ?_
        simp only [Act.put, List.setIfInBounds_toArray, List.set_cons_zero, List.set_cons_succ]
        refine inO_take 33 ⟨_, _, _, _, _, _⟩ (.pointer (some ⟨wn.heap.size, 0, none⟩)) rfl (by kernel_rfl) (by kernel_rfl) (by kernel_rfl) (fun _ _ _ h => h) rfl (fun ww => by go_simp) ?_
        simp only [Act.put, List.setIfInBounds_toArray, List.set_cons_zero, List.set_cons_succ]
        refine inO_load 34 ⟨_, _, _, _, _, _⟩ (.slice so m'.stable.length sc) (fun w' => w'.cell? ⟨wn.heap.size, 0, none⟩ = some (.slice so m'.stable.length sc)) rfl (by kernel_rfl) (by kernel_rfl) (by kernel_rfl) (fun _ _ _ h => h) rfl (.tail _ (.tail _ (.tail _ (.tail _ (.tail _ (.head _)))))) (fun ww hw => by go_simp) ?_
        simp only [Act.put, List.setIfInBounds_toArray, List.set_cons_zero, List.set_cons_succ]
        refine inO_take 35 ⟨_, _, _, _, _, _⟩ (.int .i64 (m'.stable.length : Int)) rfl (by kernel_rfl) (by kernel_rfl) (by kernel_rfl) (fun _ _ _ h => h) rfl (fun ww => by go_simp) ?_
        simp only [Act.put, List.setIfInBounds_toArray, List.set_cons_zero, List.set_cons_succ]
        refine inO_step 32 ⟨_, _, _, _, _, _⟩ rfl (by kernel_rfl) rfl (fun K hK => ?_)
        refine wp_call Try.func11 (by kernel_rfl) rfl _ _ rfl _ rfl _ (o_Len hD4.out) fun e wC h => ?_
        obtain ⟨rfl, rfl⟩ := h
        refine ⟨_, rfl, ?_⟩
        refine hK _ _ (Keeps.cons (fun hh => hh) (Keeps.cons (fun hh => hh) (Keeps.cons (fun hh => hh) (Keeps.cons (fun hh => hh) (Keeps.cons (fun hh => hh) (Keeps.cons (fun hh => hh) (Keeps.nil _ _ _))))))) ?_
        clear hK K
        simp only [Act.put, List.setIfInBounds_toArray, List.set_cons_zero, List.set_cons_succ]
        refine inO_take 36 ⟨_, _, _, _, _, _⟩ (.bool false) rfl (by kernel_rfl) (by kernel_rfl) (by kernel_rfl) (fun _ _ _ h => h) rfl (fun ww => by go_simp) ?_
        simp only [Act.put, List.setIfInBounds_toArray, List.set_cons_zero, List.set_cons_succ]
        refine inO_take 37 ⟨_, _, _, _, _, _⟩ (.bool false) rfl (by kernel_rfl) (by kernel_rfl) (by kernel_rfl) (fun _ _ _ h => h) rfl (fun ww => by go_simp) ?_
        simp only [Act.put, List.setIfInBounds_toArray, List.set_cons_zero, List.set_cons_succ]
        refine inO_done (by kernel_rfl) ?_
        go_wp2
        go_roundw
        case rel => exact ⟨k + 1, F', m', V', X', by omega, by go_num, Lib.hid hR4.out.drew, hI4, Lib.hid q4.out.drew⟩
        case measure => simp [intOf] <;> omega
    · obtain rfl : k = n := by omega
      have hm : Hid m.Fits := Lib.hid hR.out.dev.fits
      have hml : m.stable.length ≤ 1024 := hm.out.len
      go_wp2_with fail
      go_loopw [13] (fun i wq => ∃ z : Int, -1 ≤ z ∧ z ≤ 40 ∧ i = .int .i64 z ∧ Hid (Runs w.heap.size wq d F m m wn.heap.size V X) ∧ Hid (Below w.heap.size w wq))
        (fun i _ => (41 - intOf i).toNat)
      case atStart => exact ⟨-1, by omega, by omega, rfl, hR, hb⟩
      case round =>
        clear hR hb
        obtain ⟨z, hz1, hz2, rfl, hR6, q6⟩ := hrel
        obtain ⟨so, sc, po, pc, y0, y1, y2, y4⟩ := hR6.out.cells
        clear y1 y2 y4
        have hs6 := q6.out.size
        have hD6 := Lib.hid hR6.out.dev.drew
        obtain ⟨s, hs⟩ : ∃ s, Hid (m.stab z = s) := ⟨_, Lib.hid rfl⟩
        by_cases hi1 : z ≤ (m.stable.length : Int)
        · by_cases hi2 : z < 40
          · go_wp2
            refine inO_region [(3, fun w' => w'.rangeAt (wn.heap.size) (0) (V))] (by kernel_rfl) (Owed.cons (range_dev hR6.out.var) (Owed.nil _ _)) ?_
            refine inO_take 0 ⟨_, _, _, _, _, _⟩ (.pointer (some ⟨d, 0, none⟩)) rfl (by kernel_rfl) (by kernel_rfl) (by kernel_rfl) (fun _ _ _ h => h) rfl (fun ww => exec_move (by rfl) (by rfl) ww) ?_
            simp only [Act.put, List.setIfInBounds_toArray, List.set_cons_zero, List.set_cons_succ]
            refine inO_take 1 ⟨_, _, _, _, _, _⟩ (.int .i64 z) rfl (by kernel_rfl) (by kernel_rfl) (by kernel_rfl) (fun _ _ _ h => h) rfl (fun ww => exec_move (by rfl) (by rfl) ww) ?_
            simp only [Act.put, List.setIfInBounds_toArray, List.set_cons_zero, List.set_cons_succ]
            refine inO_load 3 ⟨_, _, _, _, _, _⟩ (.agg (V).toArray) (fun w' => w'.rangeAt (wn.heap.size) (0) (V)) rfl (by kernel_rfl) (by kernel_rfl) (by kernel_rfl) (fun _ _ _ h => h) rfl (.head _) (fun ww hw => exec_load_mid _ _ (by rfl) _ _ (by rfl) _ _ hw Try.underlying30 rfl hR6.out.ref.info) ?_
            simp only [Act.put, List.setIfInBounds_toArray, List.set_cons_zero, List.set_cons_succ]
            refine inO_take 4 ⟨_, _, _, _, _, _⟩ (.int .i64 z) rfl (by kernel_rfl) (by kernel_rfl) (by kernel_rfl) (fun _ _ _ h => h) rfl (fun ww => exec_move (by rfl) (by rfl) ww) ?_
            simp only [Act.put, List.setIfInBounds_toArray, List.set_cons_zero, List.set_cons_succ]
            refine inO_step 2 ⟨_, _, _, _, _, _⟩ rfl (by kernel_rfl) rfl (fun K hK => ?_)
            refine wp_call Try.func28 (by kernel_rfl) rfl _ _ rfl _ rfl _ (o_Stable hD6.out z (by unfold I64; omega)) fun e wA h => ?_
            obtain ⟨rfl, bA⟩ := h
            have hRA := Lib.hid (hR6.out.drew.below bA)
            rw [hs.out]
            refine ⟨_, rfl, ?_⟩
            refine hK _ _ (Keeps.cons (fun hh => range_below hh bA) (Keeps.nil _ _ _)) ?_
            clear hK K
            simp only [Act.put, List.setIfInBounds_toArray, List.set_cons_zero, List.set_cons_succ]
            refine inO_step 5 ⟨_, _, _, _, _, _⟩ rfl (by kernel_rfl) rfl (fun K hK => ?_)
            refine wp_call Try.func29 (by kernel_rfl) rfl _ _ rfl _ rfl _ (r_At hRA.out.ref hm.out z (by unfold I64; omega)) fun e wB h => ?_
            obtain ⟨rfl, bB⟩ := h
            have hRB := Lib.hid (hRA.out.below bB)
            rw [hs.out]
            refine ⟨_, rfl, ?_⟩
            refine hK _ _ (Keeps.late (by kernel_rfl) (Keeps.nil _ _ _)) ?_
            clear hK K
            simp only [Act.put, List.setIfInBounds_toArray, List.set_cons_zero, List.set_cons_succ]
            refine inO_take 6 ⟨_, _, _, _, _, _⟩ (.bool false) rfl (by kernel_rfl) (by kernel_rfl) (by kernel_rfl) (fun _ _ _ h => h) rfl (fun ww => by go_simp) ?_
            simp only [Act.put, List.setIfInBounds_toArray, List.set_cons_zero, List.set_cons_succ]
            refine inO_done (by kernel_rfl) ?_
            go_wp2
            go_roundw
            case rel => exact ⟨z + 1, by omega, by omega, by go_num, hRB, Lib.hid ((q6.out.trans ((below_of_drew bA).mono hs6)).trans (bB.mono (Nat.le_trans hs6 bA.size)))⟩
            case measure => simp [intOf] <;> omega
          · go_wp2
            go_ret
            exact ⟨rfl, q6.out⟩
        · go_wp2
          go_ret
          exact ⟨rfl, q6.out⟩

set_option maxRecDepth 100000 in
set_option maxHeartbeats 2000000 in
theorem way_no (sec : Int) (hsec : I64 sec) (ao : Option Addr) (n cap : Nat) (w : World) (h : 200 < n) :
    Calls Try.prog 4 #[.int .i64 sec, .slice ao n cap] w fun e w' => e = .returned (.bool true) ∧ Below w.heap.size w w' := by
  go_enter Try.func4, Try.ntmps4
  go_wp2_with fail
  refine (alive_any w).mono ?_
  rintro e wa ⟨rfl, ba⟩
  have ba := Lib.hid ba
  go_wp2_with fail
  refine (New_any sec hsec wa).mono ?_
  rintro e wb ⟨d, F0, rfl, hd0, lo0, bb⟩
  have q0 := Lib.hid (ba.out.trans (bb.mono ba.out.size))
  have hd0 := Lib.hid hd0
  clear bb lo0
  go_wp2_with fail
  refine (r_New (X := F0) sec hsec wb hd0.out.lt).mono ?_
  rintro e wn ⟨V0, rfl, hr0, bc⟩
  have qc := Lib.hid (q0.out.trans (bc.mono q0.out.size))
  have hsc : w.heap.size ≤ wn.heap.size := qc.out.size
  have hr0 := Lib.hid hr0
  clear bc
  go_wp2_with (first
        | ((with_reducible refine guardList ?_)
           refine wantList_store (by rfl) 30 _ _ rfl (wn.heap.size) 0 (by rfl) V0 (by rfl) _ (devL none 0 0 none 0 0 0 0 false) V0 (Blk.new wn 30 (devL none 0 0 none 0 0 0 0 false)) (by have h1 := hr0.out.len; have h2 : (devL none 0 0 none 0 0 0 0 false).length = 5 := rfl; omega) hr0.out.one hr0.out.info (whole_new (hr0.out.len.trans (Eq.symm rfl))) ?_
           intro wd hv0 k0 z0
           have qd := Lib.hid (Kept.out (qc.out.alloc hsc _) k0 (fun i _ e => by omega) (by simp; omega))
           clear k0 z0 hv0))
  go_ret
  exact ⟨rfl, qd.out⟩

theorem walk (sec : Int) (ao : Option Addr) (as_ : List ActM) (cap : Nat) (w : World) (hi : I64 sec) (hacts : Acts w ao as_) (hl : as_.length ≤ 140737488351232) (hnil : ao = none → cap = 0) :
    Calls Try.prog 4 #[.int .i64 sec, .slice ao as_.length cap] w fun e w' => e = .returned (.bool true) ∧ Below w.heap.size w w' := by
  by_cases h1 : as_.length ≤ 200
  · exact way_yes sec hi ao as_ cap _ w hacts (Lib.hid rfl) h1
  · exact way_no sec hi ao _ cap w (by omega)

theorem own : ownKnob Try.prog.godebug = none := by kernel_rfl
theorem laidOut : laidOutB Try.prog = true := by kernel_rfl

set_option maxRecDepth 100000 in
theorem lifted (os : Os) (started : os.Started) (H : Type) (enc : TypeId × Value → H) :
    ReturnsInHanded {} Try.checked os 4 .any (Rows.vdevRunsSpec.pre6 enc Try.prog Try.f4 Rows.vdevRunsRow.domain false) (Rows.vdevRunsSpec.post enc Try.prog Try.f4 false true false false) := by
  refine returnsInHanded_of_change_sized (C := Try.checked) own started (by kernel_rfl) Try.func4
    (ChangeSpec.witness6 (enc := enc) (C := Try.checked) false ⟨#[], #[.int .i64 0, .slice none 0 0], []⟩ 8 (by kernel_rfl) (by kernel_rfl) (by kernel_rfl) (by kernel_rfl)) ?_
  intro W base args ds gs before hval0 hW hcnd hsz0 _
  have hval : ∀ (j : Nat) t v, Try.f4.params[j]? = some t → args[j]? = some v → Value.okWide Try.prog W .any base t v := hval0
  have hsz : (DataW.weightsEach Try.prog (Try.f4.params.toList ++ Rows.vdevRunsSpec.plain.varTypes Try.prog) (ds ++ gs)).all (· ≤ reachBytes) = true := hsz0
  have hW' := hW
  obtain ⟨p, q, hA0, hV, rfl, hfz, hnd⟩ := hW
  have hA : DataW.TrodAll enc Try.prog W 0 (fun _ => true) true Try.f4.params.toList args.toList ds p := hA0
  rw [Try.params4] at hA hval hsz
  obtain ⟨v0, vs0, d0, ds0, p0, q0, hargs, rfl, rfl, h0, r0⟩ := trodAll_cons hA
  obtain ⟨v1, vs1, d1, ds1, p1, q1, rfl, rfl, rfl, h1, r1⟩ := trodAll_cons r0
  obtain ⟨rfl, rfl, rfl⟩ := trodAll_nil r1
  obtain rfl : args = #[v0, v1] := by cases args; simp_all
  obtain ⟨rfl, rfl⟩ := trodVars_none hV
  obtain ⟨a0, rfl, rfl, rfl, wf0⟩ := open_int Try.underlying3 (hval 0 3 v0 rfl rfl) h0
  have k1 := h1
  have lt1 : ∀ x ∈ p1, x.block < W.heap.size := by obtain ⟨m, hm⟩ := k1; exact DataW.trod_lt m _ _ _ hm
  obtain ⟨ao1, a1, cap1, rfl, sp1, fi1, nl1⟩ := arg_acts h1 (hval 1 26 v1 rfl rfl) (light_arg hsz (j := 1) (t := 26) rfl rfl)
  clear hA0 hval0 hsz0
  refine (walk a0 ao1 a1 cap1 W (wf_i64 wf0) sp1 fi1 nl1).mono fun e W' ⟨he, bel⟩ => ?_
  subst he
  exact ⟨_, rfl, _, _, _, [], _, [], hW', trodAll_mk1 (shut_bool Try.underlying4 _), (trodAll_cons_mk (shut_int Try.underlying3 wf0) (trodAll_cons_mk (Below.trod laidOut (by kernel_rfl) (of_decide_eq_true (by kernel_rfl)) k1 bel lt1) trodAll_mk0)), rfl, bel.frame _, fun h => by cases h⟩

theorem proved : Rows.VdevRunsSaid :=
  OpenClaim.holds_of_wide 4 Try.f4 rfl rfl rfl rfl rfl rfl rfl ⟨rfl, rfl, rfl, rfl, rfl⟩ rfl rfl rfl rfl rfl (by kernel_rfl) Try.func4 (by kernel_rfl)
    (of_decide_eq_true (by kernel_rfl)) (by unfold Func.isWrapper; first | (rw [if_pos (by decide +kernel)]; kernel_rfl) | (rw [if_neg (by decide +kernel)]; exact ⟨rfl, rfl⟩))
    (fun os started H enc _ => lifted os started H enc)
end Go.Proofs.Ytfpacnokecfhmaa.lawVdevRuns
