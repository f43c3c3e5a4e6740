/- UberTurns, for every input: the law returns true and each argument reads behind the call as before. No condition. -/
import Derived.Test.YtfblehdeoloijaaGUberC
namespace Go.Proofs.Ytfblehdeoloijaa.lawUberTurns
open Go.ChangeShapes Go.WideShapes Go.ChangeAt Go.RowKit Go.Deep
set_option linter.unusedVariables false
set_option maxRecDepth 20000

theorem atDst (dst : Option Nat) {P : Program} {ops : Array Oper} {rest : List Oper} {o : Oper} {a : Act} {w : World} {Q : Exit → Act → World → Prop} (hd : o.dst = dst) (h : wpList P ops Q (o :: rest) a w) : wpList P ops Q (o :: rest) a w := h

theorem commit_pending' (m : DevM) (hm : m.pending = []) (u : U5) : (m.commit u).1.pending.length ≤ 1000000000 := by
  have h0 : m.pending.length = 0 := by rw [hm]; rfl
  have a1 := flush_pending m
  have a2 := write_pending m.flush.1 ((u.x % 4 : Nat) : Int) u.sec
  have a3 := flush_pending (m.flush.1.write ((u.x % 4 : Nat) : Int) u.sec).1
  unfold DevM.commit
  split
  · split
    · split
      · omega
      · omega
    · omega
  · show m.pending.length ≤ _
    omega

set_option maxRecDepth 100000 in
set_option maxHeartbeats 8000000 in
theorem way_yes (ao : Option Addr) (as_ : List AcM) (cap n : Nat) (w : World) (hacts : Acs w ao as_) (hn : Hid (as_.length = n)) (hn2 : n ≤ 40) :
    Calls Try.prog 6 #[.slice ao n cap] w fun e w' => e = .returned (.bool true) ∧ Below w.heap.size w w' := by
  obtain ⟨ib, hib, hzb, hzb1, hzb2⟩ := info_parts infoBool
  have hza := zeroAc
  have hacts := Lib.hid hacts
  have hcom : Hid (∀ (W : World) (d : Nat) (F : Nat → Prop), IsDev W d F (DevM.fresh 8) → Calls Try.prog 21 #[.pointer (some ⟨d, 0, none⟩), .agg #[.int .u64 5, .int .u64 1, .int .i64 9, .int .u64 1, .int .u32 0, .int .i64 1, .int .i64 64]] W fun e w' => e = .returned (.int .i64 0) ∧ Turned W d F ((DevM.fresh 8).commit (smallU 5)).1 w') := Lib.hid (fun W d F h => by
    have := oCommit h (by show (0 : Nat) ≤ _; omega) (smallU 5) (smallU_fit 5 (by decide))
    rw [(commit_lasts (fresh_calm 8) (by decide) rfl (smallU_right 5 (by decide))).2.2.1] at this
    exact this)
  have hsm : Hid (∀ W, Calls Try.prog 30 #[.int .u64 5] W fun e w' => e = .returned (.agg #[.int .u64 5, .int .u64 1, .int .i64 9, .int .u64 1, .int .u32 0, .int .i64 1, .int .i64 64]) ∧ Below W.heap.size W w') := Lib.hid (fun W => small_any 5 W (by decide))
  have hc0 := commit_lasts (fresh_calm 8) (by decide) rfl (smallU_right 5 (by decide))
  have hb0 : ((DevM.fresh 8).commit (smallU 5)).1.best = some (smallU 5) := best_set (fresh_calm 8) hc0.1 (by decide) (smallU_fit 5 (by decide)) (smallU_right 5 (by decide)) hc0.2.2.2 (fun v hv => by rw [fresh_list] at hv; cases hv)
  generalize ((DevM.fresh 8).commit (smallU 5)).1 = m0 at *
  have hc0 := Lib.hid hc0
  have hb0 := Lib.hid hb0
  go_enter Try.func6, Try.ntmps6
  go_wp2_with fail
  refine (uberAlive_any w).mono ?_
  rintro e wa ⟨rfl, ba⟩
  have ba := Lib.hid ba
  go_wp2_with fail
  refine (New_D0 8 (by unfold I64; omega) wa).mono ?_
  rintro e wb ⟨d, F0, rfl, hd0⟩
  have hd0 : Hid (D0 w wb d F0 (DevM.fresh 8)) := Lib.hid (hd0.later ba.out)
  go_wp2_with fail
  refine (hsm.out _).mono ?_
  rintro e wc ⟨rfl, bc⟩
  have hT1 : Hid (TS w (wc.alloc (.cells #[.int .u64 5, .int .u64 1, .int .i64 9, .int .u64 1, .int .u32 0, .int .i64 1, .int .i64 64] 27)) d F0 (DevM.fresh 8) [(wc.heap.size, 27, u5L (smallU 5))]) := Lib.hid ((TS.start (hd0.out.below bc)).new 27 (u5L (smallU 5)))
  clear bc
  go_wp2_with fail
  refine (hcom.out _ _ _ hT1.out.obj.dev).mono ?_
  rintro e wd ⟨rfl, T⟩
  obtain ⟨F1, hT0⟩ := hT1.out.turn T
  have hT0 := Lib.hid hT0
  have q0 := Lib.hid hT0.out.obj.q
  clear T hT1
  go_wp2
  go_loopw [24] (fun i wr => ∃ (k : Nat) (F : Nat → Prop) (m : DevM) (now : U5), k ≤ n ∧ i = .int .i64 k ∧ Hid (TS w wr d F m [(wc.heap.size, 27, u5L now)]) ∧ Hid (Calm m 8) ∧ Hid (now.Fit ∧ now.rightB = true ∧ m.best = some now) ∧ Hid (m.left = -1))
    (fun i _ => n - (intOf i).toNat)
  case atStart => exact ⟨0, F1, m0, smallU 5, by omega, rfl, hT0, Lib.hid hc0.out.1, Lib.hid ⟨smallU_fit 5 (by decide), smallU_right 5 (by decide), hb0.out⟩, Lib.hid hc0.out.2.1⟩
  case round =>
    clear hT0 q0
    obtain ⟨k, F, m, now, hk, rfl, hT, hc, hbest, hlf⟩ := hrel
    by_cases hlt : k < n
    · obtain ⟨b, off, rfl, hbb, hr⟩ := (hacts.out.below hT.out.obj.q).range (k := k) (by rw [hn.out]; exact hlt)
      have hok : AcOk w (as_[k]'(by rw [hn.out]; exact hlt)) := hacts.out.each _ (List.getElem_mem _)
      obtain ⟨a, ha⟩ : ∃ a : AcM, Hid (a = as_[k]'(by rw [hn.out]; exact hlt)) := ⟨_, Lib.hid rfl⟩
      rw [← ha.out] at hr hok
      clear ha
      have hr := Lib.hid hr
      have hok := Lib.hid hok
      obtain ⟨hfn, hrn, hbn⟩ := hbest.out
      obtain ⟨x1', x2', _⟩ := right_parts hrn
      have hfn := Lib.hid hfn
      have hrn := Lib.hid hrn
      have hbn := Lib.hid hbn
      obtain ⟨U, hU⟩ : ∃ U : U5, Hid (U = ⟨now.x + 1, a.u.y, a.u.p, a.u.l, a.u.n⟩) := ⟨_, Lib.hid rfl⟩
      have hfU : Hid U.Fit := Lib.hid (by
        have h := hok.out.fit
        rw [hU.out]
        exact ⟨by show now.x + 1 < 18446744073709551616; omega, h.2⟩)
      have hl4 : wc.heap.size < wr.heap.size := (hT.out.blk _ (.head _)).lt
      go_wp2_with (first
        | ((with_reducible refine guardList ?_); refine wantList_load (by rfl) 51 _ rfl b (off + k * 9) (by rfl) (acL a) _ (hr.out) Try.underlying51 rfl (infoAcL _) ?_)
        | ((with_reducible refine guardList ?_)
           refine wantList_store (by rfl) 51 _ _ rfl wr.heap.size 0 (by rfl) (acL a) (by rfl) _ (acL ac0) (acL a) (Blk.new wr 51 (acL ac0)) (Nat.le_of_eq rfl) (acL_one _) (infoAcL _) rfl ?_
           intro w1 b1 k1 z1
           have hT1 := Lib.hid ((hT.out.new 51 (acL ac0)).set (fun x hx e => by simp only [List.mem_singleton] at hx; subst hx; dsimp only at e; omega) k1 b1)
           have hl6 : wr.heap.size < w1.heap.size := (hT1.out.blk _ (.head _)).lt
           clear b1 k1 z1)
        | ((with_reducible refine guardList ?_); refine wantList_load (by rfl) 27 _ rfl wr.heap.size 0 (by rfl) (u5L a.u) _ (ac_r0 (hT1.out.alloc _ |>.blk _ (.head _))) Try.underlying27 rfl (infoUberL _) ?_)
        | ((with_reducible refine guardList ?_); refine wantList_load (by rfl) 27 _ rfl wr.heap.size 0 (by rfl) (u5L a.u) _ (ac_r0 (hT1.out.blk _ (.head _))) Try.underlying27 rfl (infoUberL _) ?_)
        | ((with_reducible refine guardList ?_)
           refine wantList_store (by rfl) 27 _ _ rfl w1.heap.size 0 (by rfl) (u5L a.u) (by rfl) _ (u5L u5z) (u5L a.u) (Blk.new w1 27 (u5L u5z)) (Nat.le_of_eq rfl) (u5L_one _) (infoUberL _) rfl ?_
           intro w2 b2 k2 z2
           have hT2 := Lib.hid ((hT1.out.new 27 (u5L u5z)).set (fun x hx e => by simp only [List.mem_cons, List.not_mem_nil, or_false] at hx; rcases hx with rfl | rfl <;> dsimp only at e <;> omega) k2 b2)
           have d0 : w2.cell? ⟨w1.heap.size, 0, none⟩ = some (.int .u64 (a.u.x : Int)) := (hT2.out.blk _ (.head _)).cell 0
           have f0 : w2.frozen? ⟨w1.heap.size, 0, none⟩ = false := (hT2.out.blk _ (.head _)).frozen 0
           have n0 : w2.cell? ⟨wc.heap.size, 0, none⟩ = some (.int .u64 (now.x : Int)) := (hT2.out.blk _ (.tail _ (.tail _ (.head _)))).cell 0
           have hT3 : Hid (TS w (w2.setCell ⟨w1.heap.size, 0, none⟩ (.int .u64 ((now.x : Int) + 1))) d F m [(w1.heap.size, 27, u5L U), (wr.heap.size, 51, acL a), (wc.heap.size, 27, u5L now)]) := Lib.hid (by have h3 := hT2.out.set (cs' := u5L U) (fun x hx e => by simp only [List.mem_cons, List.not_mem_nil, or_false] at hx; rcases hx with rfl | rfl <;> dsimp only at e <;> omega) (Kept.cellAt w2 _ 0 (.int .u64 ((now.x : Int) + 1))) (by rw [hU.out]; exact (hT2.out.blk _ (.head _)).set 0 _); exact h3)
           clear b2 k2 z2)
        | ((with_reducible refine guardList ?_); refine wantList_load (by rfl) 27 _ rfl w1.heap.size 0 (by rfl) (u5L U) _ (range_blk (hT3.out.blk _ (.head _))) Try.underlying27 rfl (infoUberL _) ?_))
      refine (uRight_L U _ hfU.out).mono ?_
      rintro e w4 ⟨rfl, b4⟩
      have hT4 := Lib.hid (hT3.out.below b4)
      clear b4 d0 f0 n0
      cases hRU : U.rightB with
      | false =>
        go_wp2
        go_roundw
        case rel => exact ⟨k + 1, F, m, now, by omega, by go_num, Lib.hid (hT4.out.sub (fun x hx => by simp only [List.mem_singleton] at hx; subst hx; exact .tail _ (.tail _ (.head _)))), hc, hbest, hlf⟩
        case measure => simp [intOf] <;> omega
      | true =>
        have hRU := Lib.hid hRU
        have k7 := ac_c7 (hT4.out.blk _ (.tail _ (.head _)))
        dsimp only at k7
        have hl4' : wr.heap.size < w4.heap.size := (hT4.out.blk _ (.tail _ (.head _))).lt
        go_wp2_with fail
        refine (o_Break hT4.out.obj.dev a.brk hok.out.brk).mono ?_
        rintro e w5 ⟨rfl, T⟩
        obtain ⟨F5, hT5⟩ := hT4.out.turn T
        have hT5 := Lib.hid hT5
        clear T k7 hl4'
        have hpl : (m.brk a.brk).pending.length ≤ 900000000 := by rw [show (m.brk a.brk).pending = [] from hc.out.pend]; show (0 : Nat) ≤ _; omega
        have hpl := Lib.hid hpl
        go_wp2_with (first
          | ((with_reducible refine guardList ?_); refine wantList_load (by rfl) 27 _ rfl w1.heap.size 0 (by rfl) (u5L U) _ (range_blk (hT5.out.blk _ (.head _))) Try.underlying27 rfl (infoUberL _) ?_))
        refine (oCommit_L hT5.out.obj.dev hpl.out U hfU.out).mono ?_
        have htb := turn_best hc.out hbn.out hfU.out hRU.out (by rw [hU.out]; show now.x < now.x + 1; omega) a.brk a.keep
        have hcp : ((m.brk a.brk).commit U).1.pending.length ≤ 1000000000 := commit_pending' (m.brk a.brk) hc.out.pend U
        obtain ⟨mc, hmc⟩ : ∃ mc, mc = (m.brk a.brk).commit U := ⟨_, rfl⟩
        rw [← hmc] at htb hcp ⊢
        obtain ⟨m6, e6⟩ := mc
        dsimp only at htb hcp ⊢
        clear hmc
        rintro e w6 ⟨rfl, T⟩
        obtain ⟨F6, hT6⟩ := hT5.out.turn T
        have hT6 := Lib.hid hT6
        have htb := Lib.hid htb
        have hcp := Lib.hid hcp
        clear T
        have k8 := ac_c8 (hT6.out.blk _ (.tail _ (.head _)))
        dsimp only at k8
        have hl6' : wr.heap.size < w6.heap.size := (hT6.out.blk _ (.tail _ (.head _))).lt
        have kr6 := Lib.hid (hok.out.keep.below hT6.out.obj.q)
        have hkc := hok.out.cap
        have hkc1 := hkc.1
        have hkc2 := hkc.2
        clear hkc
        go_wp2_with (first
          | (at_builtin
             refine wpList_copy rfl _ _ 49 rfl 4 ib _ 1 Try.underlying49 hib hzb hzb1 hzb2 rfl w6 (by rfl) a.kao a.keep.length a.kcap (boolsV a.keep) (by rfl) hok.out.nil (boolsV_length a.keep) kr6.out (boolsV_one a.keep) (by omega) (by omega) ?_
             intro eo ec w7 hown hel hem hen hbk
             have hT7 := Lib.hid (hT6.out.below hbk)
             have hown := Lib.hid hown
             clear hbk hen hel hem))
        refine (o_Crash hT7.out.obj.dev eo ec a.keep hcp.out (by omega) hown.out.reads (fun _ a' ha hf => by
            have h1 := hown.out.lt a'.block (by rw [ha]; rfl)
            have h2 := hT6.out.obj.dev.lt _ hf
            omega)).mono ?_
        rintro e w8 ⟨rfl, T⟩
        obtain ⟨F8, hT8⟩ := hT7.out.turn T
        have hT8 := Lib.hid hT8
        clear T k8 hl6'
        obtain ⟨hc8, hb8⟩ := htb.out
        have hl8 : (m6.crash a.keep).left = -1 := rfl
        generalize m6.crash a.keep = m8 at *
        have hc8 := Lib.hid hc8
        have hl8 := Lib.hid hl8
        obtain ⟨v, hv, hvu⟩ : ∃ v : U5, m8.best = some v ∧ (v = U ∨ (v = now ∧ e6 ≠ 0)) := by
          rcases hb8 with h | ⟨h, h'⟩
          · exact ⟨U, h, .inl rfl⟩
          · exact ⟨now, h, .inr ⟨rfl, h'⟩⟩
        clear hb8 htb
        have hv := Lib.hid hv
        have hbst := Lib.hid (fun (h : IsDev w8 d F8 m8) => oBest h)
        have hB8 : Hid (Calls Try.prog 9 #[.pointer (some ⟨d, 0, none⟩)] w8 fun e w' => e = .returned (.tuple #[.agg (u5L v).toArray, .bool true]) ∧ Turned w8 d F8 (m8.ticks 4) w') := Lib.hid (by
          have := oBest hT8.out.obj.dev
          rw [hv.out] at this
          exact this)
        clear hbst
        go_wp2_with fail
        refine hB8.out.mono ?_
        rintro e w9 ⟨rfl, T⟩
        obtain ⟨F9, hT9⟩ := hT8.out.turn T
        have hT9 := Lib.hid hT9
        clear T
        have hfv : Hid (v.Fit ∧ v.rightB = true) := Lib.hid (by
          rcases hvu with rfl | ⟨rfl, _⟩
          · exact ⟨hfU.out, hRU.out⟩
          · exact ⟨hfn.out, hrn.out⟩)
        have hrel' : ∀ w', TS w w' d F9 (m8.ticks 4) [(wc.heap.size, 27, u5L v)] → (∃ (k' : Nat) (F : Nat → Prop) (m : DevM) (now : U5), k' ≤ n ∧ Value.int .i64 ((k : Int) + 1) = .int .i64 k' ∧ Hid (TS w w' d F m [(wc.heap.size, 27, u5L now)]) ∧ Hid (Calm m 8) ∧ Hid (now.Fit ∧ now.rightB = true ∧ m.best = some now) ∧ Hid (m.left = -1)) := fun w' h =>
          ⟨k + 1, F9, m8.ticks 4, v, by omega, by go_num, Lib.hid h, Lib.hid (ticks_calm hc8.out), Lib.hid ⟨hfv.out.1, hfv.out.2, by rw [ticks_best]; exact hv.out⟩, hl8⟩
        have hrel' := Lib.hid hrel'
        have hl9 : w1.heap.size < w9.heap.size := (hT9.out.blk _ (.head _)).lt
        have hvU : Hid (∀ w, (Op.equalIn 10000 27 (.agg (u5L v).toArray) (.agg (u5L U).toArray)).run Try.prog w = .ok (v.eqB U) w) := Lib.hid (fun w => eqUber_L w v U)
        have hvN : Hid (∀ w, (Op.equalIn 10000 27 (.agg (u5L v).toArray) (.agg (u5L now).toArray)).run Try.prog w = .ok (v.eqB now) w) := Lib.hid (fun w => eqUber_L w v now)
        have hne : U ≠ now := fun e => by have := congrArg U5.x e; rw [hU.out] at this; exact absurd this (by show ¬ now.x + 1 = now.x; omega)
        rcases hvu with rfl | ⟨rfl, he6⟩
        · have hq1 := hvU.out
          rw [U5.eqB_self] at hq1
          clear hvU hvN hne
          go_wp2_with (first
            | ((with_reducible refine atDst (none) (by rfl) ?_)
               refine wantList_store (by rfl) 27 _ _ rfl w9.heap.size 0 (by rfl) (u5L v) (by rfl) _ (u5L u5z) (u5L v) (Blk.new w9 27 (u5L u5z)) (Nat.le_of_eq rfl) (u5L_one _) (infoUberL _) rfl ?_
               intro w10 b10 k10 z10
               have hT10 := Lib.hid ((hT9.out.new 27 (u5L u5z)).set (fun x hx e => by simp only [List.mem_cons, List.not_mem_nil, or_false] at hx; rcases hx with rfl | rfl | rfl <;> dsimp only at e <;> omega) k10 b10)
               clear b10 k10 z10)
            | ((with_reducible (first | refine atDst (some 58) (by rfl) ?_ | refine atDst (some 71) (by rfl) ?_)); refine wantList_load (by rfl) 27 _ rfl w9.heap.size 0 (by rfl) (u5L v) _ (range_blk (hT10.out.blk _ (.head _))) Try.underlying27 rfl (infoUberL _) ?_)
            | ((with_reducible refine atDst (some 59) (by rfl) ?_); refine wantList_load (by rfl) 27 _ rfl w1.heap.size 0 (by rfl) (u5L v) _ (range_blk (hT10.out.blk _ (.tail _ (.head _)))) Try.underlying27 rfl (infoUberL _) ?_)
            | ((with_reducible refine atDst (some 99) (by rfl) ?_); refine wantList_load (by rfl) 27 _ rfl wc.heap.size 0 (by rfl) (u5L now) _ (range_blk (hT10.out.blk _ (.tail _ (.tail _ (.tail _ (.head _)))))) Try.underlying27 rfl (infoUberL _) ?_)
            | ((with_reducible refine atDst (none) (by rfl) ?_)
               refine wantList_store (by rfl) 27 _ _ rfl wc.heap.size 0 (by rfl) (u5L v) (by rfl) _ (u5L now) (u5L v) (hT10.out.blk _ (.tail _ (.tail _ (.tail _ (.head _))))) (Nat.le_of_eq rfl) (u5L_one _) (infoUberL _) rfl ?_
               intro w11 b11 k11 z11
               have hT11 := Lib.hid ((hT10.out.sub (L' := [(wc.heap.size, 27, u5L now)]) (fun x hx => by simp only [List.mem_singleton] at hx; subst hx; exact .tail _ (.tail _ (.tail _ (.head _))))).set (fun x hx => by cases hx) k11 b11)
               clear b11 k11 z11))
          go_roundw
          case rel => exact hrel'.out _ hT11.out
          case measure => simp [intOf] <;> omega
        · have hq1 := hvU.out
          have hq2 := hvN.out
          rw [U5.eqB_self] at hq2
          rw [U5.eqB_ne (Ne.symm hne)] at hq1
          have he6' : (e6 == 0) = false := by simpa using he6
          clear hvU hvN hne he6
          go_wp2_with (first
            | ((with_reducible refine atDst (none) (by rfl) ?_)
               refine wantList_store (by rfl) 27 _ _ rfl w9.heap.size 0 (by rfl) (u5L v) (by rfl) _ (u5L u5z) (u5L v) (Blk.new w9 27 (u5L u5z)) (Nat.le_of_eq rfl) (u5L_one _) (infoUberL _) rfl ?_
               intro w10 b10 k10 z10
               have hT10 := Lib.hid ((hT9.out.new 27 (u5L u5z)).set (fun x hx e => by simp only [List.mem_cons, List.not_mem_nil, or_false] at hx; rcases hx with rfl | rfl | rfl <;> dsimp only at e <;> omega) k10 b10)
               clear b10 k10 z10)
            | ((with_reducible (first | refine atDst (some 58) (by rfl) ?_ | refine atDst (some 62) (by rfl) ?_ | refine atDst (some 71) (by rfl) ?_)); refine wantList_load (by rfl) 27 _ rfl w9.heap.size 0 (by rfl) (u5L v) _ (range_blk (hT10.out.blk _ (.head _))) Try.underlying27 rfl (infoUberL _) ?_)
            | ((with_reducible refine atDst (some 59) (by rfl) ?_); refine wantList_load (by rfl) 27 _ rfl w1.heap.size 0 (by rfl) (u5L U) _ (range_blk (hT10.out.blk _ (.tail _ (.head _)))) Try.underlying27 rfl (infoUberL _) ?_)
            | ((with_reducible refine atDst (some 63) (by rfl) ?_); refine wantList_load (by rfl) 27 _ rfl wc.heap.size 0 (by rfl) (u5L v) _ (range_blk (hT10.out.blk _ (.tail _ (.tail _ (.tail _ (.head _)))))) Try.underlying27 rfl (infoUberL _) ?_)
            | ((with_reducible refine atDst (none) (by rfl) ?_)
               refine wantList_store (by rfl) 27 _ _ rfl wc.heap.size 0 (by rfl) (u5L v) (by rfl) _ (u5L v) (u5L v) (hT10.out.blk _ (.tail _ (.tail _ (.tail _ (.head _))))) (Nat.le_of_eq rfl) (u5L_one _) (infoUberL _) rfl ?_
               intro w11 b11 k11 z11
               have hT11 := Lib.hid ((hT10.out.sub (L' := [(wc.heap.size, 27, u5L v)]) (fun x hx => by simp only [List.mem_singleton] at hx; subst hx; exact .tail _ (.tail _ (.tail _ (.head _))))).set (fun x hx => by cases hx) k11 b11)
               clear b11 k11 z11))
          go_roundw
          case rel => exact hrel'.out _ hT11.out
          case measure => simp [intOf] <;> omega
    · obtain rfl : k = n := by omega
      have q := Lib.hid hT.out.obj.q
      go_wp2
      go_ret
      exact ⟨rfl, q.out⟩


set_option maxHeartbeats 4000000 in
theorem way_no (ao : Option Addr) (as_ : List AcM) (cap n : Nat) (w : World) (hn2 : 40 < n) :
    Calls Try.prog 6 #[.slice ao n cap] w fun e w' => e = .returned (.bool true) ∧ Below w.heap.size w w' := by
  go_enter Try.func6, Try.ntmps6
  go_wp2_with fail
  refine (uberAlive_any w).mono ?_
  rintro e wa ⟨rfl, ba⟩
  have ba := Lib.hid ba
  go_wp2
  go_ret
  exact ⟨rfl, ba.out⟩

theorem walk (ao : Option Addr) (as_ : List AcM) (cap : Nat) (w : World) (hacts : Acs w ao as_) (hl : as_.length ≤ 140737488351232) (hn : ao = none → cap = 0) :
    Calls Try.prog 6 #[.slice ao as_.length cap] w fun e w' => e = .returned (.bool true) ∧ Below w.heap.size w w' := by
  by_cases h : as_.length ≤ 40
  · exact way_yes ao as_ cap as_.length w hacts (Lib.hid rfl) h
  · exact way_no ao as_ cap as_.length w (by omega)

theorem own : ownKnob Try.prog.godebug = none := by kernel_rfl
theorem laidOut : laidOutB Try.prog = true := by kernel_rfl

set_option maxRecDepth 100000 in
theorem lifted (os : Os) (started : os.Started) (H : Type) (enc : TypeId × Value → H) :
    ReturnsInHanded {} Try.checked os 6 .any (Rows.uberTurnsSpec.pre6 enc Try.prog Try.f6 Rows.uberTurnsRow.domain false) (Rows.uberTurnsSpec.post enc Try.prog Try.f6 false true false false) := by
  refine returnsInHanded_of_change_sized (C := Try.checked) own started (by kernel_rfl) Try.func6
    (ChangeSpec.witness6 (enc := enc) (C := Try.checked) false ⟨#[], #[.slice none 0 0], []⟩ 8 (by kernel_rfl) (by kernel_rfl) (by kernel_rfl) (by kernel_rfl)) ?_
  intro W base args ds gs before hval0 hW hcnd hsz0 _
  have hval : ∀ (j : Nat) t v, Try.f6.params[j]? = some t → args[j]? = some v → Value.okWide Try.prog W .any base t v := hval0
  have hsz : (DataW.weightsEach Try.prog (Try.f6.params.toList ++ Rows.uberTurnsSpec.plain.varTypes Try.prog) (ds ++ gs)).all (· ≤ reachBytes) = true := hsz0
  have hW' := hW
  obtain ⟨p, q, hA0, hV, rfl, hfz, hnd⟩ := hW
  have hA : DataW.TrodAll enc Try.prog W 0 (fun _ => true) true Try.f6.params.toList args.toList ds p := hA0
  rw [Try.params6] at hA hval hsz
  obtain ⟨v0, vs0, d0, ds0, p0, q0, hargs, rfl, rfl, h0, r0⟩ := trodAll_cons hA
  obtain ⟨rfl, rfl, rfl⟩ := trodAll_nil r0
  obtain rfl : args = #[v0] := by cases args; simp_all
  obtain ⟨rfl, rfl⟩ := trodVars_none hV
  have k0 := h0
  have lt0 : ∀ x ∈ p0, x.block < W.heap.size := by obtain ⟨m, hm⟩ := k0; exact DataW.trod_lt m _ _ _ hm
  obtain ⟨ao0, a0, cap0, rfl, sp0, fi0, nl0⟩ := arg_acts6 h0 (hval 0 43 v0 rfl rfl) (light_arg hsz (j := 0) (t := 43) rfl rfl)
  clear hA0 hval0 hsz0
  refine (walk ao0 a0 cap0 W sp0 fi0 nl0).mono fun e W' ⟨he, bel⟩ => ?_
  subst he
  exact ⟨_, rfl, _, _, _, [], _, [], hW', trodAll_mk1 (shut_bool Try.underlying4 _), (trodAll_cons_mk (Below.trod laidOut (by kernel_rfl) (of_decide_eq_true (by kernel_rfl)) k0 bel lt0) trodAll_mk0), rfl, bel.frame _, fun h => by cases h⟩

theorem proved : Rows.UberTurnsSaid :=
  OpenClaim.holds_of_wide 6 Try.f6 rfl rfl rfl rfl rfl rfl rfl ⟨rfl, rfl, rfl, rfl, rfl⟩ rfl rfl rfl rfl rfl (by kernel_rfl) Try.func6 (by kernel_rfl)
    (of_decide_eq_true (by kernel_rfl)) (by unfold Func.isWrapper; first | (rw [if_pos (by decide +kernel)]; kernel_rfl) | (rw [if_neg (by decide +kernel)]; exact ⟨rfl, rfl⟩))
    (fun os started H enc _ => lifted os started H enc)
end Go.Proofs.Ytfblehdeoloijaa.lawUberTurns
