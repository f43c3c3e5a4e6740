/- UberSpoils, for every input: the law returns true and each argument reads behind the call as before. No condition. -/
import Derived.Test.YtfblehdeoloijaaGUberR
namespace Go.Proofs.Ytfblehdeoloijaa.lawUberSpoils
open Go.ChangeShapes Go.WideShapes Go.ChangeAt Go.RowKit Go.Deep
set_option linter.unusedVariables false
set_option maxRecDepth 20000

theorem atDst (dst : Option Nat) {P : Program} {ops : Array Oper} {rest : List Oper} {o : Oper} {a : Act} {w : World} {Q : Exit → Act → World → Prop} (hd : o.dst = dst) (h : wpList P ops Q (o :: rest) a w) : wpList P ops Q (o :: rest) a w := h
/-- the operation is a store through this slot -/
def storeAt (o : Oper) : Option Nat := match o.op with | .store _ (.tmp t) _ => some t | _ => none
theorem atOper (t : Nat) {P : Program} {ops : Array Oper} {rest : List Oper} {o : Oper} {a : Act} {w : World} {Q : Exit → Act → World → Prop} (hd : storeAt o = some t) (h : wpList P ops Q (o :: rest) a w) : wpList P ops Q (o :: rest) a w := h
theorem infoU4 {us : List U5} (h : us.length = 4) : (Try.prog.info? 68).map (·.size) = some (rowsL u5L us).length := by
  rw [rowsL_length u5L_length, h]; kernel_rfl
theorem infoUb : ∃ i, Try.prog.info? 27 = some i ∧ i.size = 7 := by
  have := infoUber
  cases h : Try.prog.info? 27 with
  | none => rw [h] at this; cases this
  | some i => rw [h] at this; exact ⟨i, rfl, by simpa using this⟩
theorem bytes_L (u : U5) (w : World) (h : u.Fit) : Calls Try.prog 12 #[.agg (u5L u).toArray] w (SRes 61 u.secO w) := uBytes_any u w h
theorem ts_from {w0 wa wb : World} {d : Nat} {F : Nat → Prop} {m : DevM} {L : List (Nat × TypeId × List Value)} (h : D0 wa wb d F m) (ba : Below w0.heap.size w0 wa) (hL : ∀ x ∈ L, Blk wa x.1 x.2.1 x.2.2 ∧ w0.heap.size ≤ x.1) : TS w0 wb d F m L :=
  ⟨h.later ba, fun x hx => blk_out (hL x hx).1 h.q, fun x hx hf => by have := h.low _ hf; have := (hL x hx).1.lt; omega, fun x hx => (hL x hx).2⟩


set_option maxRecDepth 100000 in
set_option maxHeartbeats 8000000 in
theorem way_in (us : List U5) (j : Nat) (s : Sec) (w : World) (hl : us.length = 4) (hus : Hid (∀ u ∈ us, u.Fit)) (hj : j < 4) :
    Calls Try.prog 7 #[.agg (rowsL u5L us).toArray, .int .i64 (j : Int), .agg (secL s).toArray] w fun e w' => e = .returned (.bool true) ∧ Below w.heap.size w w' := by
  have hz := zeroSec
  obtain ⟨iu, hiu, hius⟩ := infoUb
  have hiu := Lib.hid hiu
  have hS := Lib.hid (secL_length s)
  have hU4 := Lib.hid (infoU4 hl)
  have hl := Lib.hid hl
  have hB0 : Hid (∀ x ∈ [((w.heap.size + 1), 34, secL s), (w.heap.size, 68, rowsL u5L us)], Blk ((w.alloc (.cells (rowsL u5L us).toArray 68)).alloc (.cells (secL s).toArray 34)) x.1 x.2.1 x.2.2 ∧ w.heap.size ≤ x.1) := Lib.hid (fun x hx => by
    simp only [List.mem_cons, List.not_mem_nil, or_false] at hx
    rcases hx with rfl | rfl
    · exact ⟨two_new w _ _ _, Nat.le_succ _⟩
    · exact ⟨(Blk.new w 68 (rowsL u5L us)).alloc _, Nat.le_refl _⟩)
  have q0 : Hid (Below w.heap.size w ((w.alloc (.cells (rowsL u5L us).toArray 68)).alloc (.cells (secL s).toArray 34))) := Lib.hid (two_below w _ _)
  go_enter Try.func7, Try.ntmps7
  go_wp2_with fail
  refine (uberAlive_any _).mono ?_
  rintro e wa ⟨rfl, ba⟩
  have hB1 : Hid (∀ x ∈ [((w.heap.size + 1), 34, secL s), (w.heap.size, 68, rowsL u5L us)], Blk wa x.1 x.2.1 x.2.2 ∧ w.heap.size ≤ x.1) := Lib.hid (fun x hx => ⟨blk_out (hB0.out x hx).1 ba, (hB0.out x hx).2⟩)
  have q1 := Lib.hid (q0.out.trans (ba.mono q0.out.size))
  clear ba hB0 q0
  go_wp2_with fail
  refine (New_D0 4 (by unfold I64; omega) wa).mono ?_
  rintro e wb ⟨d, F0, rfl, hd0⟩
  have hT0 := Lib.hid (ts_from hd0 q1.out hB1.out)
  clear hd0 hB1 q1
  go_wp2_with (((with_reducible refine atDst (some 33) (by rfl) ?_); refine wantList_load (by rfl) 68 _ rfl w.heap.size 0 (by rfl) (rowsL u5L us) _ (range_blk (hT0.out.blk _ (.tail _ (.head _)))) Try.underlying68 rfl hU4.out ?_))
  have hT0' : Hid (TS w wb d F0 (DevM.fresh 4) [((w.heap.size + 1), 34, secL s)]) := Lib.hid (hT0.out.sub (fun x hx => by simp only [List.mem_singleton] at hx; subst hx; exact .head _))
  clear hT0
  go_loopw [34] (fun i wr => ∃ (k : Nat) (F : Nat → Prop) (m : DevM), k ≤ 4 ∧ i = .int .i64 k ∧ Hid (TS w wr d F m [((w.heap.size + 1), 34, secL s)]) ∧ Hid (Live m 4 k))
    (fun i _ => (4 - intOf i).toNat)
  case atStart => exact ⟨0, F0, _, by omega, rfl, hT0', Lib.hid (Live.fresh 4)⟩
  case round =>
    clear hT0'
    obtain ⟨k, F, m, hk, rfl, hT, hL⟩ := hrel
    by_cases hlt : k < 4
    · obtain ⟨u, hu⟩ : ∃ u : U5, Hid (u = us[k]'(by rw [hl.out]; exact hlt)) := ⟨_, Lib.hid rfl⟩
      have hfu : Hid u.Fit := Lib.hid (by rw [hu.out]; exact hus.out _ (List.getElem_mem _))
      have hix : Hid (((rowsL u5L us).drop (k * iu.size)).take iu.size = u5L u) := Lib.hid (by rw [hius, hu.out]; exact row_take (by rw [hl.out]; exact hlt))
      have hl1 : (w.heap.size + 1) < wr.heap.size := (hT.out.blk _ (.head _)).lt
      go_wp2_with (first
        | ((with_reducible refine atDst (some 37) (by rfl) ?_); refine wpList_indexN rfl 68 _ _ rfl 27 4 _ iu Try.underlying68 Try.underlying27 rfl hiu.out (rowsL u5L us) k (u5L u) (by rfl) (by rfl) hlt hix.out ?_)
        | ((with_reducible refine guardList ?_); refine atOper 9 (by rfl) ?_
           refine wantList_store (by rfl) 27 _ _ rfl wr.heap.size 0 (by rfl) (u5L u) (by rfl) _ (u5L u5z) (u5L u) (Blk.new wr 27 (u5L u5z)) (Nat.le_of_eq rfl) (u5L_one _) (infoUberL _) rfl ?_
           intro w1 b1 k1 z1
           have hT1 := Lib.hid ((hT.out.new 27 (u5L u5z)).set (fun x hx e => by simp only [List.mem_singleton] at hx; subst hx; dsimp only at e; omega) k1 b1)
           clear b1 k1 z1)
        | ((with_reducible refine atDst (some 39) (by rfl) ?_); refine wantList_load (by rfl) 27 _ rfl wr.heap.size 0 (by rfl) (u5L u) _ (range_blk (hT1.out.blk _ (.head _))) Try.underlying27 rfl (infoUberL _) ?_))


      cases hr : u.rightB with
      | false =>
        have hBy : Hid (Calls Try.prog 12 #[.agg (u5L u).toArray] w1 fun e w' => e = .returned (.tuple #[.agg (secL sec0).toArray, .int .i64 61]) ∧ Below w1.heap.size w1 w') := Lib.hid (by
          have h := bytes_L u w1 hfu.out
          unfold U5.secO at h
          rw [hr] at h
          exact h)
        clear hr
        refine hBy.out.mono ?_
        rintro e w2 ⟨rfl, b2⟩
        have hT2 := Lib.hid (hT1.out.below b2)
        clear b2
        have hl2 : wr.heap.size < w2.heap.size := (hT2.out.blk _ (.head _)).lt
        go_wp2_with (first
          | ((with_reducible refine guardList ?_); refine atOper 10 (by rfl) ?_
             refine wantList_store (by rfl) 34 _ _ rfl w2.heap.size 0 (by rfl) (secL sec0) (by rfl) _ (secL sec0) (secL sec0) (Blk.new w2 34 (secL sec0)) (by simp only [secL_length]; decide) (secL_one _) (infoSecL _) whole_sec ?_
             intro w3 b3 k3 z3
             have hT3 := Lib.hid ((hT2.out.new 34 (secL sec0)).set (fun x hx e => by simp only [List.mem_cons, List.not_mem_nil, or_false] at hx; rcases hx with rfl | rfl <;> dsimp only at e <;> omega) k3 b3)
             clear b3 k3 z3))
        go_roundw
        case rel => exact ⟨k + 1, F, m, by omega, by go_num, Lib.hid (hT3.out.sub (fun x hx => by simp only [List.mem_singleton] at hx; subst hx; exact .tail _ (.tail _ (.head _)))), Lib.hid (hL.out.more (by omega))⟩
        case measure => simp [intOf] <;> omega
      | true =>
        have hBy : Hid (Calls Try.prog 12 #[.agg (u5L u).toArray] w1 fun e w' => e = .returned (.tuple #[.agg (secL u.sec).toArray, .int .i64 0]) ∧ Below w1.heap.size w1 w') := Lib.hid (by
          have h := bytes_L u w1 hfu.out
          unfold U5.secO at h
          rw [hr] at h
          exact h)
        clear hr
        refine hBy.out.mono ?_
        rintro e w2 ⟨rfl, b2⟩
        have hT2 := Lib.hid (hT1.out.below b2)
        clear b2
        have hl2 : wr.heap.size < w2.heap.size := (hT2.out.blk _ (.head _)).lt
        go_wp2_with (first
          | ((with_reducible refine guardList ?_); refine atOper 10 (by rfl) ?_
             refine wantList_store (by rfl) 34 _ _ rfl w2.heap.size 0 (by rfl) (secL u.sec) (by rfl) _ (secL sec0) (secL u.sec) (Blk.new w2 34 (secL sec0)) (by simp only [secL_length]; decide) (secL_one _) (infoSecL _) whole_sec ?_
             intro w3 b3 k3 z3
             have hT3 := Lib.hid ((hT2.out.new 34 (secL sec0)).set (fun x hx e => by simp only [List.mem_cons, List.not_mem_nil, or_false] at hx; rcases hx with rfl | rfl <;> dsimp only at e <;> omega) k3 b3)
             clear b3 k3 z3)
          | ((with_reducible refine atDst (some 47) (by rfl) ?_); refine wantList_load (by rfl) 34 _ rfl w2.heap.size 0 (by rfl) (secL u.sec) _ (range_blk (hT3.out.blk _ (.head _))) Try.underlying34 rfl (infoSecL _) ?_))
        have hpl : m.pending.length ≤ 1000000000 := by have := hL.out.pend; omega
        refine (o_Write hT3.out.obj.dev (k : Int) (by unfold I64; omega) u.sec hpl).mono ?_
        have hLW := Lib.hid (hL.out.write (k : Int) u.sec)
        generalize m.write (k : Int) u.sec = mw at *
        obtain ⟨m4, e4⟩ := mw
        dsimp only at hLW ⊢
        rintro e w4 ⟨rfl, T⟩
        obtain ⟨F4, hT4⟩ := hT3.out.turn T
        have hT4 := Lib.hid hT4
        clear T hpl
        go_wp2
        go_roundw
        case rel => exact ⟨k + 1, F4, m4, by omega, by go_num, Lib.hid (hT4.out.sub (fun x hx => by simp only [List.mem_singleton] at hx; subst hx; exact .tail _ (.tail _ (.head _)))), hLW⟩
        case measure => simp [intOf] <;> omega
    · obtain rfl : k = 4 := by omega
      clear hlt hk hl hU4 hiu hius hus
      have hpl : m.pending.length ≤ 1000000000 := by have := hL.out.pend; omega
      have hpl := Lib.hid hpl
      go_wp2_with fail
      refine (oList hT.out.obj.dev).mono ?_
      have hfit : Hid (∀ u ∈ m.list, u.Fit) := Lib.hid (fun u hu => list_fit hu)
      have hin : Hid (∀ u ∈ m.list, u.x % 4 ≠ j → u ∈ ((m.ticks 4).rot (j : Int) s).1.list) := Lib.hid (fun u hu hx => spoil_in (hL.out.ticks 4) hj s (by rw [list_ticks]; exact hu) hx)
      have hat : Hid (∀ u, u5O s = some u → u.x % 4 = j → u ∈ ((m.ticks 4).rot (j : Int) s).1.list) := Lib.hid (fun u hu hx => spoil_at (hL.out.ticks 4) hj s hu hx)
      have hz0 : Hid (u5z ∉ ((m.ticks 4).rot (j : Int) s).1.list) := Lib.hid zero_not
      have hll : m.list.length ≤ 4 := lists_length m 4
      have hr2 : ((m.ticks 4).rot (j : Int) s).2 = 0 := (hL.out.ticks 4).rot2 (by omega) (by omega) s
      have hpl4 : (m.ticks 4).pending.length ≤ 1000000000 := by have := (hL.out.ticks 4).pend; omega
      have hpl4 := Lib.hid hpl4
      clear hpl hL
      generalize m.list = xs at *
      generalize m.ticks 4 = m4 at *
      rintro e w1 ⟨ao1, cap1, F1, rfl, hd1, hk1, hg1, hA1, hn1⟩
      have hT1 := Lib.hid (hT.out.turnF hd1 hk1 hg1)
      have hX1 : Hid (Beside w1 F1 ao1 (rowsL u5L xs)) := Lib.hid (Beside.of_list hA1)
      clear hd1 hk1 hg1 hA1 hn1 hT
      go_wp2_with (first
        | ((with_reducible refine atDst (some 54) (by rfl) ?_); refine wantList_load (by rfl) 34 _ rfl (w.heap.size + 1) 0 (by rfl) (secL s) _ (range_blk (hT1.out.blk _ (.head _))) Try.underlying34 rfl (infoSecL _) ?_))
      refine (o_Rot hT1.out.obj.dev (j : Int) (by unfold I64; omega) s hpl4.out).mono ?_
      rw [hr2]
      have hll2 : (m4.rot (j : Int) s).1.list.length ≤ 4 := lists_length _ 4
      clear hr2 hpl4
      generalize (m4.rot (j : Int) s).1 = m5 at *
      rintro e w2 ⟨rfl, T⟩
      obtain ⟨F2, hd2, hk2, hg2⟩ := T
      have hT2 := Lib.hid (hT1.out.turnF hd2 hk2 hg2)
      have hX2 := Lib.hid (hX1.out.turn hk2 hg2)
      clear hd2 hk2 hg2 hT1 hX1
      go_wp2_with fail
      refine (oList hT2.out.obj.dev).mono ?_
      generalize m5.list = zs at *
      rintro e wB ⟨ao2, cap2, F3, rfl, hd3, hk3, hg3, hA3, hn3⟩
      have hT3 := Lib.hid (hT2.out.turnF hd3 hk3 hg3)
      have hX : Hid (Reads wB ao1 (rowsL u5L xs)) := Lib.hid (hX2.out.turn hk3 hg3).reads
      have hZ : Hid (Reads wB ao2 (rowsL u5L zs)) := Lib.hid hA3.1
      have hSB : Hid (Blk wB (w.heap.size + 1) 34 (secL s)) := Lib.hid (hT3.out.blk _ (.head _))
      have qB : Hid (Below w.heap.size w wB) := Lib.hid hT3.out.obj.q
      have hlB : w.heap.size + 1 < wB.heap.size := hSB.out.lt
      clear hd3 hk3 hg3 hA3 hn3 hT2 hX2 hT3
      go_wp2
      go_loopw [61] (fun i wr => ∃ (k : Nat), k ≤ xs.length ∧ i = .int .i64 k ∧ Hid (Below wB.heap.size wB wr))
        (fun i _ => xs.length - (intOf i).toNat)
      case atStart => exact ⟨0, by omega, rfl, Lib.hid (Below.refl _ _)⟩
      case round =>
        obtain ⟨k, hk, rfl, hB⟩ := hrel
        by_cases hlt : k < xs.length
        · obtain ⟨b, off, rfl, hbb, hr⟩ := (hX.out.below hB.out).rangeRow u5L_length (by decide) hlt
          obtain ⟨u, hu⟩ : ∃ u : U5, Hid (u = xs[k]) := ⟨_, Lib.hid rfl⟩
          have hfu : Hid u.Fit := Lib.hid (by rw [hu.out]; exact hfit.out _ (List.getElem_mem _))
          have hiu : Hid (u.x % 4 ≠ j → u ∈ zs) := Lib.hid (by rw [hu.out]; exact hin.out _ (List.getElem_mem _))
          rw [← hu.out] at hr
          have hr := Lib.hid hr
          clear hu
          have hlr : wB.heap.size ≤ wr.heap.size := hB.out.size
          go_wp2_with (first
            | ((with_reducible refine atDst (some 64) (by rfl) ?_); refine wantList_load (by rfl) 27 _ rfl b (off + k * 7) (by rfl) (u5L u) _ (hr.out) Try.underlying27 rfl (infoUberL _) ?_)
            | ((with_reducible refine guardList ?_); refine atOper 15 (by rfl) ?_
               refine wantList_store (by rfl) 27 _ _ rfl wr.heap.size 0 (by rfl) (u5L u) (by rfl) _ (u5L u5z) (u5L u) (Blk.new wr 27 (u5L u5z)) (Nat.le_of_eq rfl) (u5L_one _) (infoUberL _) rfl ?_
               intro w3 b3 k3 z3
               have hB3 : Hid (Below wB.heap.size wB w3) := Lib.hid (Kept.out (hB.out.trans ((Kept.of_alloc (fun _ => False) wr _).below (fun _ _ h => h.elim) hB.out.size)) k3 (fun i _ e => by omega) (by simp; omega))
               have hU3 := Lib.hid b3
               have hl3 : wr.heap.size < w3.heap.size := b3.lt
               clear b3 k3 z3))
          clear hr
          obtain ⟨wo, rfl⟩ : ∃ wo : World, wo = wr := ⟨_, rfl⟩
          go_loopw [16, 67] (fun iv jv wr => ∃ (q : Nat), q ≤ zs.length ∧ jv = .int .i64 q ∧ iv = .bool (anyB u (zs.take q)) ∧ Hid (Below w3.heap.size w3 wr))
            (fun _ jv _ => zs.length - (intOf jv).toNat)
          case atStart => exact ⟨0, by omega, rfl, rfl, Lib.hid (Below.refl _ _)⟩
          case round =>
            obtain ⟨q, hq, rfl, rfl, hB4⟩ := hrel
            by_cases hlq : q < zs.length
            · obtain ⟨b', off', rfl, hbb', hr'⟩ := (hZ.out.below (hB3.out.trans (hB4.out.mono hB3.out.size))).rangeRow u5L_length (by decide) hlq
              obtain ⟨v, hv⟩ : ∃ v : U5, Hid (v = zs[q]) := ⟨_, Lib.hid rfl⟩
              rw [← hv.out] at hr'
              have hr' := Lib.hid hr'
              have hstep : Hid (anyB u (zs.take (q + 1)) = (anyB u (zs.take q) || u.eqB v)) := Lib.hid (by rw [hv.out]; exact anyB_succ u hlq)
              have hlr' : w3.heap.size ≤ wr.heap.size := hB4.out.size
              have heq : ∀ w, (Op.equalIn 10000 27 (.agg (u5L u).toArray) (.agg (u5L v).toArray)).run Try.prog w = .ok (u.eqB v) w := fun w => eqUber_L w u v
              cases hab : anyB u (zs.take q) with
              | true =>
                have hres : Hid (anyB u (zs.take (q + 1)) = true) := Lib.hid (by rw [hstep.out, hab]; rfl)
                clear hab hstep heq hv
                go_wp2_with (first
                  | ((with_reducible refine atDst (some 70) (by rfl) ?_); refine wantList_load (by rfl) 27 _ rfl b' (off' + q * 7) (by rfl) (u5L v) _ (hr'.out) Try.underlying27 rfl (infoUberL _) ?_)
                  | ((with_reducible refine guardList ?_); refine atOper 18 (by rfl) ?_
                     refine wantList_store (by rfl) 27 _ _ rfl wr.heap.size 0 (by rfl) (u5L v) (by rfl) _ (u5L u5z) (u5L v) (Blk.new wr 27 (u5L u5z)) (Nat.le_of_eq rfl) (u5L_one _) (infoUberL _) rfl ?_
                     intro w5 b5 k5 z5
                     have hB5 : Hid (Below w3.heap.size w3 w5) := Lib.hid (Kept.out (hB4.out.trans ((Kept.of_alloc (fun _ => False) wr _).below (fun _ _ h => h.elim) hB4.out.size)) k5 (fun i _ e => by omega) (by simp; omega))
                     clear b5 k5 z5))
                go_roundw
                case rel => exact ⟨q + 1, by omega, by go_num, by rw [hres.out], hB5⟩
                case measure => simp [intOf] <;> omega
              | false =>
                have hres : Hid (anyB u (zs.take (q + 1)) = u.eqB v) := Lib.hid (by rw [hstep.out, hab]; rfl)
                clear hab hstep hv
                go_wp2_with (first
                  | ((with_reducible refine atDst (some 70) (by rfl) ?_); refine wantList_load (by rfl) 27 _ rfl b' (off' + q * 7) (by rfl) (u5L v) _ (hr'.out) Try.underlying27 rfl (infoUberL _) ?_)
                  | ((with_reducible refine guardList ?_); refine atOper 18 (by rfl) ?_
                     refine wantList_store (by rfl) 27 _ _ rfl wr.heap.size 0 (by rfl) (u5L v) (by rfl) _ (u5L u5z) (u5L v) (Blk.new wr 27 (u5L u5z)) (Nat.le_of_eq rfl) (u5L_one _) (infoUberL _) rfl ?_
                     intro w5 b5 k5 z5
                     have hB5 : Hid (Below w3.heap.size w3 w5) := Lib.hid (Kept.out (hB4.out.trans ((Kept.of_alloc (fun _ => False) wr _).below (fun _ _ h => h.elim) hB4.out.size)) k5 (fun i _ e => by omega) (by simp; omega))
                     have hV5 := Lib.hid b5
                     clear b5 k5 z5)
                  | ((with_reducible refine atDst (some 73) (by rfl) ?_); refine wantList_load (by rfl) 27 _ rfl wo.heap.size 0 (by rfl) (u5L u) _ (range_blk (hU3.out.below hB5.out hl3)) Try.underlying27 rfl (infoUberL _) ?_)
                  | ((with_reducible refine atDst (some 74) (by rfl) ?_); refine wantList_load (by rfl) 27 _ rfl wr.heap.size 0 (by rfl) (u5L v) _ (range_blk hV5.out) Try.underlying27 rfl (infoUberL _) ?_))
                go_roundw
                case rel => exact ⟨q + 1, by omega, by go_num, by rw [hres.out], hB5⟩
                case measure => simp [intOf] <;> omega
            · obtain rfl : q = zs.length := by omega
              rw [List.take_length]
              have hB5 : Hid (Below wB.heap.size wB wr) := Lib.hid (hB3.out.trans (hB4.out.mono hB3.out.size))
              have hc0 : wr.cell? ⟨wo.heap.size, 0, none⟩ = some (.int .u64 (u.x : Int)) := (hU3.out.below hB4.out hl3).cell 0
              have hlr' : w3.heap.size ≤ wr.heap.size := hB4.out.size
              cases hab : anyB u zs with
              | true =>
                clear hab
                go_wp2
                go_roundw
                case rel => exact ⟨k + 1, by omega, by go_num, hB5⟩
                case measure => simp [intOf] <;> omega
              | false =>
                have hxj : u.x % 4 = j := by
                  by_cases h : u.x % 4 = j
                  · exact h
                  · have := anyB_iff.2 (hiu.out h); rw [hab] at this; cases this
                have hx64 : u.x < 18446744073709551616 := hfu.out.1
                clear hab
                go_wp2
                go_roundw
                case rel => exact ⟨k + 1, by omega, by go_num, hB5⟩
                case measure => simp [intOf] <;> omega
        · obtain rfl : k = xs.length := by omega
          clear hlt hk
          have hRd : Hid (Calls Try.prog 14 #[.agg (secL s).toArray] wr (URes (u5O s) wr)) := Lib.hid (uRead_any s wr)
          go_wp2_with (first
            | ((with_reducible refine atDst (some 90) (by rfl) ?_); refine wantList_load (by rfl) 34 _ rfl (w.heap.size + 1) 0 (by rfl) (secL s) _ (range_blk (blk_out hSB.out hB.out)) Try.underlying34 rfl (infoSecL _) ?_))
          refine hRd.out.mono ?_
          have hfin : Hid ((u5O s).isSome = true → ((u5O s).getD u5z).Fit) := Lib.hid (fun h => by
            cases ho : u5O s with
            | none => rw [ho] at h; cases h
            | some u => exact u5O_fit ho)
          have hcase : Hid (((u5O s).isSome = false ∧ anyB ((u5O s).getD u5z) zs = false) ∨ ((u5O s).isSome = true ∧ (((u5O s).getD u5z).x % 4 = j → anyB ((u5O s).getD u5z) zs = true))) := Lib.hid (by
            cases ho : u5O s with
            | none =>
              left
              refine ⟨rfl, ?_⟩
              cases h : anyB u5z zs with
              | false => exact h
              | true => exact absurd (anyB_iff.1 h) hz0.out
            | some u => exact .inr ⟨rfl, fun h => anyB_iff.2 (hat.out u ho h)⟩)
          clear hRd
          unfold URes
          generalize (u5O s).getD u5z = U at *
          generalize (u5O s).isSome = ok at *
          rintro e wR ⟨rfl, bR⟩
          have hB1 := Lib.hid (hB.out.trans (bR.mono hB.out.size))
          have hlR : wB.heap.size ≤ wR.heap.size := hB1.out.size
          clear bR
          go_wp2_with (first
            | ((with_reducible refine guardList ?_); refine atOper 19 (by rfl) ?_
               refine wantList_store (by rfl) 27 _ _ rfl wR.heap.size 0 (by rfl) (u5L U) (by rfl) _ (u5L u5z) (u5L U) (Blk.new wR 27 (u5L u5z)) (Nat.le_of_eq rfl) (u5L_one _) (infoUberL _) rfl ?_
               intro w3 b3 k3 z3
               have hB3 : Hid (Below wB.heap.size wB w3) := Lib.hid (Kept.out (hB1.out.trans ((Kept.of_alloc (fun _ => False) wR _).below (fun _ _ h => h.elim) hB1.out.size)) k3 (fun i _ e => by omega) (by simp; omega))
               have hU3 := Lib.hid b3
               have hl3 : wR.heap.size < w3.heap.size := b3.lt
               clear b3 k3 z3))
          go_loopw [21, 96] (fun iv jv wr => ∃ (q : Nat), q ≤ zs.length ∧ jv = .int .i64 q ∧ iv = .bool (anyB U (zs.take q)) ∧ Hid (Below w3.heap.size w3 wr))
            (fun _ jv _ => zs.length - (intOf jv).toNat)
          case atStart => exact ⟨0, by omega, rfl, rfl, Lib.hid (Below.refl _ _)⟩
          case round =>
            obtain ⟨q, hq, rfl, rfl, hB4⟩ := hrel
            by_cases hlq : q < zs.length
            · obtain ⟨b', off', rfl, hbb', hr'⟩ := (hZ.out.below (hB3.out.trans (hB4.out.mono hB3.out.size))).rangeRow u5L_length (by decide) hlq
              obtain ⟨v, hv⟩ : ∃ v : U5, Hid (v = zs[q]) := ⟨_, Lib.hid rfl⟩
              rw [← hv.out] at hr'
              have hr' := Lib.hid hr'
              have hstep : Hid (anyB U (zs.take (q + 1)) = (anyB U (zs.take q) || U.eqB v)) := Lib.hid (by rw [hv.out]; exact anyB_succ U hlq)
              have hlr' : w3.heap.size ≤ wr.heap.size := hB4.out.size
              have heq : ∀ w, (Op.equalIn 10000 27 (.agg (u5L v).toArray) (.agg (u5L U).toArray)).run Try.prog w = .ok (U.eqB v) w := fun w => by rw [eqUber_L, eqB_symm]
              cases hab : anyB U (zs.take q) with
              | true =>
                have hres : Hid (anyB U (zs.take (q + 1)) = true) := Lib.hid (by rw [hstep.out, hab]; rfl)
                clear hab hstep heq hv
                go_wp2_with (first
                  | ((with_reducible refine atDst (some 99) (by rfl) ?_); refine wantList_load (by rfl) 27 _ rfl b' (off' + q * 7) (by rfl) (u5L v) _ (hr'.out) Try.underlying27 rfl (infoUberL _) ?_)
                  | ((with_reducible refine guardList ?_); refine atOper 23 (by rfl) ?_
                     refine wantList_store (by rfl) 27 _ _ rfl wr.heap.size 0 (by rfl) (u5L v) (by rfl) _ (u5L u5z) (u5L v) (Blk.new wr 27 (u5L u5z)) (Nat.le_of_eq rfl) (u5L_one _) (infoUberL _) rfl ?_
                     intro w5 b5 k5 z5
                     have hB5 : Hid (Below w3.heap.size w3 w5) := Lib.hid (Kept.out (hB4.out.trans ((Kept.of_alloc (fun _ => False) wr _).below (fun _ _ h => h.elim) hB4.out.size)) k5 (fun i _ e => by omega) (by simp; omega))
                     clear b5 k5 z5))
                go_roundw
                case rel => exact ⟨q + 1, by omega, by go_num, by rw [hres.out], hB5⟩
                case measure => simp [intOf] <;> omega
              | false =>
                have hres : Hid (anyB U (zs.take (q + 1)) = U.eqB v) := Lib.hid (by rw [hstep.out, hab]; rfl)
                clear hab hstep hv
                go_wp2_with (first
                  | ((with_reducible refine atDst (some 99) (by rfl) ?_); refine wantList_load (by rfl) 27 _ rfl b' (off' + q * 7) (by rfl) (u5L v) _ (hr'.out) Try.underlying27 rfl (infoUberL _) ?_)
                  | ((with_reducible refine guardList ?_); refine atOper 23 (by rfl) ?_
                     refine wantList_store (by rfl) 27 _ _ rfl wr.heap.size 0 (by rfl) (u5L v) (by rfl) _ (u5L u5z) (u5L v) (Blk.new wr 27 (u5L u5z)) (Nat.le_of_eq rfl) (u5L_one _) (infoUberL _) rfl ?_
                     intro w5 b5 k5 z5
                     have hB5 : Hid (Below w3.heap.size w3 w5) := Lib.hid (Kept.out (hB4.out.trans ((Kept.of_alloc (fun _ => False) wr _).below (fun _ _ h => h.elim) hB4.out.size)) k5 (fun i _ e => by omega) (by simp; omega))
                     have hV5 := Lib.hid b5
                     clear b5 k5 z5)
                  | ((with_reducible refine atDst (some 103) (by rfl) ?_); refine wantList_load (by rfl) 27 _ rfl wR.heap.size 0 (by rfl) (u5L U) _ (range_blk (hU3.out.below hB5.out hl3)) Try.underlying27 rfl (infoUberL _) ?_)
                  | ((with_reducible refine atDst (some 102) (by rfl) ?_); refine wantList_load (by rfl) 27 _ rfl wr.heap.size 0 (by rfl) (u5L v) _ (range_blk hV5.out) Try.underlying27 rfl (infoUberL _) ?_))
                go_roundw
                case rel => exact ⟨q + 1, by omega, by go_num, by rw [hres.out], hB5⟩
                case measure => simp [intOf] <;> omega
            · obtain rfl : q = zs.length := by omega
              rw [List.take_length]
              have hB5 : Hid (Below w.heap.size w wr) := Lib.hid (qB.out.trans ((hB3.out.trans (hB4.out.mono hB3.out.size)).mono qB.out.size))
              have hc0 : wr.cell? ⟨wR.heap.size, 0, none⟩ = some (.int .u64 (U.x : Int)) := (hU3.out.below hB4.out hl3).cell 0
              have hlr' : w3.heap.size ≤ wr.heap.size := hB4.out.size
              rcases hcase.out with ⟨rfl, hab⟩ | ⟨rfl, hab⟩
              · rw [hab]
                clear hab
                go_wp2
                go_ret
                exact ⟨rfl, hB5.out⟩
              · have hx64 : U.x < 18446744073709551616 := (hfin.out rfl).1
                by_cases hxj : U.x % 4 = j
                · rw [hab hxj]
                  clear hab
                  go_wp2
                  go_ret
                  exact ⟨rfl, hB5.out⟩
                · clear hab
                  have hq1 : ((U.x : Int) % 4 == (j : Int)) = false := by
                    have h : ¬ (U.x : Int) % 4 = (j : Int) := by omega
                    simpa using h
                  have hq2 : ((U.x : Int) % 4 != (j : Int)) = true := by
                    unfold bne
                    rw [hq1]
                    rfl
                  clear hxj
                  cases anyB U zs with
                  | true =>
                    go_wp2
                    go_ret
                    exact ⟨rfl, hB5.out⟩
                  | false =>
                    go_wp2
                    go_ret
                    exact ⟨rfl, hB5.out⟩



set_option maxRecDepth 100000 in
set_option maxHeartbeats 4000000 in
theorem way_out (us : List U5) (z : Int) (s : Sec) (w : World) (hz : z < 0 ∨ 3 < z) :
    Calls Try.prog 7 #[.agg (rowsL u5L us).toArray, .int .i64 z, .agg (secL s).toArray] w fun e w' => e = .returned (.bool true) ∧ Below w.heap.size w w' := by
  have q0 : Hid (Below w.heap.size w ((w.alloc (.cells (rowsL u5L us).toArray 68)).alloc (.cells (secL s).toArray 34))) := Lib.hid (two_below w _ _)
  go_enter Try.func7, Try.ntmps7
  go_wp2_with fail
  refine (uberAlive_any _).mono ?_
  rintro e wa ⟨rfl, ba⟩
  have q1 := Lib.hid (q0.out.trans (ba.mono q0.out.size))
  clear ba q0
  rcases hz with hz | hz
  · go_wp2
    go_ret
    exact ⟨rfl, q1.out⟩
  · have h0 : ¬ z < 0 := by omega
    go_wp2
    go_ret
    exact ⟨rfl, q1.out⟩

theorem walk (us : List U5) (z : Int) (s : Sec) (w : World) (h : us.length = 4 ∧ ∀ u ∈ us, u.Fit) (hz : I64 z) :
    Calls Try.prog 7 #[.agg (rowsL u5L us).toArray, .int .i64 z, .agg (secL s).toArray] w fun e w' => e = .returned (.bool true) ∧ Below w.heap.size w w' := by
  by_cases h0 : 0 ≤ z
  · by_cases h3 : z ≤ 3
    · obtain ⟨j, rfl⟩ : ∃ j : Nat, z = (j : Int) := ⟨z.toNat, by omega⟩
      exact way_in us j s w h.1 (Lib.hid h.2) (by omega)
    · exact way_out us z s w (.inr (by omega))
  · exact way_out us z s w (.inl (by omega))

theorem own : ownKnob Try.prog.godebug = none := by kernel_rfl
theorem laidOut : laidOutB Try.prog = true := by kernel_rfl

set_option maxRecDepth 100000 in
theorem lifted (os : Os) (started : os.Started) (H : Type) (enc : TypeId × Value → H) :
    ReturnsInHanded {} Try.checked os 7 .any (Rows.uberSpoilsSpec.pre6 enc Try.prog Try.f7 Rows.uberSpoilsRow.domain false) (Rows.uberSpoilsSpec.post enc Try.prog Try.f7 false true false false) := by
  refine returnsInHanded_of_change_sized (C := Try.checked) own started (by kernel_rfl) Try.func7
    (ChangeSpec.witness6 (enc := enc) (C := Try.checked) false ⟨#[], #[.agg (Array.replicate 4 #[.int .u64 0, .int .u64 0, .int .i64 0, .int .u64 0, .int .u32 0, .int .i64 0, .int .i64 0]).flatten, .int .i64 0, .agg (Array.replicate 128 (.int .u8 0))], []⟩ 8 (by kernel_rfl) (by kernel_rfl) (by kernel_rfl) (by kernel_rfl)) ?_
  intro W base args ds gs before hval0 hW hcnd hsz0 _
  have hval : ∀ (j : Nat) t v, Try.f7.params[j]? = some t → args[j]? = some v → Value.okWide Try.prog W .any base t v := hval0
  have hsz : (DataW.weightsEach Try.prog (Try.f7.params.toList ++ Rows.uberSpoilsSpec.plain.varTypes Try.prog) (ds ++ gs)).all (· ≤ reachBytes) = true := hsz0
  have hW' := hW
  obtain ⟨p, q, hA0, hV, rfl, hfz, hnd⟩ := hW
  have hA : DataW.TrodAll enc Try.prog W 0 (fun _ => true) true Try.f7.params.toList args.toList ds p := hA0
  rw [Try.params7] at hA hval hsz
  obtain ⟨v0, vs0, d0, ds0, p0, q0, hargs, rfl, rfl, h0, r0⟩ := trodAll_cons hA
  obtain ⟨v1, vs1, d1, ds1, p1, q1, rfl, rfl, rfl, h1, r1⟩ := trodAll_cons r0
  obtain ⟨v2, vs2, d2, ds2, p2, q2, rfl, rfl, rfl, h2, r2⟩ := trodAll_cons r1
  obtain ⟨rfl, rfl, rfl⟩ := trodAll_nil r2
  obtain rfl : args = #[v0, v1, v2] := by cases args; simp_all
  obtain ⟨rfl, rfl⟩ := trodVars_none hV
  have k0 := h0
  have lt0 : ∀ x ∈ p0, x.block < W.heap.size := by obtain ⟨m, hm⟩ := k0; exact DataW.trod_lt m _ _ _ hm
  obtain ⟨a0, rfl, fi0⟩ := open_ubers4 h0 (hval 0 68 v0 rfl rfl)
  obtain ⟨a1, rfl, rfl, rfl, wf1⟩ := open_int Try.underlying3 (hval 1 3 v1 rfl rfl) h1
  have k2 := h2
  have lt2 : ∀ x ∈ p2, x.block < W.heap.size := by obtain ⟨m, hm⟩ := k2; exact DataW.trod_lt m _ _ _ hm
  obtain ⟨a2, rfl⟩ := open_secA h2 (hval 2 34 v2 rfl rfl)
  clear hA0 hval0 hsz0
  refine (walk a0 a1 a2 W fi0 (wf_i64 wf1) ).mono fun e W' ⟨he, bel⟩ => ?_
  subst he
  exact ⟨_, rfl, _, _, _, [], _, [], hW', trodAll_mk1 (shut_bool Try.underlying4 _), (trodAll_cons_mk (Below.trod laidOut (by kernel_rfl) (of_decide_eq_true (by kernel_rfl)) k0 bel lt0) (trodAll_cons_mk (shut_int Try.underlying3 wf1) (trodAll_cons_mk (Below.trod laidOut (by kernel_rfl) (of_decide_eq_true (by kernel_rfl)) k2 bel lt2) trodAll_mk0))), rfl, bel.frame _, fun h => by cases h⟩

theorem proved : Rows.UberSpoilsSaid :=
  OpenClaim.holds_of_wide 7 Try.f7 rfl rfl rfl rfl rfl rfl rfl ⟨rfl, rfl, rfl, rfl, rfl⟩ rfl rfl rfl rfl rfl (by kernel_rfl) Try.func7 (by kernel_rfl)
    (of_decide_eq_true (by kernel_rfl)) (by unfold Func.isWrapper; first | (rw [if_pos (by decide +kernel)]; kernel_rfl) | (rw [if_neg (by decide +kernel)]; exact ⟨rfl, rfl⟩))
    (fun os started H enc _ => lifted os started H enc)
end Go.Proofs.Ytfblehdeoloijaa.lawUberSpoils
