/- Ref: the texts RefB, RefC, RefD, RefE, RefF, RefG, RefH, RefI, RefJ, RefK, RefL, RefM, RefN, RefO, RunA, one behind the other. -/
import Derived.Test.YtfblehdeoloijaaGVdevB
import Derived.Deep.CutBlock
/- The document's own device: Now, power, Break, New. -/
namespace Go.Proofs.Ytfblehdeoloijaa
open Go.ChangeShapes Go.WideShapes Go.ChangeAt Go.RowKit
set_option linter.unusedVariables false
set_option maxRecDepth 20000

/-- a sector behind some writes -/
def nowOf (s : Sec) (p : List (Nat × Sec)) (i : Nat) : Sec := p.foldl (fun s x => if x.1 = i then x.2 else s) s
theorem nowOf_take (s : Sec) (p : List (Nat × Sec)) (i k : Nat) (h : k < p.length) : nowOf s (p.take (k + 1)) i = if p[k].1 = i then p[k].2 else nowOf s (p.take k) i := by
  rw [List.take_succ_eq_append_getElem h]
  unfold nowOf
  rw [List.foldl_append]
  rfl
theorem nowOf_put (l : List Sec) (p : List (Nat × Sec)) (i : Nat) (hi : i < l.length) : nowOf (l.getD i sec0) p i = (putAll l p).getD i sec0 := by
  induction p generalizing l with
  | nil => rfl
  | cons x r ih =>
    rw [putAll_cons, ← ih _ (by rw [List.length_set]; exact hi)]
    show nowOf (if x.1 = i then x.2 else l.getD i sec0) r i = _
    congr 1
    by_cases h : x.1 = i
    · subst h; rw [if_pos rfl, List.getD_eq_getElem?_getD, List.getElem?_set_self hi]; rfl
    · rw [if_neg h, List.getD_eq_getElem?_getD, List.getD_eq_getElem?_getD, List.getElem?_set_ne h]

theorem infoRw (p : Nat × Sec) : (Try.prog.info? 121).map (·.size) = some (wrL p).length := by
  rw [wrL_length]; kernel_rfl
theorem zeroRw (w : World) : Sem.run Try.prog (zeroValue 121) w = .ok (.agg (wrL (0, sec0)).toArray) w := by kernel_rfl
theorem wr_r1 {w : World} {A : Nat} {t : TypeId} {p : Nat × Sec} (h : Blk w A t (wrL p)) : w.rangeAt A 1 (secL p.2) := h.range fun j v hv => by
  rw [Nat.add_comm, wrL, List.getElem?_cons_succ]; exact hv
theorem wr_c0 {w : World} {A : Nat} {t : TypeId} {p : Nat × Sec} (h : Blk w A t (wrL p)) : w.cell? ⟨A, 0, none⟩ = some (.int .i64 (p.1 : Int)) := by rw [h.cell]; rfl

set_option maxRecDepth 100000 in
set_option maxHeartbeats 2000000 in
theorem Now_in (so : Option Addr) (st : List Sec) (n sc : Nat) (hn : Hid (st.length = n)) (po : Option Addr) (ps : List (Nat × Sec)) (np pc : Nat) (hnp : Hid (ps.length = np)) (x2 x3 x4 : Value) (i : Nat) (hi : i < n) (hle : n ≤ 1024) (hlp : np ≤ 1000000000) (w : World) (hr : Reads w so (rowsL secL st)) (hp : Reads w po (rowsL wrL ps)) :
    Calls Try.prog 59 #[.agg #[.slice so n sc, .slice po np pc, x2, x3, x4], .int .i64 (i : Int)] w fun e w' => e = .returned (.agg (secL (nowOf (st.getD i sec0) ps i)).toArray) ∧ Below w.heap.size w w' := by
  have hz := zeroSec
  have hzw := zeroRw
  obtain ⟨s0, hs0⟩ : ∃ s, Hid (s = st.getD i sec0) := ⟨_, Lib.hid rfl⟩
  have ht := fun w hr => At_in so st n sc hn (.slice po np pc) x2 x3 x4 i hi hle w hr
  rw [← hs0.out] at ht ⊢
  have ht := Lib.hid ht
  have hr := Lib.hid hr
  have hp := Lib.hid hp
  have i0 : (0 : Int) ≤ (i : Int) := by omega
  obtain ⟨wb, hwb⟩ : ∃ wb : World, Hid (wb = (w.alloc (.cells #[.slice so n sc, .slice po np pc, x2, x3, x4] 47)).alloc (.cells (secL sec0).toArray 34)) := ⟨_, Lib.hid rfl⟩
  have qb : Below w.heap.size w wb := by rw [hwb.out]; exact ((Below.refl w.heap.size w).alloc (Nat.le_refl _) _).alloc (by simp) _
  have hzb : wb.heap.size = w.heap.size + 2 := by rw [hwb.out]; simp
  have hB : Blk wb w.heap.size 47 [.slice so n sc, .slice po np pc, x2, x3, x4] := by rw [hwb.out]; exact (Blk.newA w 47 #[.slice so n sc, .slice po np pc, x2, x3, x4]).alloc _
  have hR : Blk wb (w.heap.size + 1) 34 (secL sec0) := by
    rw [hwb.out]
    have := Blk.new (w.alloc (.cells #[.slice so n sc, .slice po np pc, x2, x3, x4] 47)) 34 (secL sec0)
    simpa using this
  have qb := Lib.hid qb
  have hB := Lib.hid hB
  have hR := Lib.hid hR
  have hzb := Lib.hid hzb
  go_enter Try.func59, Try.ntmps59
  go_wp2_with fail
  rw [← hwb.out]
  refine (ht.out wb (hr.out.below qb.out)).mono ?_
  rintro e w1 ⟨rfl, b1⟩
  have hB1 := Lib.hid (hB.out.below b1 hB.out.lt)
  have hR1 := Lib.hid (hR.out.below b1 hR.out.lt)
  have q1 := Lib.hid (qb.out.trans (b1.mono qb.out.size))
  have hl1 : w.heap.size + 2 ≤ w1.heap.size := by have := b1.size; have := hzb.out; omega
  have c1 : w1.cell? ⟨w.heap.size, 1, none⟩ = some (.slice po np pc) := (hB1.out.cell 1).trans rfl
  clear b1
  go_wp2_with ((with_reducible refine guardList ?_)
               refine wantList_store (by rfl) 34 _ _ rfl w1.heap.size 0 (by rfl) (secL s0) (by rfl) _ (secL sec0) (secL s0) (Blk.new _ _ _) (by simp [secL_length]) (secL_one _) (infoSecL _) (whole_new (by simp [secL_length])) ?_
               intro w2 hv2 k2 z2
               have hB2 := hB1.out.alloc (.cells (secL sec0).toArray 34) |>.kept k2 (by omega)
               have hR2 := Lib.hid (hR1.out.alloc (.cells (secL sec0).toArray 34) |>.kept k2 (by omega))
               have q2 := Lib.hid (Kept.out (q1.out.alloc (by omega) _) k2 (fun i _ e => by omega) (by simp; omega))
               have c2 : w2.cell? ⟨w.heap.size, 1, none⟩ = some (.slice po np pc) := (hB2.cell 1).trans rfl
               have hl2 := hv2.lt
               have hv2 := Lib.hid hv2
               clear k2 z2 hB2)
  go_loopw [14] (fun j wr => ∃ (k : Nat) (s : Sec), k ≤ np ∧ j = .int .i64 k ∧ Hid (s = nowOf s0 (ps.take k) i) ∧ Hid (Blk wr w1.heap.size 34 (secL s)) ∧ Hid (Blk wr (w.heap.size + 1) 34 (secL sec0)) ∧ Hid (Below w.heap.size w wr))
    (fun j _ => np - (intOf j).toNat)
  case atStart => exact ⟨0, s0, by omega, rfl, Lib.hid rfl, hv2, hR2, q2⟩
  case round =>
    clear hv2 hR2 q2 c2
    obtain ⟨k, s, hk, rfl, hs, hv, hR3, hb⟩ := hrel
    have hbs := hb.out.size
    have hvl := hv.out.lt
    by_cases hlt : k < np
    · obtain ⟨b, off, rfl, hbb, hrow⟩ := (hp.out.below hb.out).rangeRow wrL_length (by omega) (k := k) (by rw [hnp.out]; exact hlt)
      obtain ⟨p, hpk⟩ : ∃ p : Nat × Sec, Hid (p = ps[k]'(by rw [hnp.out]; exact hlt)) := ⟨_, Lib.hid rfl⟩
      rw [← hpk.out] at hrow
      have hrow := Lib.hid hrow
      have j0 : (0 : Int) ≤ (k : Int) := by omega
      have j1 : (k : Int) < (np : Int) := by omega
      by_cases he : p.1 = i
      · have e1 : ((p.1 : Int) == (i : Int)) = true := by simp; omega
        have heH := Lib.hid he
        clear he
        go_upto_region 6 with (first
          | ((with_reducible refine guardList ?_); refine wantList_load (by rfl) 121 _ rfl b (off + k * 129) (by rfl) (wrL p) _ hrow.out Try.underlying121 rfl (infoRw _) ?_)
          | ((with_reducible refine guardList ?_)
             refine wantList_store (by rfl) 121 _ _ rfl wr.heap.size 0 (by rfl) (wrL p) (by rfl) _ (wrL (0, sec0)) (wrL p) (Blk.new _ _ _) (by simp [wrL_length]) (wrL_one _) (infoRw _) (whole_new (by simp [wrL_length])) ?_
             intro w4 hA4 k4 z4
             have hv4 := Lib.hid (hv.out.alloc (.cells (wrL (0, sec0)).toArray 121) |>.kept k4 (by omega))
             have hR4 := Lib.hid (hR3.out.alloc (.cells (wrL (0, sec0)).toArray 121) |>.kept k4 (by omega))
             have q4 := Lib.hid (Kept.out (hb.out.alloc hbs _) k4 (fun i _ e => by omega) (by simp; omega))
             have d0 := wr_c0 hA4
             have r4 := Lib.hid (wr_r1 hA4)
             clear k4 z4 hA4))
        go_wp2_with (first
          | ((with_reducible refine guardList ?_); refine wantList_load (by rfl) 34 _ rfl wr.heap.size 1 (by rfl) (secL p.2) _ r4.out Try.underlying34 rfl (infoSecL _) ?_)
          | ((with_reducible refine guardList ?_)
             refine wantList_store (by rfl) 34 _ _ rfl w1.heap.size 0 (by rfl) (secL p.2) (by rfl) _ (secL s) (secL p.2) hv4.out (by simp [secL_length]) (secL_one _) (infoSecL _) (whole_new (by simp [secL_length])) ?_
             intro w5 hv5 k5 z5
             have hv5 := Lib.hid hv5
             have hR5 := Lib.hid (hR4.out.kept k5 (by omega))
             have q5 := Lib.hid (Kept.out q4.out k5 (fun i _ e => by omega) q4.out.size)
             clear k5 z5))
        go_roundw
        case rel => exact ⟨k + 1, p.2, by omega, by go_num, Lib.hid (by rw [nowOf_take _ _ _ _ (by rw [hnp.out]; exact hlt), ← hpk.out, if_pos heH.out]), hv5, hR5, q5⟩
        case measure => simp [intOf] <;> omega
      · have e1 : ((p.1 : Int) == (i : Int)) = false := by simp; omega
        have heH := Lib.hid he
        clear he
        go_upto_region 7 with (first
          | ((with_reducible refine guardList ?_); refine wantList_load (by rfl) 121 _ rfl b (off + k * 129) (by rfl) (wrL p) _ hrow.out Try.underlying121 rfl (infoRw _) ?_)
          | ((with_reducible refine guardList ?_)
             refine wantList_store (by rfl) 121 _ _ rfl wr.heap.size 0 (by rfl) (wrL p) (by rfl) _ (wrL (0, sec0)) (wrL p) (Blk.new _ _ _) (by simp [wrL_length]) (wrL_one _) (infoRw _) (whole_new (by simp [wrL_length])) ?_
             intro w4 hA4 k4 z4
             have hv4 := Lib.hid (hv.out.alloc (.cells (wrL (0, sec0)).toArray 121) |>.kept k4 (by omega))
             have hR4 := Lib.hid (hR3.out.alloc (.cells (wrL (0, sec0)).toArray 121) |>.kept k4 (by omega))
             have q4 := Lib.hid (Kept.out (hb.out.alloc hbs _) k4 (fun i _ e => by omega) (by simp; omega))
             have d0 := wr_c0 hA4
             clear k4 z4 hA4))
        go_wp2
        go_roundw
        case rel => exact ⟨k + 1, s, by omega, by go_num, Lib.hid (by rw [nowOf_take _ _ _ _ (by rw [hnp.out]; exact hlt), ← hpk.out, if_neg heH.out]; exact hs.out), hv4, hR4, q4⟩
        case measure => simp [intOf] <;> omega
    · obtain rfl : k = np := by omega
      have hs2 := hs.out
      rw [List.take_of_length_le (by have := hnp.out; omega)] at hs2
      have hs2 := Lib.hid hs2
      go_wp2_with (first
        | ((with_reducible refine guardList ?_); refine wantList_load (by rfl) 34 _ rfl w1.heap.size 0 (by rfl) (secL s) _ (hv.out.range fun j v hv => by simpa using hv) Try.underlying34 rfl (infoSecL _) ?_)
        | ((with_reducible refine guardList ?_)
           refine wantList_store (by rfl) 34 _ _ rfl (w.heap.size + 1) 0 (by rfl) (secL s) (by rfl) _ (secL sec0) (secL s) hR3.out (by simp [secL_length]) (secL_one _) (infoSecL _) (whole_new (by simp [secL_length])) ?_
           intro w5 hR5 k5 z5
           have hR5 := Lib.hid hR5
           have q5 := Lib.hid (Kept.out hb.out k5 (fun i _ e => by omega) hbs)
           clear k5 z5))
      refine bodyPost_ret (results_row rfl (rowSec hR5.out)) rfl ⟨by rw [← hs2.out], q5.out⟩
end Go.Proofs.Ytfblehdeoloijaa

/- The document's own device: power, Break, New. -/
namespace Go.Proofs.Ytfblehdeoloijaa
open Go.ChangeShapes Go.WideShapes Go.ChangeAt Go.RowKit
set_option linter.unusedVariables false
set_option maxRecDepth 20000

/-- what is left behind asking for power, as the document's own device has it -/
def refLeft (f : Int) : Int := if 0 < f then f - 1 else f

/-- a device's five cells -/
def devL (so : Option Addr) (n sc : Nat) (po : Option Addr) (np pc : Nat) (ops f : Int) (dd : Bool) : List Value := [.slice so n sc, .slice po np pc, .int .i64 ops, .int .i64 f, .bool dd]
section
variable {so : Option Addr} {n sc : Nat} {po : Option Addr} {np pc : Nat} {ops f : Int} {dd : Bool}
theorem devL_one : ∀ v ∈ devL so n sc po np pc ops f dd, v.oneCell' = true := by
  intro v hv
  simp only [devL, List.mem_cons, List.not_mem_nil, or_false] at hv
  rcases hv with rfl | rfl | rfl | rfl | rfl <;> rfl
theorem infoDev5 : (Try.prog.info? 47).map (·.size) = some (devL so n sc po np pc ops f dd).length := by
  rw [show (devL so n sc po np pc ops f dd).length = 5 from rfl]; kernel_rfl
theorem rowDev {w : World} {g : Nat} {t : TypeId} (h : Blk w g t (devL so n sc po np pc ops f dd)) : RowRes Try.prog w 47 (.pointer (some ⟨g, 0, none⟩)) (devL so n sc po np pc ops f dd) :=
  ⟨⟨g, t, rfl, h⟩, ⟨_, Try.underlying47, rfl⟩, infoDev5⟩
end

set_option maxHeartbeats 400000 in
theorem power_no (so : Option Addr) (n sc : Nat) (po : Option Addr) (np pc : Nat) (ops f : Int) (dd : Bool) (h : dd = true ∨ f = 0) (w : World) :
    Calls Try.prog 70 #[.agg #[.slice so n sc, .slice po np pc, .int .i64 ops, .int .i64 f, .bool dd]] w fun e w' =>
      e = .returned (.tuple #[.agg (devL so n sc po np pc ops f true).toArray, .bool false]) ∧ Below w.heap.size w w' := by
  cases dd
  · obtain rfl : f = 0 := by simpa using h
    go_enter Try.func70, Try.ntmps70
    go_wp2
    refine bodyPost_ret (results_row_tmp rfl (rowDev (two_new w _ _ (devL so n sc po np pc ops 0 true)))) rfl ⟨rfl, two_below _ _ _⟩
  · go_enter Try.func70, Try.ntmps70
    go_wp2
    refine bodyPost_ret (results_row_tmp rfl (rowDev (two_new w _ _ (devL so n sc po np pc ops f true)))) rfl ⟨rfl, two_below _ _ _⟩

set_option maxHeartbeats 400000 in
theorem power_yes (so : Option Addr) (n sc : Nat) (po : Option Addr) (np pc : Nat) (ops f f' : Int) (h0 : f ≠ 0) (hf : -1 ≤ f ∧ f ≤ 9223372036854775807) (he : Hid (f' = refLeft f)) (w : World) :
    Calls Try.prog 70 #[.agg #[.slice so n sc, .slice po np pc, .int .i64 ops, .int .i64 f, .bool false]] w fun e w' =>
      e = .returned (.tuple #[.agg (devL so n sc po np pc ops f' false).toArray, .bool true]) ∧ Below w.heap.size w w' := by
  by_cases h1 : 0 < f
  · go_enter Try.func70, Try.ntmps70
    go_wp2
    refine bodyPost_ret (results_row_tmp rfl (rowDev (two_new w _ _ (devL so n sc po np pc ops (f - 1) false)))) rfl ⟨?_, two_below _ _ _⟩
    rw [he.out, refLeft, if_pos h1]
    rfl
  · go_enter Try.func70, Try.ntmps70
    go_wp2
    refine bodyPost_ret (results_row_tmp rfl (rowDev (two_new w _ _ (devL so n sc po np pc ops f false)))) rfl ⟨?_, two_below _ _ _⟩
    rw [he.out, refLeft, if_neg (by omega)]
    rfl

set_option maxHeartbeats 400000 in
theorem rBreak_any (so : Option Addr) (n sc : Nat) (po : Option Addr) (np pc : Nat) (ops f : Int) (dd : Bool) (x y : Int) (hx : I64 x) (hy : Hid (y = max x (-1))) (w : World) :
    Calls Try.prog 20 #[.agg #[.slice so n sc, .slice po np pc, .int .i64 ops, .int .i64 f, .bool dd], .int .i64 x] w fun e w' =>
      e = .returned (.agg (devL so n sc po np pc ops y dd).toArray) ∧ Below w.heap.size w w' := by
  unfold I64 at hx
  by_cases h0 : x < 0
  · go_enter Try.func20, Try.ntmps20
    go_wp2
    refine bodyPost_ret (results_row rfl (rowDev (two_new w _ _ (devL so n sc po np pc ops (-1) dd)))) rfl ⟨?_, two_below _ _ _⟩
    rw [hy.out, show max x (-1) = -1 from by omega]
  · go_enter Try.func20, Try.ntmps20
    go_wp2
    refine bodyPost_ret (results_row rfl (rowDev (two_new w _ _ (devL so n sc po np pc ops x dd)))) rfl ⟨?_, two_below _ _ _⟩
    rw [hy.out, show max x (-1) = x from by omega]

set_option maxHeartbeats 400000 in
theorem rNew_any (x : Int) (k : Nat) (hx : I64 x) (hk : Hid (DevM.newLen x = k)) (w : World) :
    Calls Try.prog 18 #[.int .i64 x] w fun e w' =>
      ∃ so, e = .returned (.agg (devL so k k none 0 0 0 (-1) false).toArray) ∧ (∃ g, so = some ⟨g, 0, none⟩ ∧ w.heap.size ≤ g) ∧ Reads w' so (rowsL secL (List.replicate k sec0)) ∧ Below w.heap.size w w' := by
  unfold I64 at hx
  have hk' : k ≤ 1024 := by rw [← hk.out]; unfold DevM.newLen; omega
  by_cases h0 : x < 0
  · obtain rfl : k = 0 := by rw [← hk.out]; unfold DevM.newLen; omega
    have hm0 : ∀ w : World, (Instr.makeSlice 44 (.int .i64 0) (.int .i64 0)).run Try.prog w = .ok (.slice (some ⟨w.heap.size, 0, none⟩) 0 0) (w.alloc (.cells (rowsL secL (List.replicate 0 sec0)).toArray 34)) := fun w => make_secs 0 (by omega) w
    generalize rowsL secL (List.replicate 0 sec0) = R at *
    go_enter Try.func18, Try.ntmps18
    go_wp2
    refine bodyPost_ret (results_row rfl (rowDev ((Blk.new w _ (devL (some ⟨w.heap.size + 1, 0, none⟩) 0 0 none 0 0 0 (-1) false)).alloc _))) rfl ⟨_, rfl, ⟨_, rfl, by omega⟩, Reads.of_blk (two_new w _ _ R), two_below _ _ _⟩
  by_cases h1 : 1024 < x
  · obtain rfl : k = 1024 := by rw [← hk.out]; unfold DevM.newLen; omega
    have hm0 : ∀ w : World, (Instr.makeSlice 44 (.int .i64 1024) (.int .i64 1024)).run Try.prog w = .ok (.slice (some ⟨w.heap.size, 0, none⟩) 1024 1024) (w.alloc (.cells (rowsL secL (List.replicate 1024 sec0)).toArray 34)) := fun w => make_secs 1024 (by omega) w
    generalize rowsL secL (List.replicate 1024 sec0) = R at *
    go_enter Try.func18, Try.ntmps18
    go_wp2
    refine bodyPost_ret (results_row rfl (rowDev ((Blk.new w _ (devL (some ⟨w.heap.size + 1, 0, none⟩) 1024 1024 none 0 0 0 (-1) false)).alloc _))) rfl ⟨_, rfl, ⟨_, rfl, by omega⟩, Reads.of_blk (two_new w _ _ R), two_below _ _ _⟩
  · obtain rfl : x = (k : Int) := by have := hk.out; unfold DevM.newLen at this; omega
    have hm0 := fun w : World => make_secs k (by omega) w
    have i1 : (0 : Int) ≤ (k : Int) := by omega
    have i2 : (k : Int) ≤ 1024 := by omega
    clear hk h0 h1
    generalize rowsL secL (List.replicate k sec0) = R at *
    go_enter Try.func18, Try.ntmps18
    go_wp2
    refine bodyPost_ret (results_row rfl (rowDev ((Blk.new w _ (devL (some ⟨w.heap.size + 1, 0, none⟩) k k none 0 0 0 (-1) false)).alloc _))) rfl ⟨_, rfl, ⟨_, rfl, by omega⟩, Reads.of_blk (two_new w _ _ R), two_below _ _ _⟩
end Go.Proofs.Ytfblehdeoloijaa

/- The document's own device: a copy of a slice of rows; what is stable behind some of the pending writes. -/
namespace Go.Proofs.Ytfblehdeoloijaa
open Go.ChangeShapes Go.WideShapes Go.ChangeAt Go.RowKit
set_option linter.unusedVariables false
set_option maxRecDepth 20000

section
variable {P : Program} {ops : Array Oper} {rest : List Oper} {o : Oper} {a : Act} {Q : Exit → Act → World → Prop}
/-- 'append([]T{}, x...)': a copy of whatever slice -/
theorem wpList_copyN (hgd : o.guard = none) (s x : Operand) (t : TypeId)
    (ho : o.op = .call { callee := .builtin .append, args := #[s, x], argTypes := #[t, t] })
    (e : TypeId) (i : TypeInfo) (z : Value) (size bytes : Nat) (ht : P.underlying t = some (.slice e)) (hi : P.info? e = some i) (hz : i.zero = some z)
    (hsize : i.size = size) (hby : i.bytes = bytes) (hzs : z.cells.size = size) (hsz : 0 < size)
    (w : World) (hs : a.eval s = .slice (some ⟨w.heap.size, 0, none⟩) 0 0)
    (ao : Option Addr) (m c : Nat) (news : List Value) (hx : a.eval x = .slice ao m c) (hnil : ao = none → c = 0) (hl : news.length = m * size) (hnews : Reads w ao news) (h1 : ∀ u ∈ news, u.oneCell' = true)
    (h63 : m ≤ 9223372036854775807) (hbytes : m * bytes ≤ 140737488355328)
    (h : ∀ co cc w', w'.ownsRow w.heap.size e size (.slice co m cc) m news → m ≤ cc → (co = none → cc = 0) → Below w.heap.size w w' → wpList P ops Q rest (a.put o.dst (.slice co m cc)) w') :
    wpList P ops Q (o :: rest) a (w.alloc (.cells #[] e)) := by
  have hO : (w.alloc (.cells #[] e)).ownsRow w.heap.size e size (.slice (some ⟨w.heap.size, 0, none⟩) 0 0) 0 [] := World.ownsRow_made w #[] 0 (Nat.le_refl _) (by decide) (by simp)
  refine wpList_append_src hgd s x t ho w.heap.size e i z size bytes ht hi hz hsize hby hzs hsz (.slice (some ⟨w.heap.size, 0, none⟩) 0 0) 0 [] _ hs hO ao m c news hx ?_ hl ?_ h1 (by omega) (by simpa using hbytes) (by simp) ?_
  · intro e0
    subst e0
    have := hnews.none_nil
    subst this
    refine ⟨?_, hnil rfl⟩
    rcases Nat.mul_eq_zero.1 (by simpa using hl.symm : m * size = 0) with h | h
    · exact h
    · omega
  · intro ad had
    exact (hnews.alloc _).cellsAt ad had
  · intro v' w' ho' hg'
    have hb : Below w.heap.size w w' := ((Below.refl _ _).alloc (Nat.le_refl _) _).trans ((Below.refl w.heap.size _).grown hg' (by simp) (fun g hg => by simp [Value.ownBlock] at hg; omega))
    rw [List.nil_append, Nat.zero_add] at ho'
    have hc := ho'
    obtain ⟨hl', ⟨rfl, hn⟩ | ⟨g, cap, cur, rfl, g1, g2, g3, _⟩⟩ := ho'
    · subst hn
      exact h none 0 w' hc (Nat.le_refl _) (fun _ => rfl) hb
    · exact h _ cap w' hc g3 (fun h => by cases h) hb
end

/-- a row of sectors of the call's own, ready for a store -/
theorem owns_open {w : World} {base : Nat} {e : TypeId} {co : Option Addr} {n cc : Nat} {ss : List Sec} (h : w.ownsRow base e 128 (.slice co n cc) n (rowsL secL ss)) (hn : ss.length = n) (h0 : 0 < n) :
    ∃ g tail, co = some ⟨g, 0, none⟩ ∧ base ≤ g ∧ Blk w g e (rowsL secL ss ++ tail) ∧
      (∀ w' ss', ss'.length = n → Blk w' g e (rowsL secL ss' ++ tail) → w'.ownsRow base e 128 (.slice co n cc) n (rowsL secL ss')) := by
  obtain ⟨hl, ⟨_, hz⟩ | ⟨g, cap, cur, hv, g1, g2, g3, g4, g5, g6⟩⟩ := h
  · omega
  · injection hv with hv1 hv2 hv3
    subst hv1 hv3
    have hcur : cur.toList = rowsL secL ss ++ cur.toList.drop (n * 128) := by rw [← g6, List.take_append_drop]
    refine ⟨g, cur.toList.drop (n * 128), rfl, g1, ?_, ?_⟩
    · unfold Blk
      rw [g2, ← hcur]
    · intro w' ss' hs' hb
      have e1 : (rowsL secL ss').length = n * 128 := by rw [rowsL_length secL_length, hs']
      refine ⟨e1, .inr ⟨g, cc, _, rfl, g1, hb, g3, g4, ?_, ?_⟩⟩
      · have hcl : cur.toList.length = cc * 128 := by simpa using g5
        simp [e1]
        have : n * 128 ≤ cc * 128 := Nat.mul_le_mul_right _ g3
        omega
      · simp [e1]
theorem rows_put (ss : List Sec) (tail : List Value) (i : Nat) (h : i < ss.length) (y : Sec) : rowsL secL (ss.set i y) ++ tail = (rowsL secL ss ++ tail).take (i * 128) ++ secL y ++ (rowsL secL ss ++ tail).drop (i * 128 + (secL y).length) := by
  have hl : (rowsL secL ss).length = ss.length * 128 := rowsL_length secL_length _
  have h2 : (i + 1) * 128 ≤ ss.length * 128 := Nat.mul_le_mul_right _ h
  rw [secL_length, rowsL_set secL_length _ _ h, List.take_append_of_le_length (by omega), List.drop_append_of_le_length (by omega)]
  simp
theorem owns_low {w : World} {base base' : Nat} {e : TypeId} {size n : Nat} {v : Value} {xs : List Value} (h : w.ownsRow base e size v n xs) (hb : base' ≤ base) : w.ownsRow base' e size v n xs := by
  obtain ⟨hl, h | ⟨g, cap, cur, h1, h2, h3⟩⟩ := h
  · exact ⟨hl, .inl h⟩
  · exact ⟨hl, .inr ⟨g, cap, cur, h1, Nat.le_trans hb h2, h3⟩⟩
theorem owns_reads {w : World} {base : Nat} {e : TypeId} {size n cc : Nat} {co : Option Addr} {xs : List Value} (h : w.ownsRow base e size (.slice co n cc) n xs) : Reads w co xs := by
  intro i hi
  have hc := h
  obtain ⟨hl, ⟨hv, hz⟩ | ⟨g, cap, cur, hv, _⟩⟩ := h
  · subst hz; simp at hl; subst hl; simp at hi
  · injection hv with hv1 _ _
    subst hv1
    refine ⟨g, 0, rfl, ?_⟩
    rw [Nat.zero_add, World.ownsRow.cellAt hc i (by omega)]
    exact List.getElem?_eq_getElem hi
section
variable {ops : Array Oper} {rest : List Oper} {o : Oper} {a : Act} {Q : Exit → Act → World → Prop}
theorem wpList_copySecs (hgd : o.guard = none) (s x : Operand) (ho : o.op = .call { callee := .builtin .append, args := #[s, x], argTypes := #[44, 44] })
    (w : World) (hs : a.eval s = .slice (some ⟨w.heap.size, 0, none⟩) 0 0) (ao : Option Addr) (m c : Nat) (st : List Sec) (hx : a.eval x = .slice ao m c) (hnil : ao = none → c = 0) (hl : st.length = m) (hr : Reads w ao (rowsL secL st)) (hm : m ≤ 1000000000)
    (h : ∀ co cc w', w'.ownsRow w.heap.size 34 128 (.slice co m cc) m (rowsL secL st) → m ≤ cc → (co = none → cc = 0) → Below w.heap.size w w' → wpList Try.prog ops Q rest (a.put o.dst (.slice co m cc)) w') :
    wpList Try.prog ops Q (o :: rest) a (w.alloc (.cells #[] 34)) := by
  obtain ⟨i0, hi0, hz0, hz1, hz2⟩ := info_parts infoSec3
  have hzs : (Value.agg (secL sec0).toArray).cells.size = 128 := List.size_toArray.trans (secL_length _)
  exact wpList_copyN hgd s x 44 ho 34 i0 _ 128 128 Try.underlying44 hi0 hz0 hz1 hz2 hzs (by omega) w hs ao m c (rowsL secL st) hx hnil (by rw [rowsL_length secL_length, hl]) hr (rowsL_one_cell secL_one _) (by omega) (by omega) h
end
end Go.Proofs.Ytfblehdeoloijaa

/- The document's own device: what is stable behind some of the pending writes. -/
namespace Go.Proofs.Ytfblehdeoloijaa
open Go.ChangeShapes Go.WideShapes Go.ChangeAt Go.RowKit
set_option linter.unusedVariables false
set_option maxRecDepth 20000

theorem kept_step (kf : Nat → Bool) (st : List Sec) (ps : List (Nat × Sec)) (k : Nat) (h : k < ps.length) : putAll st (DevM.kept kf (ps.take (k + 1))) = if kf k then (putAll st (DevM.kept kf (ps.take k))).set ps[k].1 ps[k].2 else putAll st (DevM.kept kf (ps.take k)) := by
  rw [kept_take kf ps k h]
  cases kf k
  · simp
  · rw [if_pos rfl, if_pos rfl, putAll_snoc]

set_option maxRecDepth 100000 in
set_option maxHeartbeats 4000000 in
theorem apply_any (so : Option Addr) (st : List Sec) (n sc : Nat) (hn : Hid (st.length = n)) (hsn : so = none → sc = 0) (po : Option Addr) (ps : List (Nat × Sec)) (np pc : Nat) (hnp : Hid (ps.length = np)) (ops f : Int) (dd : Bool) (all : Bool) (ko : Option Addr) (bs : List Bool) (nb kc : Nat) (hnb : Hid (bs.length = nb)) (hbl : nb ≤ 9223372036854775807)
    (hle : n ≤ 1024) (hlp : np ≤ 1000000000) (hat : Hid (∀ p ∈ ps, p.1 < n)) (w : World) (hr : Reads w so (rowsL secL st)) (hp : Reads w po (rowsL wrL ps)) (hk : Reads w ko (boolsV bs)) (kf : Nat → Bool) (hkf : Hid (∀ k, kf k = (all || bs.getD k false))) :
    Calls Try.prog 53 #[.agg #[.slice so n sc, .slice po np pc, .int .i64 ops, .int .i64 f, .bool dd], .bool all, .slice ko nb kc] w fun e w' => ∃ so' sc', e = .returned (.agg (devL so' n sc' none 0 0 ops f dd).toArray) ∧
      Reads w' so' (rowsL secL (putAll st (DevM.kept kf ps))) ∧ n ≤ sc' ∧ (so' = none → sc' = 0) ∧ (∀ a, so' = some a → w.heap.size ≤ a.block) ∧ Below w.heap.size w w' := by
  have hz := zeroSec
  have hzw := zeroRw
  have hsn := Lib.hid hsn
  have hr := Lib.hid hr
  have hp := Lib.hid hp
  have hk := Lib.hid hk
  obtain ⟨i0, hi0, hz0, hz1, hz2⟩ := info_parts infoSec3
  have hi0 := Lib.hid hi0
  have hz0 := Lib.hid hz0
  have hz1 := Lib.hid hz1
  have hz2 := Lib.hid hz2
  obtain ⟨wb, hwb⟩ : ∃ wb : World, Hid (wb = (w.alloc (.cells #[.slice so n sc, .slice po np pc, .int .i64 ops, .int .i64 f, .bool dd] 47)).alloc (.cells #[.slice none 0 0, .slice none 0 0, .int .i64 0, .int .i64 0, .bool false] 47)) := ⟨_, Lib.hid rfl⟩
  have qb : Below w.heap.size w wb := by rw [hwb.out]; exact two_below _ _ _
  have hzb : wb.heap.size = w.heap.size + 2 := by rw [hwb.out]; simp
  have hB : Blk wb w.heap.size 47 (devL so n sc po np pc ops f dd) := by rw [hwb.out]; exact (Blk.newA w _ _).alloc _
  have hR : Blk wb (w.heap.size + 1) 47 (devL none 0 0 none 0 0 0 0 false) := by rw [hwb.out]; exact two_new w _ _ (devL none 0 0 none 0 0 0 0 false)
  have c0 : wb.cell? ⟨w.heap.size, 0, none⟩ = some (.slice so n sc) := (hB.cell 0).trans rfl
  have qb := Lib.hid qb
  have hB := Lib.hid hB
  have hR := Lib.hid hR
  have hzb := Lib.hid hzb
  go_enter Try.func53, Try.ntmps53
  go_upto_region 1 with (fail)
  rw [← hwb.out]
  go_upto_region 2 with (first
  | (at_builtin
     refine wpList_copySecs rfl _ _ rfl wb (by rw [hzb.out]; rfl) so n sc st (by rfl) hsn.out hn.out (hr.out.below qb.out) (by omega) ?_
     intro co cc w1 ho b1 b2 b3
     have hB1 := hB.out.below b3 hB.out.lt
     have hR1 := Lib.hid (hR.out.below b3 hR.out.lt)
     have q1 := Lib.hid (qb.out.trans (b3.mono qb.out.size))
     have ho := Lib.hid (owns_low ho qb.out.size)
     have b1 := Lib.hid b1
     have b2 := Lib.hid b2
     have c1 : w1.cell? ⟨w.heap.size, 1, none⟩ = some (.slice po np pc) := (hB1.cell 1).trans rfl
     have hB1 := Lib.hid hB1
     clear b3 c0))
  go_wp2
  have hlen0 : ∀ x, (putAll st x).length = n := fun x => by rw [putAll_length, hn.out]
  have hlen0 := Lib.hid hlen0
  go_loopw [17] (fun j wr => ∃ (k : Nat) (ss : List Sec), k ≤ np ∧ j = .int .i64 k ∧ Hid (ss = putAll st (DevM.kept kf (ps.take k))) ∧ Hid (wr.ownsRow w.heap.size 34 128 (.slice co n cc) n (rowsL secL ss)) ∧ Hid (Blk wr w.heap.size 47 (devL so n sc po np pc ops f dd)) ∧ Hid (Blk wr (w.heap.size + 1) 47 (devL none 0 0 none 0 0 0 0 false)) ∧ Hid (Below w.heap.size w wr))
    (fun j _ => np - (intOf j).toNat)
  case atStart => exact ⟨0, st, by omega, rfl, Lib.hid rfl, ho, hB1, hR1, q1⟩
  case round =>
    clear ho hB1 hR1 q1 c1
    obtain ⟨k, ss, hk', rfl, hss, ho, hB1, hR1, hb⟩ := hrel
    have hsl := Lib.hid (show ss.length = n by rw [hss.out]; exact hlen0.out _)
    have hbs := hb.out.size
    by_cases hlt : k < np
    · obtain ⟨b, off, rfl, hbb, hrow⟩ := (hp.out.below hb.out).rangeRow wrL_length (by omega) (k := k) (by rw [hnp.out]; exact hlt)
      obtain ⟨p, hpk⟩ : ∃ p : Nat × Sec, Hid (p = ps[k]'(by rw [hnp.out]; exact hlt)) := ⟨_, Lib.hid rfl⟩
      have hpn : p.1 < n := by rw [hpk.out]; exact hat.out _ (List.getElem_mem _)
      have hstep := kept_step kf st ps k (by rw [hnp.out]; exact hlt)
      rw [← hpk.out, ← hss.out] at hstep
      rw [← hpk.out] at hrow
      have hstep := Lib.hid hstep
      have hrow := Lib.hid hrow
      obtain ⟨g, tail, rfl, hgb, hG, hback⟩ := owns_open ho.out hsl.out (by omega)
      have hpl := Lib.hid (show p.1 < ss.length by rw [hsl.out]; exact hpn)
      have hlen : p.1 * 128 + (secL p.2).length ≤ (rowsL secL ss ++ tail).length := by
        have h2 : (p.1 + 1) * 128 ≤ ss.length * 128 := Nat.mul_le_mul_right _ hpl.out
        rw [List.length_append, rowsL_length secL_length, secL_length]; omega
      have hlen := Lib.hid hlen
      have hne0 := Lib.hid (hB1.out.ne hG (by decide))
      have hne1 := Lib.hid (hR1.out.ne hG (by decide))
      have hgl := hG.lt
      have hbl0 := hB1.out.lt
      have hbl1 := hR1.out.lt
      have hgb := Lib.hid hgb
      have hG := Lib.hid hG
      have hback := Lib.hid hback
      have i0 : (0 : Int) ≤ (k : Int) := by omega
      have i1 : (k : Int) < (np : Int) := by omega
      have i2 : (0 : Int) ≤ (p.1 : Int) := by omega
      have i3 : (p.1 : Int) < (n : Int) := by omega
      cases all
      · by_cases hkb : k < nb
        · obtain ⟨b2, off2, rfl, hc⟩ := hk.out k (by rw [boolsV_length, hnb.out]; exact hkb)
          obtain ⟨x, hx⟩ : ∃ x, Hid (bs.getD k false = x) := ⟨_, Lib.hid rfl⟩
          have hc' : w.cell? ⟨b2, off2 + k, none⟩ = some (.bool x) := by
            rw [hc, ← hx.out]
            simp [boolsV, List.getD_eq_getElem?_getD, hnb.out, hkb]
          have hcl := cell_lt hc'
          have hc2 : wr.cell? ⟨b2, off2 + k, none⟩ = some (.bool x) := (hb.out.cell hcl).trans hc'
          have hcl2 := cell_lt hc2
          have i4 : (k : Int) < (nb : Int) := by omega
          have hc2 := Lib.hid hc2
          clear hc hc' hcl
          have hkk : kf k = x := by rw [hkf.out, hx.out]; rfl
          cases x
          · have hno := Lib.hid (hstep.out.trans (if_neg (by rw [hkk]; decide)))
            clear hkk
            go_upto_region 5 with (first
              | ((with_reducible refine guardList ?_); refine wantList_load (by rfl) 121 _ rfl b (off + k * 129) (by rfl) (wrL p) _ hrow.out Try.underlying121 rfl (infoRw _) ?_)
              | ((with_reducible refine guardList ?_)
                 refine wantList_store (by rfl) 121 _ _ rfl wr.heap.size 0 (by rfl) (wrL p) (by rfl) _ (wrL (0, sec0)) (wrL p) (Blk.new _ _ _) (by simp [wrL_length]) (wrL_one _) (infoRw _) (whole_new (by simp [wrL_length])) ?_
                 intro w4 hA4 k4 z4
                 have ho4 := Lib.hid (owns_kept (World.ownsRow.alloc ho.out (.cells (wrL (0, sec0)).toArray 121)) k4 (fun g9 hg9 e9 => by have := (World.ownsRow.lt ho.out g9 hg9).2; omega))
                 have hB4 := Lib.hid (hB1.out.alloc (.cells (wrL (0, sec0)).toArray 121) |>.kept k4 (by omega))
                 have hR4 := Lib.hid (hR1.out.alloc (.cells (wrL (0, sec0)).toArray 121) |>.kept k4 (by omega))
                 have hG4 := Lib.hid (hG.out.alloc (.cells (wrL (0, sec0)).toArray 121) |>.kept k4 (by omega))
                 have q4 := Lib.hid (Kept.out (hb.out.alloc hbs _) k4 (fun i _ e => by omega) (by simp; omega))
                 have d0 := wr_c0 hA4
                 have r4 := Lib.hid (wr_r1 hA4)
                 have c9 : w4.cell? ⟨b2, off2 + k, none⟩ = some (.bool false) := (k4.cell (by simpa using Nat.lt_succ_of_lt hcl2) (by omega)).trans (cell_alloc hc2.out _)
                 clear k4 z4 hA4))
            go_wp2
            go_roundw
            case rel => exact ⟨k + 1, ss, by omega, by go_num, Lib.hid hno.out.symm, ho4, hB4, hR4, q4⟩
            case measure => simp [intOf] <;> omega
          · have hyes := Lib.hid (hstep.out.trans (if_pos hkk))
            clear hkk
            go_upto_region 5 with (first
              | ((with_reducible refine guardList ?_); refine wantList_load (by rfl) 121 _ rfl b (off + k * 129) (by rfl) (wrL p) _ hrow.out Try.underlying121 rfl (infoRw _) ?_)
              | ((with_reducible refine guardList ?_)
                 refine wantList_store (by rfl) 121 _ _ rfl wr.heap.size 0 (by rfl) (wrL p) (by rfl) _ (wrL (0, sec0)) (wrL p) (Blk.new _ _ _) (by simp [wrL_length]) (wrL_one _) (infoRw _) (whole_new (by simp [wrL_length])) ?_
                 intro w4 hA4 k4 z4
                 have ho4 := Lib.hid (owns_kept (World.ownsRow.alloc ho.out (.cells (wrL (0, sec0)).toArray 121)) k4 (fun g9 hg9 e9 => by have := (World.ownsRow.lt ho.out g9 hg9).2; omega))
                 have hB4 := Lib.hid (hB1.out.alloc (.cells (wrL (0, sec0)).toArray 121) |>.kept k4 (by omega))
                 have hR4 := Lib.hid (hR1.out.alloc (.cells (wrL (0, sec0)).toArray 121) |>.kept k4 (by omega))
                 have hG4 := Lib.hid (hG.out.alloc (.cells (wrL (0, sec0)).toArray 121) |>.kept k4 (by omega))
                 have q4 := Lib.hid (Kept.out (hb.out.alloc hbs _) k4 (fun i _ e => by omega) (by simp; omega))
                 have d0 := wr_c0 hA4
                 have r4 := Lib.hid (wr_r1 hA4)
                 have c9 : w4.cell? ⟨b2, off2 + k, none⟩ = some (.bool true) := (k4.cell (by simpa using Nat.lt_succ_of_lt hcl2) (by omega)).trans (cell_alloc hc2.out _)
                 clear k4 z4 hA4))
            go_wp2_with (first
              | ((with_reducible refine guardList ?_); refine wantList_load (by rfl) 34 _ rfl wr.heap.size 1 (by rfl) (secL p.2) _ r4.out Try.underlying34 rfl (infoSecL _) ?_)
              | ((with_reducible refine guardList ?_)
                 refine wantList_store (by rfl) 34 _ _ rfl g (p.1 * 128) (by rfl) (secL p.2) (by rfl) _ _ _ hG4.out hlen.out (secL_one _) (infoSecL _) (rows_put ss tail p.1 hpl.out p.2) ?_
                 intro w5 hG5 k5 z5
                 have ho5 := Lib.hid (hback.out w5 _ (by rw [List.length_set]; exact hsl.out) hG5)
                 have hB5 := Lib.hid (hB4.out.kept k5 hne0.out)
                 have hR5 := Lib.hid (hR4.out.kept k5 hne1.out)
                 have q5 := Lib.hid (Kept.out q4.out k5 (fun i _ e => by subst e; exact hgb.out) q4.out.size)
                 clear k5 z5))
            go_roundw
            case rel => exact ⟨k + 1, ss.set p.1 p.2, by omega, by go_num, Lib.hid hyes.out.symm, ho5, hB5, hR5, q5⟩
            case measure => simp [intOf] <;> omega
        · have hkk : kf k = false := by
            rw [hkf.out, List.getD_eq_getElem?_getD, List.getElem?_eq_none (by rw [hnb.out]; omega)]; rfl
          have hno := Lib.hid (hstep.out.trans (if_neg (by rw [hkk]; decide)))
          clear hkk
          go_upto_region 5 with (first
            | ((with_reducible refine guardList ?_); refine wantList_load (by rfl) 121 _ rfl b (off + k * 129) (by rfl) (wrL p) _ hrow.out Try.underlying121 rfl (infoRw _) ?_)
            | ((with_reducible refine guardList ?_)
               refine wantList_store (by rfl) 121 _ _ rfl wr.heap.size 0 (by rfl) (wrL p) (by rfl) _ (wrL (0, sec0)) (wrL p) (Blk.new _ _ _) (by simp [wrL_length]) (wrL_one _) (infoRw _) (whole_new (by simp [wrL_length])) ?_
               intro w4 hA4 k4 z4
               have ho4 := Lib.hid (owns_kept (World.ownsRow.alloc ho.out (.cells (wrL (0, sec0)).toArray 121)) k4 (fun g9 hg9 e9 => by have := (World.ownsRow.lt ho.out g9 hg9).2; omega))
               have hB4 := Lib.hid (hB1.out.alloc (.cells (wrL (0, sec0)).toArray 121) |>.kept k4 (by omega))
               have hR4 := Lib.hid (hR1.out.alloc (.cells (wrL (0, sec0)).toArray 121) |>.kept k4 (by omega))
               have hG4 := Lib.hid (hG.out.alloc (.cells (wrL (0, sec0)).toArray 121) |>.kept k4 (by omega))
               have q4 := Lib.hid (Kept.out (hb.out.alloc hbs _) k4 (fun i _ e => by omega) (by simp; omega))
               have d0 := wr_c0 hA4
               have r4 := Lib.hid (wr_r1 hA4)
               skip
               clear k4 z4 hA4))
          go_wp2
          go_roundw
          case rel => exact ⟨k + 1, ss, by omega, by go_num, Lib.hid hno.out.symm, ho4, hB4, hR4, q4⟩
          case measure => simp [intOf] <;> omega
      · have hkk : kf k = true := by rw [hkf.out]; rfl
        have hyes := Lib.hid (hstep.out.trans (if_pos hkk))
        clear hkk
        go_upto_region 5 with (first
          | ((with_reducible refine guardList ?_); refine wantList_load (by rfl) 121 _ rfl b (off + k * 129) (by rfl) (wrL p) _ hrow.out Try.underlying121 rfl (infoRw _) ?_)
          | ((with_reducible refine guardList ?_)
             refine wantList_store (by rfl) 121 _ _ rfl wr.heap.size 0 (by rfl) (wrL p) (by rfl) _ (wrL (0, sec0)) (wrL p) (Blk.new _ _ _) (by simp [wrL_length]) (wrL_one _) (infoRw _) (whole_new (by simp [wrL_length])) ?_
             intro w4 hA4 k4 z4
             have ho4 := Lib.hid (owns_kept (World.ownsRow.alloc ho.out (.cells (wrL (0, sec0)).toArray 121)) k4 (fun g9 hg9 e9 => by have := (World.ownsRow.lt ho.out g9 hg9).2; omega))
             have hB4 := Lib.hid (hB1.out.alloc (.cells (wrL (0, sec0)).toArray 121) |>.kept k4 (by omega))
             have hR4 := Lib.hid (hR1.out.alloc (.cells (wrL (0, sec0)).toArray 121) |>.kept k4 (by omega))
             have hG4 := Lib.hid (hG.out.alloc (.cells (wrL (0, sec0)).toArray 121) |>.kept k4 (by omega))
             have q4 := Lib.hid (Kept.out (hb.out.alloc hbs _) k4 (fun i _ e => by omega) (by simp; omega))
             have d0 := wr_c0 hA4
             have r4 := Lib.hid (wr_r1 hA4)
             skip
             clear k4 z4 hA4))
        go_wp2_with (first
          | ((with_reducible refine guardList ?_); refine wantList_load (by rfl) 34 _ rfl wr.heap.size 1 (by rfl) (secL p.2) _ r4.out Try.underlying34 rfl (infoSecL _) ?_)
          | ((with_reducible refine guardList ?_)
             refine wantList_store (by rfl) 34 _ _ rfl g (p.1 * 128) (by rfl) (secL p.2) (by rfl) _ _ _ hG4.out hlen.out (secL_one _) (infoSecL _) (rows_put ss tail p.1 hpl.out p.2) ?_
             intro w5 hG5 k5 z5
             have ho5 := Lib.hid (hback.out w5 _ (by rw [List.length_set]; exact hsl.out) hG5)
             have hB5 := Lib.hid (hB4.out.kept k5 hne0.out)
             have hR5 := Lib.hid (hR4.out.kept k5 hne1.out)
             have q5 := Lib.hid (Kept.out q4.out k5 (fun i _ e => by subst e; exact hgb.out) q4.out.size)
             clear k5 z5))
        go_roundw
        case rel => exact ⟨k + 1, ss.set p.1 p.2, by omega, by go_num, Lib.hid hyes.out.symm, ho5, hB5, hR5, q5⟩
        case measure => simp [intOf] <;> omega
    · obtain rfl : k = np := by omega
      rw [List.take_of_length_le (by have := hnp.out; omega)] at hss
      have c0 : wr.cell? ⟨w.heap.size, 0, none⟩ = some (.slice so n sc) := (hB1.out.cell 0).trans rfl
      have c1 : wr.cell? ⟨w.heap.size, 1, none⟩ = some (.slice po k pc) := (hB1.out.cell 1).trans rfl
      have f0 := hB1.out.frozen 0
      have f1 := hB1.out.frozen 1
      go_upto_region 10 with (fail)
      have hBz : Blk ((wr.setCell ⟨w.heap.size, 0, none⟩ (.slice co n cc)).setCell ⟨w.heap.size, 1, none⟩ (.slice none 0 0)) w.heap.size 47 (devL co n cc none 0 0 ops f dd) := (hB1.out.set 0 (.slice co n cc)).set 1 (.slice none 0 0)
      have hRz := (hR1.out.far (p := ⟨w.heap.size, 0, none⟩) (by show w.heap.size + 1 ≠ w.heap.size; omega) (.slice co n cc)).far (p := ⟨w.heap.size, 1, none⟩) (by show w.heap.size + 1 ≠ w.heap.size; omega) (.slice none 0 0)
      have kz := (Kept.cellAt wr w.heap.size 0 (.slice co n cc)).trans (Kept.cellAt _ w.heap.size 1 (.slice none 0 0))
      have qz := Lib.hid (Kept.out hb.out kz (fun i _ e => by omega) hbs)
      have hoz := Lib.hid (owns_kept ho.out kz (fun g9 hg9 e9 => Own.ne_blk ho.out hB1.out (by decide) (e9 ▸ hg9)))
      have hrz := Lib.hid (hBz.range (o := 0) (xs := devL co n cc none 0 0 ops f dd) (fun j v hv => by simpa using hv))
      have hRz := Lib.hid hRz
      clear hBz kz c0 c1 f0 f1
      go_wp2_with (first
        | ((with_reducible refine guardList ?_); refine wantList_load (by rfl) 47 _ rfl w.heap.size 0 (by rfl) (devL co n cc none 0 0 ops f dd) _ hrz.out Try.underlying47 rfl infoDev5 ?_)
        | ((with_reducible refine guardList ?_)
           refine wantList_store (by rfl) 47 _ _ rfl (w.heap.size + 1) 0 (by rfl) (devL co n cc none 0 0 ops f dd) (by rfl) _ (devL none 0 0 none 0 0 0 0 false) (devL co n cc none 0 0 ops f dd) hRz.out (Nat.le_of_eq rfl) devL_one infoDev5 (whole_new rfl) ?_
           intro w5 hR5 k5 z5
           have hR5 := Lib.hid hR5
           have ho5 := Lib.hid (owns_kept hoz.out k5 (fun g9 hg9 e9 => Own.ne_blk hoz.out hRz.out (by decide) (e9 ▸ hg9)))
           have q5 := Lib.hid (Kept.out qz.out k5 (fun i _ e => by omega) qz.out.size)
           clear k5 z5))
      refine bodyPost_ret (results_row rfl (rowDev hR5.out)) rfl ⟨co, cc, rfl, ?_, b1.out, b2.out, fun a ha => (World.ownsRow.lt ho5.out a.block (by rw [ha]; rfl)).1, q5.out⟩
      rw [← hss.out]
      exact owns_reads ho5.out
end Go.Proofs.Ytfblehdeoloijaa

/- The document's own device: Flush, Crash. -/
namespace Go.Proofs.Ytfblehdeoloijaa
open Go.ChangeShapes Go.WideShapes Go.ChangeAt Go.RowKit
set_option linter.unusedVariables false
set_option maxRecDepth 20000

theorem whole_dev {so so' : Option Addr} {n sc n' sc' : Nat} {po po' : Option Addr} {np pc np' pc' : Nat} {ops f ops' f' : Int} {dd dd' : Bool} :
    devL so n sc po np pc ops f dd = (devL so' n' sc' po' np' pc' ops' f' dd').take 0 ++ devL so n sc po np pc ops f dd ++ (devL so' n' sc' po' np' pc' ops' f' dd').drop (0 + (devL so n sc po np pc ops f dd).length) := rfl
theorem range_dev {w : World} {g : Nat} {t : TypeId} {cs : List Value} (h : Blk w g t cs) : w.rangeAt g 0 cs := h.range fun j v hv => by simpa using hv
def ref0 : List Value := devL none 0 0 none 0 0 0 0 false

set_option maxHeartbeats 1000000 in
theorem rFlush_no (so : Option Addr) (n sc : Nat) (po : Option Addr) (np pc : Nat) (ops f : Int) (dd : Bool) (ho : 0 ≤ ops ∧ ops < 4611686018427387904) (h : dd = true ∨ f = 0) (w : World) :
    Calls Try.prog 49 #[.agg #[.slice so n sc, .slice po np pc, .int .i64 ops, .int .i64 f, .bool dd]] w fun e w' =>
      e = .returned (.tuple #[.agg (devL so n sc po np pc (ops + 1) f true).toArray, .int .i64 42]) ∧ Below w.heap.size w w' := by
  obtain ⟨ho1, ho2⟩ := ho
  have hp := power_no so n sc po np pc (ops + 1) f dd h
  clear h
  have hp := Lib.hid hp
  go_enter Try.func49, Try.ntmps49
  go_wp2_with fail
  refine (hp.out _).mono ?_
  rintro e w1 ⟨rfl, b1⟩
  have hB1 := Lib.hid (blk_out ((Blk.new w 47 (devL so n sc po np pc (ops + 1) f dd)).alloc _) b1)
  have hR1 := Lib.hid (blk_out (two_new w _ 47 (devL none 0 0 none 0 0 0 0 false)) b1)
  have q1 := Lib.hid ((two_below w _ _).trans (b1.mono (by simp; omega)))
  clear b1
  go_wp2_with (first
  | ((with_reducible refine guardList ?_)
     refine wantList_store (by rfl) 47 _ _ rfl (w.heap.size) 0 (by rfl) (devL so n sc po np pc (ops + 1) f true) (by rfl) _ (devL so n sc po np pc (ops + 1) f dd) (devL so n sc po np pc (ops + 1) f true) hB1.out (Nat.le_of_eq rfl) devL_one infoDev5 whole_dev ?_
     intro w2 hB2 k2 z2
     have hB2 := Lib.hid hB2
     have hR2 := Lib.hid (hR1.out.kept k2 (by omega))
     have q2 := Lib.hid (Kept.out q1.out k2 (fun i _ e => by omega) q1.out.size)
     clear k2 z2)
  | ((with_reducible refine guardList ?_); refine wantList_load (by rfl) 47 _ rfl (w.heap.size) 0 (by rfl) (devL so n sc po np pc (ops + 1) f true) _ (range_dev hB2.out) Try.underlying47 rfl infoDev5 ?_)
  | ((with_reducible refine guardList ?_)
     refine wantList_store (by rfl) 47 _ _ rfl (w.heap.size + 1) 0 (by rfl) (devL so n sc po np pc (ops + 1) f true) (by rfl) _ (devL none 0 0 none 0 0 0 0 false) (devL so n sc po np pc (ops + 1) f true) hR2.out (Nat.le_of_eq rfl) devL_one infoDev5 whole_dev ?_
     intro w3 hR3 k3 z3
     have hR3 := Lib.hid hR3
     have q3 := Lib.hid (Kept.out q2.out k3 (fun i _ e => by omega) q2.out.size)
     clear k3 z3))
  refine bodyPost_ret (results_row_tmp rfl (rowDev hR3.out)) rfl ⟨rfl, q3.out⟩

set_option maxHeartbeats 1000000 in
theorem rFlush_yes (so : Option Addr) (st : List Sec) (n sc : Nat) (hn : Hid (st.length = n)) (hsn : so = none → sc = 0) (po : Option Addr) (ps : List (Nat × Sec)) (np pc : Nat) (hnp : Hid (ps.length = np)) (ops f f' : Int) (ho : 0 ≤ ops ∧ ops < 4611686018427387904) (h0 : f ≠ 0) (hf : -1 ≤ f ∧ f ≤ 9223372036854775807) (he : Hid (f' = refLeft f))
    (hle : n ≤ 1024) (hlp : np ≤ 1000000000) (hat : Hid (∀ p ∈ ps, p.1 < n)) (w : World) (hr : Reads w so (rowsL secL st)) (hps : Reads w po (rowsL wrL ps)) :
    Calls Try.prog 49 #[.agg #[.slice so n sc, .slice po np pc, .int .i64 ops, .int .i64 f, .bool false]] w fun e w' => ∃ so' sc', 
      e = .returned (.tuple #[.agg (devL so' n sc' none 0 0 (ops + 1) f' false).toArray, .int .i64 0]) ∧ Reads w' so' (rowsL secL (putAll st ps)) ∧ n ≤ sc' ∧ (so' = none → sc' = 0) ∧ (∀ a, so' = some a → w.heap.size ≤ a.block) ∧ Below w.heap.size w w' := by
  obtain ⟨ho1, ho2⟩ := ho
  have hp := power_yes so n sc po np pc (ops + 1) f f' h0 hf he
  have ha := fun w hr hps => apply_any so st n sc hn hsn po ps np pc hnp (ops + 1) f' false true none [] 0 0 (Lib.hid rfl) (by omega) hle hlp hat w hr hps (Reads.nil _ _) (fun _ => true) (Lib.hid fun _ => rfl)
  rw [kept_true] at ha
  have ha := Lib.hid ha
  have hr := Lib.hid hr
  have hps := Lib.hid hps
  have hsn := Lib.hid hsn
  clear h0 hf
  have hp := Lib.hid hp
  go_enter Try.func49, Try.ntmps49
  go_wp2_with fail
  refine (hp.out _).mono ?_
  rintro e w1 ⟨rfl, b1⟩
  have hB1 := Lib.hid (blk_out ((Blk.new w 47 (devL so n sc po np pc (ops + 1) f false)).alloc _) b1)
  have hR1 := Lib.hid (blk_out (two_new w _ 47 (devL none 0 0 none 0 0 0 0 false)) b1)
  have q1 := Lib.hid ((two_below w _ _).trans (b1.mono (by simp; omega)))
  clear b1
  go_upto_region 5 with (first
  | ((with_reducible refine guardList ?_)
     refine wantList_store (by rfl) 47 _ _ rfl (w.heap.size) 0 (by rfl) (devL so n sc po np pc (ops + 1) f' false) (by rfl) _ (devL so n sc po np pc (ops + 1) f false) (devL so n sc po np pc (ops + 1) f' false) hB1.out (Nat.le_of_eq rfl) devL_one infoDev5 whole_dev ?_
     intro w2 hB2 k2 z2
     have hB2 := Lib.hid hB2
     have hR2 := Lib.hid (hR1.out.kept k2 (by omega))
     have q2 := Lib.hid (Kept.out q1.out k2 (fun i _ e => by omega) q1.out.size)
     clear k2 z2))
  go_wp2_with (first
  | ((with_reducible refine guardList ?_); refine wantList_load (by rfl) 47 _ rfl (w.heap.size) 0 (by rfl) (devL so n sc po np pc (ops + 1) f' false) _ (range_dev hB2.out) Try.underlying47 rfl infoDev5 ?_)
  | fail)
  refine (ha.out _ (hr.out.below q2.out) (hps.out.below q2.out)).mono ?_
  rintro e w4 ⟨so', sc', rfl, hr4, hs4, hn4, hF4, b4⟩
  have hR4 := Lib.hid (blk_out hR2.out b4)
  have q4 := Lib.hid (q2.out.trans (b4.mono q2.out.size))
  have hr4 := Lib.hid hr4
  have hn4 := Lib.hid hn4
  have hlt4 := hR2.out.lt
  have hF4 := Lib.hid hF4
  clear b4
  go_wp2_with (first
  | ((with_reducible refine guardList ?_)
     refine wantList_store (by rfl) 47 _ _ rfl (w.heap.size + 1) 0 (by rfl) (devL so' n sc' none 0 0 (ops + 1) f' false) (by rfl) _ (devL none 0 0 none 0 0 0 0 false) (devL so' n sc' none 0 0 (ops + 1) f' false) hR4.out (Nat.le_of_eq rfl) devL_one infoDev5 whole_dev ?_
     intro w3 hR3 k3 z3
     have hR3 := Lib.hid hR3
     have q3 := Lib.hid (Kept.out q4.out k3 (fun i _ e => by omega) q4.out.size)
     have hr5 := Lib.hid (hr4.out.keptF k3 (fun a ha e => by have := hF4.out a ha; omega))
     clear k3 z3))
  refine bodyPost_ret (results_row_tmp rfl (rowDev hR3.out)) rfl ⟨so', sc', rfl, hr5.out, hs4, hn4.out, fun a ha => Nat.le_trans q2.out.size (hF4.out a ha), q3.out⟩
end Go.Proofs.Ytfblehdeoloijaa

/- The document's own device: Crash. -/
namespace Go.Proofs.Ytfblehdeoloijaa
open Go.ChangeShapes Go.WideShapes Go.ChangeAt Go.RowKit
set_option linter.unusedVariables false
set_option maxRecDepth 20000

set_option maxHeartbeats 1000000 in
theorem rCrash_any (so : Option Addr) (st : List Sec) (n sc : Nat) (hn : Hid (st.length = n)) (hsn : so = none → sc = 0) (po : Option Addr) (ps : List (Nat × Sec)) (np pc : Nat) (hnp : Hid (ps.length = np)) (ops f : Int) (dd : Bool) (ko : Option Addr) (bs : List Bool) (nb kc : Nat) (hnb : Hid (bs.length = nb)) (hbl : nb ≤ 9223372036854775807)
    (hle : n ≤ 1024) (hlp : np ≤ 1000000000) (hat : Hid (∀ p ∈ ps, p.1 < n)) (w : World) (hr : Reads w so (rowsL secL st)) (hps : Reads w po (rowsL wrL ps)) (hk : Reads w ko (boolsV bs)) (st' : List Sec) (hst : Hid (st' = putAll st (DevM.kept (fun k => bs.getD k false) ps))) :
    Calls Try.prog 24 #[.agg #[.slice so n sc, .slice po np pc, .int .i64 ops, .int .i64 f, .bool dd], .slice ko nb kc] w fun e w' => ∃ so' sc', 
      e = .returned (.agg (devL so' n sc' none 0 0 ops (-1) false).toArray) ∧ Reads w' so' (rowsL secL st') ∧ n ≤ sc' ∧ (so' = none → sc' = 0) ∧ (∀ a, so' = some a → w.heap.size ≤ a.block) ∧ Below w.heap.size w w' := by
  have ha := fun w hr hps hk => apply_any so st n sc hn hsn po ps np pc hnp ops f dd false ko bs nb kc hnb hbl hle hlp hat w hr hps hk (fun k => bs.getD k false) (Lib.hid fun _ => rfl)
  rw [← hst.out] at ha
  have ha := Lib.hid ha
  have hr := Lib.hid hr
  have hps := Lib.hid hps
  have hk := Lib.hid hk
  have hsn := Lib.hid hsn
  go_enter Try.func24, Try.ntmps24
  go_wp2_with fail
  have q0 := two_below w (.cells #[.slice so n sc, .slice po np pc, .int .i64 ops, .int .i64 f, .bool dd] 47) (.cells #[.slice none 0 0, .slice none 0 0, .int .i64 0, .int .i64 0, .bool false] 47)
  refine (ha.out _ (hr.out.below q0) (hps.out.below q0) (hk.out.below q0)).mono ?_
  rintro e w1 ⟨so', sc', rfl, hr1, hs1, hn1, hF1, b1⟩
  have hB1 := Lib.hid (blk_out ((Blk.new w 47 (devL so n sc po np pc ops f dd)).alloc _) b1)
  have hR1 := Lib.hid (blk_out (two_new w _ 47 (devL none 0 0 none 0 0 0 0 false)) b1)
  have q1 := Lib.hid (q0.trans (b1.mono (by simp; omega)))
  have hF1 : Hid (∀ a, so' = some a → w.heap.size + 2 ≤ a.block) := Lib.hid fun a ha => by have := hF1 a ha; simp at this; omega
  have hr1 := Lib.hid hr1
  have hn1 := Lib.hid hn1
  clear b1 q0
  go_upto_region 2 with (first
  | ((with_reducible refine guardList ?_)
     refine wantList_store (by rfl) 47 _ _ rfl (w.heap.size) 0 (by rfl) (devL so' n sc' none 0 0 ops f dd) (by rfl) _ (devL so n sc po np pc ops f dd) (devL so' n sc' none 0 0 ops f dd) hB1.out (Nat.le_of_eq rfl) devL_one infoDev5 whole_dev ?_
     intro w2 hB2 k2 z2
     have hR2 := Lib.hid (hR1.out.kept k2 (by omega))
     have q2 := Lib.hid (Kept.out q1.out k2 (fun i _ e => by omega) q1.out.size)
     have hr2 := Lib.hid (hr1.out.keptF k2 (fun a ha e => by have := hF1.out a ha; omega))
     have c3 : w2.cell? ⟨w.heap.size, 3, none⟩ = some (.int .i64 f) := (hB2.cell 3).trans rfl
     have c4 : w2.cell? ⟨w.heap.size, 4, none⟩ = some (.bool dd) := (hB2.cell 4).trans rfl
     have f3 := hB2.frozen 3
     have f4 := hB2.frozen 4
     have hB2 := Lib.hid hB2
     clear k2 z2))
  go_upto_region 4 with (fail)
  have hB3 : Blk ((w2.setCell ⟨w.heap.size, 3, none⟩ (.int .i64 (-1))).setCell ⟨w.heap.size, 4, none⟩ (.bool false)) w.heap.size 47 (devL so' n sc' none 0 0 ops (-1) false) := (hB2.out.set 3 (.int .i64 (-1))).set 4 (.bool false)
  have k3 := (Kept.cellAt w2 w.heap.size 3 (.int .i64 (-1))).trans (Kept.cellAt _ w.heap.size 4 (.bool false))
  have hR3 := Lib.hid (hR2.out.kept k3 (by omega))
  have hr3 := Lib.hid (hr2.out.keptF k3 (fun a ha e => by have := hF1.out a ha; omega))
  have q3 := Lib.hid (Kept.out q2.out k3 (fun i _ e => by omega) q2.out.size)
  have hB3 := Lib.hid hB3
  clear k3 c3 c4 f3 f4
  go_wp2_with (first
  | ((with_reducible refine guardList ?_); refine wantList_load (by rfl) 47 _ rfl (w.heap.size) 0 (by rfl) (devL so' n sc' none 0 0 ops (-1) false) _ (range_dev hB3.out) Try.underlying47 rfl infoDev5 ?_)
  | ((with_reducible refine guardList ?_)
     refine wantList_store (by rfl) 47 _ _ rfl (w.heap.size + 1) 0 (by rfl) (devL so' n sc' none 0 0 ops (-1) false) (by rfl) _ (devL none 0 0 none 0 0 0 0 false) (devL so' n sc' none 0 0 ops (-1) false) hR3.out (Nat.le_of_eq rfl) devL_one infoDev5 whole_dev ?_
     intro w4 hR4 k4 z4
     have hR4 := Lib.hid hR4
     have hr4 := Lib.hid (hr3.out.keptF k4 (fun a ha e => by have := hF1.out a ha; omega))
     have q4 := Lib.hid (Kept.out q3.out k4 (fun i _ e => by omega) q3.out.size)
     clear k4 z4))
  refine bodyPost_ret (results_row rfl (rowDev hR4.out)) rfl ⟨so', sc', rfl, hr4.out, hs1, hn1.out, fun a ha => by have := hF1.out a ha; omega, q4.out⟩
end Go.Proofs.Ytfblehdeoloijaa

/- The document's own device: Put. -/
namespace Go.Proofs.Ytfblehdeoloijaa
open Go.ChangeShapes Go.WideShapes Go.ChangeAt Go.RowKit
set_option linter.unusedVariables false
set_option maxRecDepth 20000

theorem infoRw3 : (Try.prog.info? 121).map (fun i => (i.zero, i.size, i.bytes)) = some (some (.agg (wrL (0, sec0)).toArray), 129, 136) := by kernel_rfl
theorem zeroRwL (p : Nat × Sec) : ((Try.prog.info? 121).bind (·.zero)).map (·.cells.size) = some (wrL p).length := by
  rw [wrL_length]; kernel_rfl
theorem zeroSecL4 (s : Sec) : ((Try.prog.info? 34).bind (·.zero)).map (·.cells.size) = some (secL s).length := by
  rw [secL_length]; kernel_rfl
theorem built_rw (i : Nat) (s : Sec) : Try.prog.built 121 [(0, .int .i64 (i : Int)), (1, .agg (secL s).toArray)] = some (wrL (i, s)).toArray := by
  have h1 : Try.prog.built 121 [(0, .int .i64 (i : Int)), (1, .agg (secL s).toArray)] = Instr.fill (#[(0, 1), (1, 128)][·]?) (wrL (0, sec0)).toArray [(0, .int .i64 (i : Int)), (1, .agg (secL s).toArray)] := by kernel_rfl
  rw [h1, fill_cons _ _ 0 _ _ 0 [.int .i64 (i : Int)] rfl rfl (by simp [wrL_length]), fill_cons _ _ 1 _ _ 1 (secL s) (by simp [secL_length]) rfl (by simp [wrL, secL_length]), fill_nil]
  simp [wrL, secL_length]
section
variable {ops : Array Oper} {rest : List Oper} {o : Oper} {a : Act} {Q : Exit → Act → World → Prop}
theorem wpList_copyWrs (hgd : o.guard = none) (s x : Operand) (ho : o.op = .call { callee := .builtin .append, args := #[s, x], argTypes := #[45, 45] })
    (w : World) (hs : a.eval s = .slice (some ⟨w.heap.size, 0, none⟩) 0 0) (ao : Option Addr) (m c : Nat) (st : List (Nat × Sec)) (hx : a.eval x = .slice ao m c) (hnil : ao = none → c = 0) (hl : st.length = m) (hr : Reads w ao (rowsL wrL st)) (hm : m ≤ 1000000000)
    (h : ∀ co cc w', w'.ownsRow w.heap.size 121 129 (.slice co m cc) m (rowsL wrL st) → m ≤ cc → (co = none → cc = 0) → Below w.heap.size w w' → wpList Try.prog ops Q rest (a.put o.dst (.slice co m cc)) w') :
    wpList Try.prog ops Q (o :: rest) a (w.alloc (.cells #[] 121)) := by
  obtain ⟨i0, hi0, hz0, hz1, hz2⟩ := info_parts infoRw3
  have hzs : (Value.agg (wrL (0, sec0)).toArray).cells.size = 129 := List.size_toArray.trans (wrL_length _)
  exact wpList_copyN hgd s x 45 ho 121 i0 _ 129 136 Try.underlying45 hi0 hz0 hz1 hz2 hzs (by omega) w hs ao m c (rowsL wrL st) hx hnil (by rw [rowsL_length wrL_length, hl]) hr (rowsL_one_cell wrL_one _) (by omega) (by omega) h
end
theorem three_at (w : World) (o o' : Obj) (t : TypeId) (cs : List Value) : Blk (((w.alloc o).alloc o').alloc (.cells cs.toArray t)) (w.heap.size + 2) t cs := by
  have := Blk.new ((w.alloc o).alloc o') t cs
  simpa using this

set_option maxHeartbeats 1000000 in
theorem rPut_out (so : Option Addr) (n sc : Nat) (po : Option Addr) (np pc : Nat) (ops f : Int) (dd : Bool) (ho : 0 ≤ ops ∧ ops < 4611686018427387904) (i : Int) (hi : I64 i) (hle : n ≤ 1024) (s : Sec) (hh : (decide (0 ≤ i) && decide (i < (n : Int))) = false) (w : World) :
    Calls Try.prog 50 #[.agg #[.slice so n sc, .slice po np pc, .int .i64 ops, .int .i64 f, .bool dd], .int .i64 i, .agg (secL s).toArray] w fun e w' =>
      e = .returned (.tuple #[.agg (devL so n sc po np pc (ops + 1) f dd).toArray, .int .i64 41]) ∧ Below w.heap.size w w' := by
  obtain ⟨ho1, ho2⟩ := ho
  have ht := There_any so n sc (.slice po np pc) (.int .i64 (ops + 1)) (.int .i64 f) (.bool dd) i hi hle
  rw [hh] at ht
  have ht := Lib.hid ht
  go_enter Try.func50, Try.ntmps50
  go_wp2_with fail
  refine (ht.out _).mono ?_
  rintro e w1 ⟨rfl, b1⟩
  have hB1 := Lib.hid (blk_out (((Blk.new w 47 (devL so n sc po np pc (ops + 1) f dd)).alloc _).alloc _) b1)
  have hS1 := Lib.hid (blk_out ((two_new w _ 34 (secL s)).alloc _) b1)
  have hR1 := Lib.hid (blk_out (three_at w _ _ 47 (devL none 0 0 none 0 0 0 0 false)) b1)
  have q1 := Lib.hid ((three_below w _ _ _).trans (b1.mono (by simp; omega)))
  clear b1
  go_wp2_with (first
  | ((with_reducible refine guardList ?_); refine wantList_load (by rfl) 47 _ rfl (w.heap.size) 0 (by rfl) (devL so n sc po np pc (ops + 1) f dd) _ (range_dev hB1.out) Try.underlying47 rfl infoDev5 ?_)
  | ((with_reducible refine guardList ?_)
     refine wantList_store (by rfl) 47 _ _ rfl (w.heap.size + 2) 0 (by rfl) (devL so n sc po np pc (ops + 1) f dd) (by rfl) _ (devL none 0 0 none 0 0 0 0 false) (devL so n sc po np pc (ops + 1) f dd) hR1.out (Nat.le_of_eq rfl) devL_one infoDev5 whole_dev ?_
     intro w3 hR3 k3 z3
     have hR3 := Lib.hid hR3
     have q3 := Lib.hid (Kept.out q1.out k3 (fun i _ e => by omega) q1.out.size)
     clear k3 z3))
  refine bodyPost_ret (results_row_tmp rfl (rowDev hR3.out)) rfl ⟨rfl, q3.out⟩

set_option maxHeartbeats 1000000 in
theorem rPut_no (so : Option Addr) (n sc : Nat) (po : Option Addr) (np pc : Nat) (ops f : Int) (dd : Bool) (ho : 0 ≤ ops ∧ ops < 4611686018427387904) (i : Int) (hi : I64 i) (hle : n ≤ 1024) (s : Sec) (hh : (decide (0 ≤ i) && decide (i < (n : Int))) = true) (h : dd = true ∨ f = 0) (w : World) :
    Calls Try.prog 50 #[.agg #[.slice so n sc, .slice po np pc, .int .i64 ops, .int .i64 f, .bool dd], .int .i64 i, .agg (secL s).toArray] w fun e w' =>
      e = .returned (.tuple #[.agg (devL so n sc po np pc (ops + 1) f true).toArray, .int .i64 42]) ∧ Below w.heap.size w w' := by
  obtain ⟨ho1, ho2⟩ := ho
  have ht := There_any so n sc (.slice po np pc) (.int .i64 (ops + 1)) (.int .i64 f) (.bool dd) i hi hle
  rw [hh] at ht
  have ht := Lib.hid ht
  have hp := Lib.hid (power_no so n sc po np pc (ops + 1) f dd h)
  clear h
  go_enter Try.func50, Try.ntmps50
  go_wp2_with fail
  refine (ht.out _).mono ?_
  rintro e w1 ⟨rfl, b1⟩
  have hB1 := Lib.hid (blk_out (((Blk.new w 47 (devL so n sc po np pc (ops + 1) f dd)).alloc _).alloc _) b1)
  have hS1 := Lib.hid (blk_out ((two_new w _ 34 (secL s)).alloc _) b1)
  have hR1 := Lib.hid (blk_out (three_at w _ _ 47 (devL none 0 0 none 0 0 0 0 false)) b1)
  have q1 := Lib.hid ((three_below w _ _ _).trans (b1.mono (by simp; omega)))
  clear b1
  go_wp2_with (first
  | ((with_reducible refine guardList ?_); refine wantList_load (by rfl) 47 _ rfl (w.heap.size) 0 (by rfl) (devL so n sc po np pc (ops + 1) f dd) _ (range_dev hB1.out) Try.underlying47 rfl infoDev5 ?_)
  | fail)
  refine (hp.out _).mono ?_
  rintro e w2 ⟨rfl, b2⟩
  have hB2 := Lib.hid (blk_out hB1.out b2)
  have hR2 := Lib.hid (blk_out hR1.out b2)
  have q2 := Lib.hid (q1.out.trans (b2.mono q1.out.size))
  clear b2
  go_wp2_with (first
  | ((with_reducible refine guardList ?_)
     refine wantList_store (by rfl) 47 _ _ rfl (w.heap.size) 0 (by rfl) (devL so n sc po np pc (ops + 1) f true) (by rfl) _ (devL so n sc po np pc (ops + 1) f dd) (devL so n sc po np pc (ops + 1) f true) hB2.out (Nat.le_of_eq rfl) devL_one infoDev5 whole_dev ?_
     intro w3 hB3 k2 z2
     have hB3 := Lib.hid hB3
     have hR3 := Lib.hid (hR2.out.kept k2 (by omega))
     have q3 := Lib.hid (Kept.out q2.out k2 (fun i _ e => by omega) q2.out.size)
     clear k2 z2)
  | ((with_reducible refine guardList ?_); refine wantList_load (by rfl) 47 _ rfl (w.heap.size) 0 (by rfl) (devL so n sc po np pc (ops + 1) f true) _ (range_dev hB3.out) Try.underlying47 rfl infoDev5 ?_)
  | ((with_reducible refine guardList ?_)
     refine wantList_store (by rfl) 47 _ _ rfl (w.heap.size + 2) 0 (by rfl) (devL so n sc po np pc (ops + 1) f true) (by rfl) _ (devL none 0 0 none 0 0 0 0 false) (devL so n sc po np pc (ops + 1) f true) hR3.out (Nat.le_of_eq rfl) devL_one infoDev5 whole_dev ?_
     intro w4 hR4 k3 z3
     have hR4 := Lib.hid hR4
     have q4 := Lib.hid (Kept.out q3.out k3 (fun i _ e => by omega) q3.out.size)
     clear k3 z3))
  refine bodyPost_ret (results_row_tmp rfl (rowDev hR4.out)) rfl ⟨rfl, q4.out⟩
end Go.Proofs.Ytfblehdeoloijaa

/- The document's own device: Put. -/
namespace Go.Proofs.Ytfblehdeoloijaa
open Go.ChangeShapes Go.WideShapes Go.ChangeAt Go.RowKit
set_option linter.unusedVariables false
set_option maxRecDepth 20000

theorem owns_shape {w : World} {base : Nat} {e : TypeId} {size n : Nat} {v : Value} {xs : List Value} (h : w.ownsRow base e size v n xs) : ∃ co cc, v = .slice co n cc ∧ n ≤ cc ∧ (co = none → cc = 0) ∧ ∀ a, co = some a → base ≤ a.block := by
  obtain ⟨hl, ⟨rfl, hn⟩ | ⟨g, cap, cur, rfl, g1, g2, g3, _⟩⟩ := h
  · subst hn
    exact ⟨none, 0, rfl, Nat.le_refl _, fun _ => rfl, fun a h => by cases h⟩
  · exact ⟨_, cap, rfl, g3, fun h => (by cases h), fun a h => by cases h; exact g1⟩

set_option maxRecDepth 100000 in
set_option maxHeartbeats 2000000 in
theorem rPut_yes (so : Option Addr) (n sc : Nat) (po : Option Addr) (ps : List (Nat × Sec)) (np pc : Nat) (hnp : Hid (ps.length = np)) (hpn : po = none → pc = 0) (ops f f' : Int) (ho : 0 ≤ ops ∧ ops < 4611686018427387904) (h0 : f ≠ 0) (hf : -1 ≤ f ∧ f ≤ 9223372036854775807) (he : Hid (f' = refLeft f))
    (hle : n ≤ 1024) (hlp : np ≤ 1000000000) (i : Nat) (hi : i < n) (s : Sec) (w : World) (hps : Reads w po (rowsL wrL ps)) :
    Calls Try.prog 50 #[.agg #[.slice so n sc, .slice po np pc, .int .i64 ops, .int .i64 f, .bool false], .int .i64 (i : Int), .agg (secL s).toArray] w fun e w' => ∃ po' pc',
      e = .returned (.tuple #[.agg (devL so n sc po' (np + 1) pc' (ops + 1) f' false).toArray, .int .i64 0]) ∧ Reads w' po' (rowsL wrL (ps ++ [(i, s)])) ∧ np + 1 ≤ pc' ∧ (po' = none → pc' = 0) ∧ (∀ a, po' = some a → w.heap.size ≤ a.block) ∧ Below w.heap.size w w' := by
  obtain ⟨ho1, ho2⟩ := ho
  have ht := There_any so n sc (.slice po np pc) (.int .i64 (ops + 1)) (.int .i64 f) (.bool false) (i : Int) (by unfold I64; omega) hle
  rw [show (decide (0 ≤ (i : Int)) && decide ((i : Int) < (n : Int))) = true from by simp; omega] at ht
  have ht := Lib.hid ht
  have hp := Lib.hid (power_yes so n sc po np pc (ops + 1) f f' h0 hf he)
  have hps := Lib.hid hps
  have hpn := Lib.hid hpn
  obtain ⟨i0, hi0, hz0, hz1, hz2⟩ := info_parts infoRw3
  have hi0 := Lib.hid hi0
  have hz0 := Lib.hid hz0
  have hz1 := Lib.hid hz1
  have hz2 := Lib.hid hz2
  clear h0 hf
  go_enter Try.func50, Try.ntmps50
  go_wp2_with fail
  refine (ht.out _).mono ?_
  rintro e w1 ⟨rfl, b1⟩
  have hB1 := Lib.hid (blk_out (((Blk.new w 47 (devL so n sc po np pc (ops + 1) f false)).alloc _).alloc _) b1)
  have hS1 := Lib.hid (blk_out ((two_new w _ 34 (secL s)).alloc _) b1)
  have hR1 := Lib.hid (blk_out (three_at w _ _ 47 (devL none 0 0 none 0 0 0 0 false)) b1)
  have q1 := Lib.hid ((three_below w _ _ _).trans (b1.mono (by simp; omega)))
  clear b1
  go_wp2_with (first
  | ((with_reducible refine guardList ?_); refine wantList_load (by rfl) 47 _ rfl (w.heap.size) 0 (by rfl) (devL so n sc po np pc (ops + 1) f false) _ (range_dev hB1.out) Try.underlying47 rfl infoDev5 ?_)
  | fail)
  refine (hp.out _).mono ?_
  rintro e w2 ⟨rfl, b2⟩
  have hB2 := Lib.hid (blk_out hB1.out b2)
  have hS2 := Lib.hid (blk_out hS1.out b2)
  have hR2 := Lib.hid (blk_out hR1.out b2)
  have hRl := hR2.out.lt
  have q2 := Lib.hid (q1.out.trans (b2.mono q1.out.size))
  clear b2
  go_upto_region 5 with (first
  | ((with_reducible refine guardList ?_)
     refine wantList_store (by rfl) 47 _ _ rfl (w.heap.size) 0 (by rfl) (devL so n sc po np pc (ops + 1) f' false) (by rfl) _ (devL so n sc po np pc (ops + 1) f false) (devL so n sc po np pc (ops + 1) f' false) hB2.out (Nat.le_of_eq rfl) devL_one infoDev5 whole_dev ?_
     intro w3 hB3 k3 z3
     have hR3 := Lib.hid (hR2.out.kept k3 (by omega))
     have hS3 := Lib.hid (hS2.out.kept k3 (by omega))
     have q3 := Lib.hid (Kept.out q2.out k3 (fun i _ e => by omega) q2.out.size)
     have c1 : w3.cell? ⟨w.heap.size, 1, none⟩ = some (.slice po np pc) := (hB3.cell 1).trans rfl
     have hl3 := hB3.lt
     have hB3 := Lib.hid hB3
     clear k3 z3))
  go_upto_region 8 with (first
  | (at_builtin
     refine wpList_copyWrs rfl _ _ rfl w3 (by rfl) po np pc ps (by rfl) hpn.out hnp.out (hps.out.below q3.out) hlp ?_
     intro co cc w4 ho b1 b2 b3
     have hB4 := Lib.hid (blk_out hB3.out b3)
     have hS4 := Lib.hid (blk_out hS3.out b3)
     have hR4 := Lib.hid (blk_out hR3.out b3)
     have q4 := Lib.hid (q3.out.trans (b3.mono q3.out.size))
     have ho4 := Lib.hid (owns_low ho (show w.heap.size + 3 ≤ w3.heap.size from by have := hR3.out.lt; omega))
     have hs4 := b3.size
     clear b1 b2 b3 ho c1))
  have hB4l := hB4.out.lt
  have hS4l := hS4.out.lt
  have hR4l := hR4.out.lt
  go_upto_region 9 with (first
  | ((with_reducible refine guardList ?_); refine wantList_load (by rfl) 34 _ rfl (w.heap.size + 1) 0 (by rfl) (secL s) _ (range_dev hS4.out) Try.underlying34 rfl (infoSecL _) ?_)
  | ((with_reducible refine guardList ?_); refine wantList_build (by rfl) 121 [(0, .tmp 32), (1, .tmp 33)] rfl (wrL (i, s)) _ (by rfl) (built_rw i s) ?_)
  | ((with_reducible refine guardList ?_)
     refine wantList (by rfl) fun K hK => ?_
     refine wp_buildOne 45 121 _ rfl (wrL (i, s)) rfl Try.underlying45 (infoRw _) (zeroRwL _) (by rw [wrL_length]; omega) (by rw [wrL_length]; decide) ?_
     refine hK _ _ ?_
     clear hK K
     have hB5 := Lib.hid (hB4.out.alloc (.cells (wrL (i, s)).toArray 121))
     have hR5 := Lib.hid (hR4.out.alloc (.cells (wrL (i, s)).toArray 121))
     have ho5 := Lib.hid (World.ownsRow.alloc ho4.out (.cells (wrL (i, s)).toArray 121))
     have q5 := Lib.hid (q4.out.alloc q4.out.size (.cells (wrL (i, s)).toArray 121)))
  | ((with_reducible refine guardList ?_)
     refine wantList (by rfl) fun K hK => ?_
     refine wp_push _ _ 45 rfl (w.heap.size + 3) 121 i0 _ 129 136 Try.underlying45 hi0.out hz0.out hz1.out hz2.out (List.size_toArray.trans (wrL_length _)) (by omega) (.slice co np cc) np (rowsL wrL ps) rfl ho5.out w4.heap.size 1 (wrL (i, s)) rfl (Blk.new _ _ _) (wrL_length _) (wrL_one _) (by unfold maxLen; omega) (by omega) (by simp; omega) ?_
     intro v' w6 ho6 hg6 hat6
     refine hK _ _ ?_
     clear hK K
     have k6 := Kept.of_grown (F := fun k => (Value.slice co np cc).ownBlock = some k) hg6 (fun k hk _ => hk)
     have hB6 := hB5.out.kept k6 (fun e => by have := (World.ownsRow.lt ho5.out _ e).1; omega)
     have hR6 := Lib.hid (hR5.out.kept k6 (fun e => by have := (World.ownsRow.lt ho5.out _ e).1; omega))
     have q6 := Lib.hid (Kept.out q5.out k6 (fun k _ hk => by have := (World.ownsRow.lt ho5.out k hk).1; omega) q5.out.size)
     obtain ⟨po', pc', rfl, hpc, hpn', hF7⟩ := owns_shape ho6
     have hF7 := Lib.hid hF7
     have hpn' := Lib.hid hpn'
     have hr6 := Lib.hid (owns_reads ho6)
     have c1 : w6.cell? ⟨w.heap.size, 1, none⟩ = some (.slice po np pc) := (hB6.cell 1).trans rfl
     have f1 := hB6.frozen 1
     have hB6 := Lib.hid hB6
     clear k6 ho6 hg6 hat6))
  have hB7 : Blk (w6.setCell ⟨w.heap.size, 1, none⟩ (.slice po' (np + 1) pc')) w.heap.size 47 (devL so n sc po' (np + 1) pc' (ops + 1) f' false) := hB6.out.set 1 (.slice po' (np + 1) pc')
  have k7 := Kept.cellAt w6 w.heap.size 1 (.slice po' (np + 1) pc')
  have hR7 := Lib.hid (hR6.out.kept k7 (by omega))
  have hr7 := Lib.hid (hr6.out.keptF k7 (fun a ha e => by have := hF7.out a ha; omega))
  have q7 := Lib.hid (Kept.out q6.out k7 (fun i _ e => by omega) q6.out.size)
  have hB7 := Lib.hid hB7
  clear k7 c1 f1
  go_wp2_with (first
  | ((with_reducible refine guardList ?_); refine wantList_load (by rfl) 47 _ rfl (w.heap.size) 0 (by rfl) (devL so n sc po' (np + 1) pc' (ops + 1) f' false) _ (range_dev hB7.out) Try.underlying47 rfl infoDev5 ?_)
  | ((with_reducible refine guardList ?_)
     refine wantList_store (by rfl) 47 _ _ rfl (w.heap.size + 2) 0 (by rfl) (devL so n sc po' (np + 1) pc' (ops + 1) f' false) (by rfl) _ (devL none 0 0 none 0 0 0 0 false) (devL so n sc po' (np + 1) pc' (ops + 1) f' false) hR7.out (Nat.le_of_eq rfl) devL_one infoDev5 whole_dev ?_
     intro w8 hR8 k8 z8
     have hR8 := Lib.hid hR8
     have hr8 := Lib.hid (hr7.out.keptF k8 (fun a ha e => by have := hF7.out a ha; omega))
     have q8 := Lib.hid (Kept.out q7.out k8 (fun i _ e => by omega) q7.out.size)
     clear k8 z8))
  refine bodyPost_ret (results_row_tmp rfl (rowDev hR8.out)) rfl ⟨po', pc', rfl, ?_, hpc, hpn'.out, fun a ha => by have := hF7.out a ha; omega, q8.out⟩
  rw [rowsL_append, rowsL_one]
  exact hr8.out
end Go.Proofs.Ytfblehdeoloijaa

/- The document's own device: Read, refused. -/
namespace Go.Proofs.Ytfblehdeoloijaa
open Go.ChangeShapes Go.WideShapes Go.ChangeAt Go.RowKit
set_option linter.unusedVariables false
set_option maxRecDepth 20000

end Go.Proofs.Ytfblehdeoloijaa

/- The document's own device: Rot, refused; At, out of range. -/
namespace Go.Proofs.Ytfblehdeoloijaa
open Go.ChangeShapes Go.WideShapes Go.ChangeAt Go.RowKit
set_option linter.unusedVariables false
set_option maxRecDepth 20000

set_option maxHeartbeats 1000000 in
theorem At_out (so : Option Addr) (n sc : Nat) (x1 x2 x3 x4 : Value) (i : Int) (hi : I64 i) (hle : n ≤ 1024) (hh : (decide (0 ≤ i) && decide (i < (n : Int))) = false) (w : World) :
    Calls Try.prog 29 #[.agg #[.slice so n sc, x1, x2, x3, x4], .int .i64 i] w fun e w' => e = .returned (.agg (secL sec0).toArray) ∧ Below w.heap.size w w' := by
  have hz := zeroSec
  have ht := There_any so n sc x1 x2 x3 x4 i hi hle
  rw [hh] at ht
  have ht := Lib.hid ht
  go_enter Try.func29, Try.ntmps29
  go_wp2_with fail
  refine (ht.out _).mono ?_
  rintro e w1 ⟨rfl, b1⟩
  have hR1 := Lib.hid (blk_out (two_new w _ 34 (secL sec0)) b1)
  have q1 := Lib.hid ((two_below w _ _).trans (b1.mono (by simp; omega)))
  clear b1
  go_wp2_with (first
  | ((with_reducible refine guardList ?_); refine wantList_build (by rfl) 34 [] rfl (secL sec0) _ (by rfl) built_sec0 ?_)
  | ((with_reducible refine guardList ?_)
     refine wantList_store (by rfl) 34 _ _ rfl (w.heap.size + 1) 0 (by rfl) (secL sec0) (by rfl) _ (secL sec0) (secL sec0) hR1.out (by simp [secL_length]) (secL_one _) (infoSecL _) (whole_new (by simp [secL_length])) ?_
     intro w2 hR2 k2 z2
     have hR2 := Lib.hid hR2
     have q2 := Lib.hid (Kept.out q1.out k2 (fun i _ e => by omega) q1.out.size)
     clear k2 z2))
  refine bodyPost_ret (results_row rfl (rowSec hR2.out)) rfl ⟨rfl, q2.out⟩

end Go.Proofs.Ytfblehdeoloijaa

/- The document's own device: Rot. -/
namespace Go.Proofs.Ytfblehdeoloijaa
open Go.ChangeShapes Go.WideShapes Go.ChangeAt Go.RowKit
set_option linter.unusedVariables false
set_option maxRecDepth 20000

theorem wr_put (p : Nat × Sec) (s : Sec) : wrL (p.1, s) = (wrL p).take 1 ++ secL s ++ (wrL p).drop (1 + (secL s).length) := by
  rw [secL_length, List.drop_of_length_le (by rw [wrL_length]; omega)]
  simp [wrL]

/-- what stands while the pending writes are gone through -/
structure RotS (X g : Nat) (V Z : List Value) (s : Sec) (G : List Value) (W : World) : Prop where
  hB : Blk W X 47 V
  hS : Blk W (X + 1) 34 (secL s)
  hR : Blk W (X + 2) 47 Z
  hG : Blk W g 34 G
theorem RotS.kept {X g : Nat} {V Z : List Value} {s : Sec} {G : List Value} {W W' : World} {F : Nat → Prop} (h : RotS X g V Z s G W) (k : Kept F W W') (n0 : ¬ F X) (n1 : ¬ F (X + 1)) (n2 : ¬ F (X + 2)) (n3 : ¬ F g) : RotS X g V Z s G W' :=
  ⟨h.hB.kept k n0, h.hS.kept k n1, h.hR.kept k n2, h.hG.kept k n3⟩
theorem RotS.alloc {X g : Nat} {V Z : List Value} {s : Sec} {G : List Value} {W : World} (h : RotS X g V Z s G W) (o : Obj) : RotS X g V Z s G (W.alloc o) := ⟨h.hB.alloc o, h.hS.alloc o, h.hR.alloc o, h.hG.alloc o⟩

end Go.Proofs.Ytfblehdeoloijaa

/- The document's own device: Read. -/
namespace Go.Proofs.Ytfblehdeoloijaa
open Go.ChangeShapes Go.WideShapes Go.ChangeAt Go.RowKit
set_option linter.unusedVariables false
set_option maxRecDepth 20000

end Go.Proofs.Ytfblehdeoloijaa

/- The document's own device beside the model: plain facts. -/
namespace Go.Proofs.Ytfblehdeoloijaa
open Go.ChangeShapes Go.WideShapes Go.ChangeAt Go.RowKit
set_option linter.unusedVariables false
set_option maxRecDepth 20000

theorem refL_dev (m : DevM) (so : Option Addr) (sc : Nat) (po : Option Addr) (pc : Nat) : refL m so sc po pc = devL so m.stable.length sc po m.pending.length pc (m.ops : Int) (max m.left (-1)) m.dead := rfl
theorem lasts_no {m : DevM} (h : m.lasts = false) : m.dead = true ∨ max m.left (-1) = 0 := by
  unfold DevM.lasts at h
  cases hd : m.dead
  · rw [hd] at h
    have : m.left = 0 := by simpa using h
    exact .inr (by omega)
  · exact .inl rfl
theorem lasts_yes {m : DevM} (h : m.lasts = true) : m.dead = false ∧ max m.left (-1) ≠ 0 := by
  unfold DevM.lasts at h
  cases hd : m.dead
  · rw [hd] at h
    have : ¬ m.left = 0 := by simpa using h
    exact ⟨rfl, by omega⟩
  · rw [hd] at h; simp at h
theorem refLeft_max (l : Int) : max (if 0 < l then l - 1 else l) (-1) = refLeft (max l (-1)) := by
  unfold refLeft
  by_cases h : 0 < l
  · rw [if_pos h, if_pos (by omega)]; omega
  · rw [if_neg h, if_neg (by omega)]
theorem tick_ops {m : DevM} (h : m.ops < 4611686018427387903) : (m.tick.ops : Int) = (m.ops : Int) + 1 := by
  show ((min (m.ops + 1) 4611686018427387903 : Nat) : Int) = _
  omega
end Go.Proofs.Ytfblehdeoloijaa

/- The document's own device beside the device: each call leads to the same plain data. -/
namespace Go.Proofs.Ytfblehdeoloijaa
open Go.ChangeShapes Go.WideShapes Go.ChangeAt Go.RowKit
set_option linter.unusedVariables false
set_option maxRecDepth 20000

/-- these cells lie in no block that X names -/
def Apart (ao : Option Addr) (cs : List Value) (X : Nat → Prop) : Prop := ∀ a, ao = some a → 0 < cs.length → ¬ X a.block
section
variable {w w' : World} {ao : Option Addr} {cs : List Value} {G X X' : Nat → Prop}
theorem Reads.apart (h : Reads w ao cs) (hx : Apart ao cs X) (k : Kept G w w') (hG : ∀ i, i < w.heap.size → G i → X i) : Reads w' ao cs := by
  rcases Nat.eq_zero_or_pos cs.length with e | e
  · obtain rfl : cs = [] := List.eq_nil_of_length_eq_zero e
    exact Reads.nil _ _
  · exact h.keptF k fun a ha hg => hx a ha e (hG _ (h.lt 0 e a ha) hg)
theorem Apart.grow (hx : Apart ao cs X) (h : Reads w ao cs) (hX : ∀ k, X' k → X k ∨ w.heap.size ≤ k) : Apart ao cs X' := fun a ha e hx' => by
  rcases hX _ hx' with h1 | h1
  · exact hx a ha e h1
  · have := h.lt 0 e a ha; omega
theorem Apart.fresh {n : Nat} (hf : ∀ a, ao = some a → n ≤ a.block) (hX : ∀ k, X k → k < n) : Apart ao cs X := fun a ha _ hx => by
  have := hf a ha
  have := hX _ hx
  omega
end

/-- the document's device as a value, its rows in no block that X names -/
structure RefIs (w : World) (V : List Value) (m : DevM) (X : Nat → Prop) : Prop where
  ex : ∃ so sc po pc, V = refL m so sc po pc ∧ RefAt w m so sc po pc ∧ Apart so (rowsL secL m.stable) X ∧ Apart po (rowsL wrL m.pending) X
section
variable {w w' : World} {V : List Value} {m : DevM} {G X X' : Nat → Prop}
theorem RefIs.kept (h : RefIs w V m X) (k : Kept G w w') (hG : ∀ i, i < w.heap.size → G i → X i) : RefIs w' V m X := by
  obtain ⟨so, sc, po, pc, e, h1, h2, h3⟩ := h.ex
  exact ⟨so, sc, po, pc, e, ⟨h1.st.apart h2 k hG, h1.pe.apart h3 k hG, h1.sc, h1.pc⟩, h2, h3⟩
theorem RefIs.grow (h : RefIs w V m X) (hX : ∀ k, X' k → X k ∨ w.heap.size ≤ k) : RefIs w V m X' := by
  obtain ⟨so, sc, po, pc, e, h1, h2, h3⟩ := h.ex
  exact ⟨so, sc, po, pc, e, h1, h2.grow h1.st hX, h3.grow h1.pe hX⟩
theorem RefIs.below (h : RefIs w V m X) (hb : Below w.heap.size w w') : RefIs w' V m X := h.kept (G := fun _ => False) (Kept.of_below hb _) fun _ _ => False.elim
theorem RefIs.alloc (h : RefIs w V m X) (o : Obj) : RefIs (w.alloc o) V m X := h.kept (G := fun _ => False) (Kept.of_alloc _ w o) fun _ _ => False.elim
theorem RefIs.len (h : RefIs w V m X) : V.length = 5 := by
  obtain ⟨so, sc, po, pc, rfl, _⟩ := h.ex
  rfl
theorem RefIs.one (h : RefIs w V m X) : ∀ v ∈ V, v.oneCell' = true := by
  obtain ⟨so, sc, po, pc, rfl, _⟩ := h.ex
  exact devL_one
theorem RefIs.info (h : RefIs w V m X) : (Try.prog.info? 47).map (·.size) = some V.length := by
  obtain ⟨so, sc, po, pc, rfl, _⟩ := h.ex
  exact infoDev5
theorem RefAt.tick {so : Option Addr} {sc : Nat} {po : Option Addr} {pc : Nat} (h : RefAt w m so sc po pc) : RefAt w m.tick so sc po pc := ⟨h.st, h.pe, h.sc, h.pc⟩
theorem refL_tick (m : DevM) (so : Option Addr) (sc : Nat) (po : Option Addr) (pc : Nat) (h : m.ops < 4611686018427387903) : refL m.tick so sc po pc = devL so m.stable.length sc po m.pending.length pc ((m.ops : Int) + 1) (max m.left (-1)) m.dead := by
  rw [refL_dev, tick_ops h]; rfl
theorem spend_off {m : DevM} (h : m.lasts = false) : m.tick.spend = { m.tick with dead := true } := by
  unfold DevM.spend
  rw [show m.tick.lasts = false from h]; rfl
theorem spend_on {m : DevM} (h : m.lasts = true) : m.tick.spend = { m.tick with left := if 0 < m.left then m.left - 1 else m.left } := by
  unfold DevM.spend
  rw [show m.tick.lasts = true from h]; rfl
theorem refL_off (m : DevM) (so : Option Addr) (sc : Nat) (po : Option Addr) (pc : Nat) (h : m.ops < 4611686018427387903) (hl : m.lasts = false) : refL m.tick.spend so sc po pc = devL so m.stable.length sc po m.pending.length pc ((m.ops : Int) + 1) (max m.left (-1)) true := by
  rw [spend_off hl, refL_dev]
  show devL so m.stable.length sc po m.pending.length pc (m.tick.ops : Int) (max m.left (-1)) true = _
  rw [tick_ops h]
theorem max_ok {m : DevM} (hm : m.Fits) : -1 ≤ max m.left (-1) ∧ max m.left (-1) ≤ 9223372036854775807 := by
  have := hm.left
  omega
theorem ops_ok {m : DevM} (h : m.ops < 4611686018427387903) : 0 ≤ (m.ops : Int) ∧ (m.ops : Int) < 4611686018427387904 := by omega

theorem r_Break (h : RefIs w V m X) (n : Int) (hn : I64 n) :
    Calls Try.prog 20 #[.agg V.toArray, .int .i64 n] w fun e w' => ∃ V', e = .returned (.agg V'.toArray) ∧ RefIs w' V' (m.brk n) X ∧ Below w.heap.size w w' := by
  obtain ⟨so, sc, po, pc, rfl, h1, h2, h3⟩ := h.ex
  refine (rBreak_any so _ sc po _ pc _ _ m.dead n _ hn (Lib.hid rfl) w).mono ?_
  rintro e w' ⟨rfl, hb⟩
  exact ⟨refL (m.brk n) so sc po pc, rfl, ⟨so, sc, po, pc, rfl, ⟨h1.st.below hb, h1.pe.below hb, h1.sc, h1.pc⟩, h2, h3⟩, hb⟩

theorem r_Put (h : RefIs w V m X) (hX : ∀ k, X k → k < w.heap.size) (hm : m.Fits) (ho : m.ops < 4611686018427387903) (hp : m.pending.length ≤ 1000000000) (i : Int) (hi : I64 i) (s : Sec) :
    Calls Try.prog 50 #[.agg V.toArray, .int .i64 i, .agg (secL s).toArray] w fun e w' => ∃ V', e = .returned (.tuple #[.agg V'.toArray, .int .i64 (m.write i s).2]) ∧ RefIs w' V' (m.write i s).1 X ∧ Below w.heap.size w w' := by
  obtain ⟨so, sc, po, pc, rfl, h1, h2, h3⟩ := h.ex
  cases hh : m.has i
  · have e1 : m.write i s = (m.tick, 41) := by unfold DevM.write; rw [hh]; rfl
    rw [e1]
    refine (rPut_out so _ sc po _ pc _ _ m.dead (ops_ok ho) i hi hm.len s hh w).mono ?_
    rintro e w' ⟨rfl, hb⟩
    exact ⟨refL m.tick so sc po pc, by rw [refL_tick _ _ _ _ _ ho], ⟨so, sc, po, pc, rfl, h1.tick.below hb, h2, h3⟩, hb⟩
  · obtain ⟨k, rfl, hk⟩ := has_nat hh
    cases hl : m.lasts
    · have e1 : m.write (k : Int) s = (m.tick.spend, 42) := by unfold DevM.write; rw [hh, hl]; rfl
      rw [e1]
      refine (rPut_no so _ sc po _ pc _ _ m.dead (ops_ok ho) k hi hm.len s hh (lasts_no hl) w).mono ?_
      rintro e w' ⟨rfl, hb⟩
      refine ⟨refL m.tick.spend so sc po pc, by rw [refL_off _ _ _ _ _ ho hl], ⟨so, sc, po, pc, rfl, ?_, ?_, ?_⟩, hb⟩
      · rw [spend_off hl]; exact ⟨h1.st.below hb, h1.pe.below hb, h1.sc, h1.pc⟩
      · rw [spend_off hl]; exact h2
      · rw [spend_off hl]; exact h3
    · have e1 : m.write (k : Int) s = ({ m.tick with left := (if 0 < m.left then m.left - 1 else m.left), pending := m.pending ++ [(k, s)] }, 0) := by
        unfold DevM.write; rw [hh, hl, spend_on hl]; rfl
      rw [e1]
      obtain ⟨hd, h0⟩ := lasts_yes hl
      have e0 : refL m so sc po pc = devL so m.stable.length sc po m.pending.length pc (m.ops : Int) (max m.left (-1)) false := by rw [refL_dev, hd]
      rw [e0]
      refine (rPut_yes so _ sc po m.pending _ pc (Lib.hid rfl) h1.pc.2 _ _ _ (ops_ok ho) h0 (max_ok hm) (Lib.hid rfl) hm.len hp k hk s w h1.pe).mono ?_
      rintro e w' ⟨po', pc', rfl, hr, hc, hn, hf, hb⟩
      have e2 : refL { m.tick with left := (if 0 < m.left then m.left - 1 else m.left), pending := m.pending ++ [(k, s)] } so sc po' pc' = devL so m.stable.length sc po' (m.pending.length + 1) pc' ((m.ops : Int) + 1) (refLeft (max m.left (-1))) false := by
        rw [refL_dev]
        show devL so m.stable.length sc po' (m.pending ++ [(k, s)]).length pc' (m.tick.ops : Int) (max (if 0 < m.left then m.left - 1 else m.left) (-1)) m.dead = _
        rw [tick_ops ho, refLeft_max, hd, List.length_append]
        rfl
      refine ⟨_, by rw [← e2], ⟨so, sc, po', pc', rfl, ⟨h1.st.below hb, hr, h1.sc, ?_, hn⟩, h2, Apart.fresh hf hX⟩, hb⟩
      show (m.pending ++ [(k, s)]).length ≤ pc'
      simpa using hc

theorem r_Flush (h : RefIs w V m X) (hX : ∀ k, X k → k < w.heap.size) (hm : m.Fits) (ho : m.ops < 4611686018427387903) (hp : m.pending.length ≤ 1000000000) :
    Calls Try.prog 49 #[.agg V.toArray] w fun e w' => ∃ V', e = .returned (.tuple #[.agg V'.toArray, .int .i64 m.flush.2]) ∧ RefIs w' V' m.flush.1 X ∧ Below w.heap.size w w' := by
  obtain ⟨so, sc, po, pc, rfl, h1, h2, h3⟩ := h.ex
  cases hl : m.lasts
  · have e1 : m.flush = (m.tick.spend, 42) := by unfold DevM.flush; rw [hl]; rfl
    rw [e1]
    refine (rFlush_no so _ sc po _ pc _ _ m.dead (ops_ok ho) (lasts_no hl) w).mono ?_
    rintro e w' ⟨rfl, hb⟩
    refine ⟨refL m.tick.spend so sc po pc, by rw [refL_off _ _ _ _ _ ho hl], ⟨so, sc, po, pc, rfl, ?_, ?_, ?_⟩, hb⟩
    · rw [spend_off hl]; exact ⟨h1.st.below hb, h1.pe.below hb, h1.sc, h1.pc⟩
    · rw [spend_off hl]; exact h2
    · rw [spend_off hl]; exact h3
  · have e1 : m.flush = ({ m.tick with left := (if 0 < m.left then m.left - 1 else m.left), stable := putAll m.stable m.pending, pending := [] }, 0) := by
      unfold DevM.flush; rw [hl, spend_on hl]
      unfold DevM.settle
      rw [kept_true]; rfl
    rw [e1]
    obtain ⟨hd, h0⟩ := lasts_yes hl
    have e0 : refL m so sc po pc = devL so m.stable.length sc po m.pending.length pc (m.ops : Int) (max m.left (-1)) false := by rw [refL_dev, hd]
    rw [e0]
    refine (rFlush_yes so m.stable _ sc (Lib.hid rfl) h1.sc.2 po m.pending _ pc (Lib.hid rfl) _ _ _ (ops_ok ho) h0 (max_ok hm) (Lib.hid rfl) hm.len hp (Lib.hid hm.at_) w h1.st h1.pe).mono ?_
    rintro e w' ⟨so', sc', rfl, hr, hc, hn, hf, hb⟩
    have hlen := putAll_length m.stable m.pending
    have e2 : refL { m.tick with left := (if 0 < m.left then m.left - 1 else m.left), stable := putAll m.stable m.pending, pending := [] } so' sc' none 0 = devL so' m.stable.length sc' none 0 0 ((m.ops : Int) + 1) (refLeft (max m.left (-1))) false := by
      rw [refL_dev]
      show devL so' (putAll m.stable m.pending).length sc' none 0 0 (m.tick.ops : Int) (max (if 0 < m.left then m.left - 1 else m.left) (-1)) m.dead = _
      rw [tick_ops ho, refLeft_max, hd, hlen]
    refine ⟨_, by rw [← e2], ⟨so', sc', none, 0, rfl, ⟨hr, Reads.nil _ _, ⟨?_, hn⟩, Nat.le_refl _, fun _ => rfl⟩, Apart.fresh hf hX, fun a e => by cases e⟩, hb⟩
    show (putAll m.stable m.pending).length ≤ sc'
    omega

theorem r_Crash (h : RefIs w V m X) (hX : ∀ k, X k → k < w.heap.size) (hm : m.Fits) (hp : m.pending.length ≤ 1000000000) (ko : Option Addr) (kc : Nat) (bs : List Bool) (hbl : bs.length ≤ 9223372036854775807) (hk : Reads w ko (boolsV bs)) :
    Calls Try.prog 24 #[.agg V.toArray, .slice ko bs.length kc] w fun e w' => ∃ V', e = .returned (.agg V'.toArray) ∧ RefIs w' V' (m.crash bs) X ∧ Below w.heap.size w w' := by
  obtain ⟨so, sc, po, pc, rfl, h1, h2, h3⟩ := h.ex
  refine (rCrash_any so m.stable _ sc (Lib.hid rfl) h1.sc.2 po m.pending _ pc (Lib.hid rfl) _ _ m.dead ko bs _ kc (Lib.hid rfl) hbl hm.len hp (Lib.hid hm.at_) w h1.st h1.pe hk _ (Lib.hid rfl)).mono ?_
  rintro e w' ⟨so', sc', rfl, hr, hc, hn, hf, hb⟩
  have hlen := putAll_length m.stable (DevM.kept (fun k => bs.getD k false) m.pending)
  have e2 : refL (m.crash bs) so' sc' none 0 = devL so' m.stable.length sc' none 0 0 (m.ops : Int) (-1) false := by
    rw [refL_dev]
    show devL so' (putAll m.stable (DevM.kept (fun k => bs.getD k false) m.pending)).length sc' none 0 0 (m.ops : Int) (max (-1) (-1)) false = _
    rw [hlen]; rfl
  refine ⟨_, by rw [← e2], ⟨so', sc', none, 0, rfl, ⟨hr, Reads.nil _ _, ⟨?_, hn⟩, Nat.le_refl _, fun _ => rfl⟩, Apart.fresh hf hX, fun a e => by cases e⟩, hb⟩
  show (putAll m.stable (DevM.kept (fun k => bs.getD k false) m.pending)).length ≤ sc'
  omega

theorem r_At (h : RefIs w V m X) (hm : m.Fits) (i : Int) (hi : I64 i) :
    Calls Try.prog 29 #[.agg V.toArray, .int .i64 i] w fun e w' => e = .returned (.agg (secL (m.stab i)).toArray) ∧ Below w.heap.size w w' := by
  obtain ⟨so, sc, po, pc, rfl, h1, h2, h3⟩ := h.ex
  cases hh : m.has i
  · have e1 : m.stab i = sec0 := by unfold DevM.stab; rw [hh]; rfl
    rw [e1]
    exact At_out so _ sc _ _ _ _ i hi hm.len hh w
  · obtain ⟨k, rfl, hk⟩ := has_nat hh
    have e1 : m.stab (k : Int) = m.stable.getD k sec0 := by unfold DevM.stab; rw [hh]; rfl
    rw [e1]
    exact At_in so m.stable _ sc (Lib.hid rfl) _ _ _ _ k hk hm.len w h1.st

theorem r_New (x : Int) (hx : I64 x) (w : World) (hX : ∀ k, X k → k < w.heap.size) :
    Calls Try.prog 18 #[.int .i64 x] w fun e w' => ∃ V', e = .returned (.agg V'.toArray) ∧ RefIs w' V' (DevM.fresh (DevM.newLen x)) X ∧ Below w.heap.size w w' := by
  refine (rNew_any x _ hx (Lib.hid rfl) w).mono ?_
  rintro e w' ⟨so, rfl, ⟨g, rfl, hg⟩, hr, hb⟩
  have hlen : (DevM.fresh (DevM.newLen x)).stable.length = DevM.newLen x := List.length_replicate
  have e2 : refL (DevM.fresh (DevM.newLen x)) (some ⟨g, 0, none⟩) (DevM.newLen x) none 0 = devL (some ⟨g, 0, none⟩) (DevM.newLen x) (DevM.newLen x) none 0 0 0 (-1) false := by
    rw [refL_dev, hlen]; rfl
  refine ⟨_, by rw [← e2], ⟨_, _, none, 0, rfl, ⟨hr, Reads.nil _ _, ⟨Nat.le_of_eq hlen, fun e => by cases e⟩, Nat.le_refl _, fun _ => rfl⟩, Apart.fresh (n := w.heap.size) (fun a e => by cases e; exact hg) hX, fun a e => by cases e⟩, hb⟩
end
end Go.Proofs.Ytfblehdeoloijaa

/- What the law on whatever is done with a device leans on: the device beside the document's own. -/
namespace Go.Proofs.Ytfblehdeoloijaa
open Go.ChangeShapes Go.WideShapes Go.ChangeAt Go.RowKit
set_option linter.unusedVariables false
set_option maxRecDepth 20000

/-- a device, and the document's own in the variable g, its rows in no block that X names -/
structure Runs (B : Nat) (w : World) (d : Nat) (F : Nat → Prop) (md mr : DevM) (g : Nat) (V : List Value) (X : Nat → Prop) : Prop where
  dev : IsDev w d F md
  low : ∀ k, F k → B ≤ k
  ref : RefIs w V mr X
  var : Blk w g 47 V
  fx : ∀ k, F k → X k
  gx : X g
  gf : ¬ F g
  gb : B ≤ g
  xlt : ∀ k, X k → k < w.heap.size
section
variable {B d g : Nat} {w w' : World} {F F' G X : Nat → Prop} {md mr m' : DevM} {V V' : List Value}
theorem Runs.callD (h : Runs B w d F md mr g V X) (k : Kept F w w') (h' : IsDev w' d F' m') (gr : Grows w.heap.size F F') (hB : B ≤ w.heap.size) : Runs B w' d F' m' mr g V (fun k => X k ∨ F' k) :=
  ⟨h', gr.low h.low hB, (h.ref.grow fun i hi => by
      rcases hi with hi | hi
      · exact .inl hi
      · rcases gr i hi with h1 | h1
        · exact .inl (h.fx i h1)
        · exact .inr h1).kept k fun i _ hi => .inl (h.fx i hi), h.var.kept k h.gf, fun k hk => .inr hk, .inl h.gx, gr.not h.gf h.var.lt, h.gb, fun i hi => by
      rcases hi with hi | hi
      · exact Nat.lt_of_lt_of_le (h.xlt i hi) k.size
      · exact h'.lt i hi⟩
/-- what turns nothing of these -/
theorem Runs.over (h : Runs B w d F md mr g V X) (k : Kept G w w') (hF : ∀ i, F i → ¬ G i) (hg : ¬ G g) (hX : ∀ i, i < w.heap.size → G i → X i) : Runs B w' d F md mr g V X :=
  ⟨h.dev.kept k hF, h.low, h.ref.kept k hX, h.var.kept k hg, h.fx, h.gx, h.gf, h.gb, fun i hi => Nat.lt_of_lt_of_le (h.xlt i hi) k.size⟩
theorem Runs.late (h : Runs B w d F md mr g V X) (k : Kept G w w') (hG : ∀ i, i < w.heap.size → ¬ G i) : Runs B w' d F md mr g V X :=
  h.over k (fun i hi => hG i (h.dev.lt i hi)) (hG g h.var.lt) fun i hi hg => absurd hg (hG i hi)
theorem Runs.alloc (h : Runs B w d F md mr g V X) (o : Obj) : Runs B (w.alloc o) d F md mr g V X := h.late (G := fun _ => False) (Kept.of_alloc _ w o) fun _ _ => id
theorem Runs.below (h : Runs B w d F md mr g V X) (b : Below w.heap.size w w') : Runs B w' d F md mr g V X := h.late (G := fun _ => False) (Kept.of_below b _) fun _ _ => id
theorem Runs.drew (h : Runs B w d F md mr g V X) : Runs B w.drew d F md mr g V X := h.late (G := fun _ => False) ((Kept.refl _ w).drew) fun _ _ => id
/-- new blocks are of no row -/
theorem Runs.grow (h : Runs B w d F md mr g V X) (hw : Runs B w' d F md mr g V X) (k : Nat → Prop) (hk : ∀ i, k i → w.heap.size ≤ i ∧ i < w'.heap.size) (hb : Kept G w w') (hX : ∀ i, i < w.heap.size → G i → X i) : Runs B w' d F md mr g V (fun i => X i ∨ k i) :=
  ⟨hw.dev, hw.low, (h.ref.grow fun i hi => by
      rcases hi with hi | hi
      · exact .inl hi
      · exact .inr (hk i hi).1).kept hb fun i hi hg => .inl (hX i hi hg), hw.var, fun i hi => .inl (h.fx i hi), .inl h.gx, h.gf, h.gb, fun i hi => by
      rcases hi with hi | hi
      · exact hw.xlt i hi
      · exact (hk i hi).2⟩
theorem Runs.setV (h : Runs B w d F md mr g V X) (hr : RefIs w V' m' X) (k : Kept (· = g) w w') (hb : Blk w' g 47 V') : Runs B w' d F md m' g V' X :=
  ⟨h.dev.kept k (fun i hi e => h.gf (e ▸ hi)), h.low, hr.kept k (fun i _ e => e ▸ h.gx), hb, h.fx, h.gx, h.gf, h.gb, fun i hi => Nat.lt_of_lt_of_le (h.xlt i hi) k.size⟩
end

/-- as it begins -/
theorem Runs.start {B d : Nat} {w w' : World} {F : Nat → Prop} {m : DevM} {V : List Value} (hd : IsDev w d F m) (lo : ∀ k, F k → B ≤ k) (hr : RefIs w V m F) (hB : B ≤ w.heap.size) (o : Obj) (k : Kept (· = w.heap.size) (w.alloc o) w') (hv : Blk w' w.heap.size 47 V) :
    Runs B w' d F m m w.heap.size V (fun i => F i ∨ i = w.heap.size) :=
  ⟨(hd.alloc o).kept k (fun i hi e => by have := hd.lt i hi; omega), lo, ((hr.grow fun i hi => by
      rcases hi with hi | hi
      · exact .inl hi
      · exact .inr (by omega)).alloc o).kept k fun i _ e => .inr e, hv, fun i hi => .inl hi, .inr rfl, fun hf => by have := hd.lt _ hf; omega, hB, fun i hi => by
      have h1 := k.size
      simp at h1
      rcases hi with hi | hi
      · have := hd.lt i hi; omega
      · omega⟩
/-- the variable's cells -/
theorem Runs.cells {B d g : Nat} {w : World} {F X : Nat → Prop} {md mr : DevM} {V : List Value} (h : Runs B w d F md mr g V X) : ∃ so sc po pc, w.cell? ⟨g, 0, none⟩ = some (.slice so mr.stable.length sc) ∧ w.cell? ⟨g, 1, none⟩ = some (.slice po mr.pending.length pc) ∧ w.cell? ⟨g, 2, none⟩ = some (.int .i64 (mr.ops : Int)) ∧ w.cell? ⟨g, 4, none⟩ = some (.bool mr.dead) := by
  obtain ⟨so, sc, po, pc, e, _⟩ := h.ref.ex
  have hv := h.var
  rw [e] at hv
  exact ⟨so, sc, po, pc, (hv.cell 0).trans rfl, (hv.cell 1).trans rfl, (hv.cell 2).trans rfl, (hv.cell 4).trans rfl⟩

section
variable {B d g A S T : Nat} {w w' : World} {F F' G X X' : Nat → Prop} {md mr m' : DevM} {V V' : List Value} {a : ActM} {x y z : Sec}
theorem dev_ne : 47 ≠ 34 := by decide
end

/-- so many were done -/
structure RunI (m : DevM) (k : Nat) : Prop where
  ops : m.ops ≤ k
  pend : m.pending.length ≤ k
namespace RunI
variable {m : DevM} {k : Nat} (h : RunI m k)
theorem succ (h : RunI m k) : RunI m (k + 1) := ⟨by have := h.ops; omega, by have := h.pend; omega⟩
theorem tick (h : RunI m k) : RunI m.tick (k + 1) := ⟨by have := h.ops; show min (m.ops + 1) _ ≤ _; omega, by have := h.pend; show m.pending.length ≤ _; omega⟩
theorem spend {m : DevM} (h : RunI m k) : RunI m.spend k := by
  unfold DevM.spend
  split
  · exact ⟨h.ops, h.pend⟩
  · exact ⟨h.ops, h.pend⟩
theorem brk (h : RunI m k) (n : Int) : RunI (m.brk n) (k + 1) := ⟨h.succ.ops, h.succ.pend⟩
theorem write (h : RunI m k) (i : Int) (s : Sec) : RunI (m.write i s).1 (k + 1) := by
  unfold DevM.write
  split
  · split
    · refine ⟨h.tick.spend.ops, ?_⟩
      have := h.pend
      simp; omega
    · exact h.tick.spend
  · exact h.tick
theorem flush (h : RunI m k) : RunI m.flush.1 (k + 1) := by
  unfold DevM.flush
  split
  · exact ⟨h.tick.spend.ops, Nat.zero_le _⟩
  · exact h.tick.spend
theorem crash (h : RunI m k) (bs : List Bool) : RunI (m.crash bs) (k + 1) := ⟨h.succ.ops, Nat.zero_le _⟩
theorem rot (h : RunI m k) (i : Int) (s : Sec) : RunI (m.rot i s).1 (k + 1) := by
  unfold DevM.rot
  split
  · refine ⟨h.succ.ops, ?_⟩
    have := h.pend
    simp; omega
  · exact h.succ
theorem lt (h : RunI m k) (hk : k ≤ 200) : m.ops < 4611686018427387903 := by have := h.ops; omega
theorem le (h : RunI m k) (hk : k ≤ 200) : m.pending.length ≤ 1000000000 := by have := h.pend; omega
end RunI
theorem runI_fresh (n : Nat) : RunI (DevM.fresh n) 0 := ⟨Nat.le_refl _, Nat.le_refl _⟩
end Go.Proofs.Ytfblehdeoloijaa
