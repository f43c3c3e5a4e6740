/- UberT: the texts UberS, UberU, UberV, one behind the other. -/
import Derived.Test.YtfblehdeoloijaaGUberR
import Derived.Test.YtfblehdeoloijaaGUberB
import Derived.Test.YtfblehdeoloijaaGRef
/- The document's own Commit on its own device. -/
namespace Go.Proofs.Ytfblehdeoloijaa
open Go.ChangeShapes Go.WideShapes Go.ChangeAt Go.RowKit
set_option linter.unusedVariables false
set_option maxRecDepth 20000

theorem atDst (dst : Option Nat) {P : Program} {ops : Array Oper} {rest : List Oper} {o : Oper} {a : Act} {w : World} {Q : Exit → Act → World → Prop} (hd : o.dst = dst) (h : wpList P ops Q (o :: rest) a w) : wpList P ops Q (o :: rest) a w := h
/-- the operation is a store through this slot -/
def storeAt (o : Oper) : Option Nat := match o.op with | .store _ (.tmp t) _ => some t | _ => none
theorem atOper (t : Nat) {P : Program} {ops : Array Oper} {rest : List Oper} {o : Oper} {a : Act} {w : World} {Q : Exit → Act → World → Prop} (hd : storeAt o = some t) (h : wpList P ops Q (o :: rest) a w) : wpList P ops Q (o :: rest) a w := h
theorem below_new {w w' : World} {o : Obj} (k : Kept (· = w.heap.size) (w.alloc o) w') : Below w.heap.size w w' := Kept.out ((Below.refl _ _).alloc (Nat.le_refl _) o) k (fun i _ e => by omega) (by simp)
theorem rowDevR {w : World} {g : Nat} {V : List Value} (h : Blk w g 47 V) (hi : (Try.prog.info? 47).map (·.size) = some V.length) : RowRes Try.prog w 47 (.pointer (some ⟨g, 0, none⟩)) V :=
  ⟨⟨g, _, rfl, h⟩, ⟨_, Try.underlying47, rfl⟩, hi⟩

/-! ### what always holds, call by call -/
theorem DevM.Fits.tick {m : DevM} (h : m.Fits) : m.tick.Fits := ⟨by show min (m.ops + 1) 4611686018427387903 ≤ _; omega, h.left, h.len, h.at_⟩
theorem DevM.Fits.spend {m : DevM} (h : m.Fits) : m.spend.Fits := by
  have := h.left
  unfold DevM.spend
  split
  · refine ⟨h.ops, ?_, h.len, h.at_⟩
    show -9223372036854775808 ≤ (if 0 < m.left then m.left - 1 else m.left) ∧ (if 0 < m.left then m.left - 1 else m.left) ≤ 9223372036854775807
    split <;> omega
  · exact ⟨h.ops, h.left, h.len, h.at_⟩
theorem DevM.Fits.settle {m : DevM} (h : m.Fits) (k : Nat → Bool) : (m.settle k).Fits := ⟨h.ops, h.left, by show (putAll m.stable _).length ≤ 1024; rw [putAll_length]; exact h.len, fun p hp => by cases hp⟩
theorem DevM.Fits.flush {m : DevM} (h : m.Fits) : m.flush.1.Fits := by
  unfold DevM.flush
  split
  · exact DevM.Fits.settle h.tick.spend _
  · exact h.tick.spend
theorem DevM.Fits.write {m : DevM} (h : m.Fits) (i : Int) (s : Sec) : (m.write i s).1.Fits := by
  unfold DevM.write
  cases hh : m.has i
  · exact h.tick
  · have hs := h.tick.spend
    cases hl : m.lasts
    · exact hs
    · refine ⟨hs.ops, hs.left, hs.len, fun p hp => ?_⟩
      have hst : m.tick.spend.stable = m.stable := DevM.spend_stable m.tick
      show p.1 < m.tick.spend.stable.length
      rw [hst]
      rcases List.mem_append.1 hp with hp | hp
      · exact h.at_ p hp
      · simp only [List.mem_singleton] at hp
        subst hp
        obtain ⟨k, rfl, hk⟩ := has_nat hh
        exact hk
theorem DevM.Fits.brk {m : DevM} (h : m.Fits) {n : Int} (hn : I64 n) : (m.brk n).Fits := ⟨h.ops, hn, h.len, h.at_⟩
theorem DevM.Fits.crash {m : DevM} (h : m.Fits) (keep : List Bool) : (m.crash keep).Fits := ⟨h.ops, by show (-9223372036854775808 : Int) ≤ -1 ∧ (-1 : Int) ≤ 9223372036854775807; omega, (DevM.Fits.settle h _).len, (DevM.Fits.settle h _).at_⟩
theorem DevM.Fits.commit {m : DevM} (h : m.Fits) (u : U5) : (m.commit u).1.Fits := by
  unfold DevM.commit
  split
  · split
    · split
      · exact (h.flush.write _ _).flush
      · exact h.flush.write _ _
    · exact h.flush
  · exact h
theorem RunI.commit {m : DevM} {k : Nat} (h : RunI m k) (u : U5) : RunI (m.commit u).1 (k + 3) := by
  unfold DevM.commit
  split
  · split
    · split
      · exact (h.flush.write _ _).flush
      · exact (h.flush.write _ _).succ
    · exact h.flush.succ.succ
  · exact h.succ.succ.succ

/-- in the midst of it: the device's box, the uber's, the zero of the result -/
structure BX (w0 w : World) (V : List Value) (u : U5) : Prop where
  v : Blk w w0.heap.size 47 V
  u : Blk w (w0.heap.size + 1) 27 (u5L u)
  r : Blk w (w0.heap.size + 2) 47 (devL none 0 0 none 0 0 0 0 false)
  q : Below w0.heap.size w0 w
namespace BX
variable {w0 w w' : World} {V V' : List Value} {u : U5}
theorem call (h : BX w0 w V u) (hb : Below w.heap.size w w') : BX w0 w' V u := ⟨blk_out h.v hb, blk_out h.u hb, blk_out h.r hb, h.q.trans (hb.mono h.q.size)⟩
theorem setV (h : BX w0 w V u) (k : Kept (· = w0.heap.size) w w') (hb : Blk w' w0.heap.size 47 V') : BX w0 w' V' u :=
  ⟨hb, h.u.kept k (by omega), h.r.kept k (by omega), Kept.out h.q k (fun i _ e => by omega) h.q.size⟩
theorem lt (h : BX w0 w V u) : w0.heap.size + 2 < w.heap.size := h.r.lt
end BX

set_option maxHeartbeats 4000000 in
theorem rUCommit_no {w : World} {V : List Value} {m : DevM} {X : Nat → Prop} (h : RefIs w V m X) (hX : ∀ k, X k → k < w.heap.size) (hm : m.Fits) (ho : m.ops ≤ 1000000) (hp : m.pending.length ≤ 1000000) (u : U5) (hu : u.Fit) (hr : u.rightB = false) :
    Calls Try.prog 22 #[.agg V.toArray, .agg (u5L u).toArray] w fun e w' => ∃ V', e = .returned (.tuple #[.agg V'.toArray, .int .i64 (m.commit u).2]) ∧ RefIs w' V' (m.commit u).1 X ∧ Below w.heap.size w w' := by
  have hC : Hid (m.commit u = (m, 61)) := Lib.hid (by unfold DevM.commit; rw [if_neg (by rw [hr]; decide)])
  have hB : Hid (∀ W, Calls Try.prog 13 #[.agg (u5L u).toArray] W fun e w' => e = .returned (.tuple #[.agg (secL sec0).toArray, .int .i64 61]) ∧ Below W.heap.size W w') := Lib.hid (fun W => by
    have h := refUBytes_any u W hu
    unfold U5.secO at h
    rw [hr] at h
    exact h)
  have hz := zeroSec
  have hIV := Lib.hid h.info
  have hLV := Lib.hid h.len
  have hVone := Lib.hid h.one
  have hR0 : Hid (RefIs w V m (fun k => X k ∨ k = w.heap.size ∨ k = w.heap.size + 2)) := Lib.hid (h.grow fun k hk => by
    rcases hk with hk | hk | hk
    · exact .inl hk
    · exact .inr (by omega)
    · exact .inr (by omega))
  obtain ⟨W0, hW0⟩ : ∃ W0 : World, Hid (W0 = (((w.alloc (.cells V.toArray 47)).alloc (.cells (u5L u).toArray 27)).alloc (.cells #[.slice none 0 0, .slice none 0 0, .int .i64 0, .int .i64 0, .bool false] 47))) := ⟨_, Lib.hid rfl⟩
  have hX0 : Hid (BX w W0 V u) := Lib.hid (by
    rw [hW0.out]
    refine ⟨((Blk.new w 47 V).alloc _).alloc _, (two_new w _ _ _).alloc _, ?_, ?_⟩
    · have h := Blk.new ((w.alloc (.cells V.toArray 47)).alloc (.cells (u5L u).toArray 27)) 47 (devL none 0 0 none 0 0 0 0 false)
      rw [World.size_alloc, World.size_alloc] at h
      exact h
    · exact (two_below w _ _).alloc (by simp; omega) _)
  have hR1 := Lib.hid (hR0.out.below hX0.out.q)
  clear hR0 h
  go_enter Try.func22, Try.ntmps22
  go_upto_region 1 with (fail)
  rw [← hW0.out]
  clear hW0
  go_wp2_with (first
    | ((with_reducible refine atDst (some 9) (by rfl) ?_); refine wantList_load (by rfl) 27 _ rfl (w.heap.size + 1) 0 (by rfl) (u5L u) _ (range_blk hX0.out.u) Try.underlying27 rfl (infoUberL _) ?_))
  refine (hB.out _).mono ?_
  rintro e w2 ⟨rfl, b2⟩
  have hX2 := Lib.hid (hX0.out.call b2)
  have hR2 := Lib.hid (hR1.out.below b2)
  have hlt2 := hX2.out.lt
  clear b2
  go_wp2_with (first
    | ((with_reducible refine guardList ?_); refine atOper 6 (by rfl) ?_
       refine wantList_store (by rfl) 34 _ _ rfl w2.heap.size 0 (by rfl) (secL sec0) (by rfl) _ (secL sec0) (secL sec0) (Blk.new w2 34 (secL sec0)) (by simp only [secL_length]; decide) (secL_one _) (infoSecL _) whole_sec ?_
       intro w3 b3 k3 z3
       have q3 := below_new k3
       have hX3 := Lib.hid (hX2.out.call q3)
       have hR3 := Lib.hid (hR2.out.below q3)
       have hS3 := Lib.hid b3
       clear q3
       clear b3 k3 z3)
    | ((with_reducible refine atDst (some 15) (by rfl) ?_); refine wantList_load (by rfl) 47 _ rfl w.heap.size 0 (by rfl) (V) _ (range_blk hX3.out.v) Try.underlying47 rfl hIV.out ?_)
    | ((with_reducible refine guardList ?_); refine atOper 4 (by rfl) ?_
       refine wantList_store (by rfl) 47 _ _ rfl (w.heap.size + 2) 0 (by rfl) (V) (by rfl) _ (devL none 0 0 none 0 0 0 0 false) (V) (hX3.out.r) (by rw [hLV.out]; exact Nat.le_of_eq rfl) (hR3.out.one) (hIV.out) (whole_new (by rw [hLV.out]; rfl)) ?_
       intro w4 b4 k4 z4
       have hZ := Lib.hid b4
       have hRz := Lib.hid (hR3.out.kept k4 (fun i _ e => .inr (.inr e)))
       have qz := Lib.hid (Kept.out hX3.out.q k4 (fun i _ e => by omega) hX3.out.q.size)
       clear b4 k4 z4))
  refine bodyPost_ret (results_row_tmp rfl (rowDevR hZ.out hIV.out)) rfl ⟨V, by rw [hC.out]; rfl, by rw [hC.out]; exact hRz.out.grow (fun k hk => .inl (.inl hk)), qz.out⟩

set_option maxHeartbeats 4000000 in
theorem rUCommit_yes {w : World} {V : List Value} {m : DevM} {X : Nat → Prop} (h : RefIs w V m X) (hX : ∀ k, X k → k < w.heap.size) (hm : m.Fits) (ho : m.ops ≤ 1000000) (hp : m.pending.length ≤ 1000000) (u : U5) (hu : u.Fit) (hr : u.rightB = true) :
    Calls Try.prog 22 #[.agg V.toArray, .agg (u5L u).toArray] w fun e w' => ∃ V', e = .returned (.tuple #[.agg V'.toArray, .int .i64 (m.commit u).2]) ∧ RefIs w' V' (m.commit u).1 X ∧ Below w.heap.size w w' := by
  have hC : Hid (m.commit u = if m.flush.2 = 0 then
      if (m.flush.1.write ((u.x % 4 : Nat) : Int) u.sec).2 = 0 then (m.flush.1.write ((u.x % 4 : Nat) : Int) u.sec).1.flush
      else m.flush.1.write ((u.x % 4 : Nat) : Int) u.sec
    else m.flush) := Lib.hid (by unfold DevM.commit; rw [if_pos hr])
  have hB : Hid (∀ W, Calls Try.prog 13 #[.agg (u5L u).toArray] W fun e w' => e = .returned (.tuple #[.agg (secL u.sec).toArray, .int .i64 0]) ∧ Below W.heap.size W w') := Lib.hid (fun W => by
    have h := refUBytes_any u W hu
    unfold U5.secO at h
    rw [hr] at h
    exact h)
  have hx64 := hu.1
  have fF := hm.flush
  have fW := hm.flush.write ((u.x % 4 : Nat) : Int) u.sec
  have rI : RunI m 1000000 := ⟨ho, hp⟩
  have rF := rI.flush
  have rW := rF.write ((u.x % 4 : Nat) : Int) u.sec
  have feW := write_err m.flush.1 ((u.x % 4 : Nat) : Int) u.sec
  have feF := flush_err m
  have hm := Lib.hid hm
  have rI := Lib.hid rI
  have hSl := Lib.hid (secL_length u.sec)
  generalize m.commit u = MC at *
  generalize u.sec = SS at *
  have hz := zeroSec
  have hIV := Lib.hid h.info
  have hLV := Lib.hid h.len
  have hVone := Lib.hid h.one
  have hR0 : Hid (RefIs w V m (fun k => X k ∨ k = w.heap.size ∨ k = w.heap.size + 2)) := Lib.hid (h.grow fun k hk => by
    rcases hk with hk | hk | hk
    · exact .inl hk
    · exact .inr (by omega)
    · exact .inr (by omega))
  obtain ⟨W0, hW0⟩ : ∃ W0 : World, Hid (W0 = (((w.alloc (.cells V.toArray 47)).alloc (.cells (u5L u).toArray 27)).alloc (.cells #[.slice none 0 0, .slice none 0 0, .int .i64 0, .int .i64 0, .bool false] 47))) := ⟨_, Lib.hid rfl⟩
  have hX0 : Hid (BX w W0 V u) := Lib.hid (by
    rw [hW0.out]
    refine ⟨((Blk.new w 47 V).alloc _).alloc _, (two_new w _ _ _).alloc _, ?_, ?_⟩
    · have h := Blk.new ((w.alloc (.cells V.toArray 47)).alloc (.cells (u5L u).toArray 27)) 47 (devL none 0 0 none 0 0 0 0 false)
      rw [World.size_alloc, World.size_alloc] at h
      exact h
    · exact (two_below w _ _).alloc (by simp; omega) _)
  have hR1 := Lib.hid (hR0.out.below hX0.out.q)
  clear hR0 h
  go_enter Try.func22, Try.ntmps22
  go_upto_region 1 with (fail)
  rw [← hW0.out]
  clear hW0
  go_wp2_with (first
    | ((with_reducible refine atDst (some 9) (by rfl) ?_); refine wantList_load (by rfl) 27 _ rfl (w.heap.size + 1) 0 (by rfl) (u5L u) _ (range_blk hX0.out.u) Try.underlying27 rfl (infoUberL _) ?_))
  refine (hB.out _).mono ?_
  rintro e w2 ⟨rfl, b2⟩
  have hX2 := Lib.hid (hX0.out.call b2)
  have hR2 := Lib.hid (hR1.out.below b2)
  have hlt2 := hX2.out.lt
  clear b2
  go_wp2_with (first
    | ((with_reducible refine guardList ?_); refine atOper 6 (by rfl) ?_
       refine wantList_store (by rfl) 34 _ _ rfl w2.heap.size 0 (by rfl) (secL SS) (by rfl) _ (secL sec0) (secL SS) (Blk.new w2 34 (secL sec0)) (by simp only [secL_length]; decide) (secL_one _) (infoSecL _) whole_sec ?_
       intro w3 b3 k3 z3
       have q3 := below_new k3
       have hX3 := Lib.hid (hX2.out.call q3)
       have hR3 := Lib.hid (hR2.out.below q3)
       have hS3 := Lib.hid b3
       clear q3
       clear b3 k3 z3)
    | ((with_reducible refine atDst (some 18) (by rfl) ?_); refine wantList_load (by rfl) 47 _ rfl w.heap.size 0 (by rfl) (V) _ (range_blk hX3.out.v) Try.underlying47 rfl hIV.out ?_))
  have hX3' : Hid (∀ k, (X k ∨ k = w.heap.size ∨ k = w.heap.size + 2) → k < w3.heap.size) := Lib.hid (fun k hk => by
    have h1 := hX3.out.lt
    have h2 := hX3.out.q.size
    rcases hk with hk | hk | hk
    · have := hX k hk; omega
    · omega
    · omega)
  refine (r_Flush hR3.out hX3'.out hm.out (by have := rI.out.ops; omega) (by have := rI.out.pend; omega)).mono ?_
  generalize m.flush = mf at *
  obtain ⟨m1, e1⟩ := mf
  dsimp only at *
  have fF := Lib.hid fF
  have fW := Lib.hid fW
  have rF := Lib.hid rF
  have rW := Lib.hid rW
  rintro e w4 ⟨V1, rfl, r4, b4⟩
  have hX4 := Lib.hid (hX3.out.call b4)
  have hR4 := Lib.hid r4
  have hS4 := Lib.hid (blk_out hS3.out b4)
  have hz4 : Hid (w3.heap.size ≤ w4.heap.size) := Lib.hid b4.size
  have hLV1 := Lib.hid r4.len
  have hIV1 := Lib.hid r4.info
  have hs2 : Hid (w.heap.size + 2 < w2.heap.size) := Lib.hid hlt2
  clear b4 r4 hX3 hR3 hS3 hB hlt2
  rcases feF with rfl | rfl
  · go_wp2_with (first
      | ((with_reducible refine guardList ?_); refine atOper 2 (by rfl) ?_
         refine wantList_store (by rfl) 47 _ _ rfl w.heap.size 0 (by rfl) (V1) (by rfl) _ (V) (V1) (hX4.out.v) (by rw [hLV1.out, hLV.out]; decide) (hR4.out.one) (hIV1.out) (whole_new (by rw [hLV1.out, hLV.out])) ?_
         intro w5 b5 k5 z5
         have hXw5 := Lib.hid (hX4.out.setV k5 b5)
         have hRw5 := Lib.hid (hR4.out.kept k5 (fun i _ e => .inr (.inl e)))
         have hS5 := Lib.hid (hS4.out.kept k5 (by have := hs2.out; omega))
         have hz5 : Hid (w5.heap.size = w4.heap.size) := Lib.hid z5
         have c5 : w5.cell? ⟨w.heap.size + 1, 0, none⟩ = some (.int .u64 (u.x : Int)) := hXw5.out.u.cell 0
         clear b5 k5 z5)
      | ((with_reducible refine atDst (some 27) (by rfl) ?_); refine wantList_load (by rfl) 47 _ rfl w.heap.size 0 (by rfl) (V1) _ (range_blk hXw5.out.v) Try.underlying47 rfl hIV1.out ?_)
      | ((with_reducible refine atDst (some 32) (by rfl) ?_); refine wantList_load (by rfl) 34 _ rfl w2.heap.size 0 (by rfl) (secL SS) _ (range_blk hS5.out) Try.underlying34 rfl (infoSecL _) ?_))
    have hX5' : Hid (∀ k, (X k ∨ k = w.heap.size ∨ k = w.heap.size + 2) → k < w5.heap.size) := Lib.hid (fun k hk => by
      have := hX3'.out k hk
      have := hz4.out
      have := hz5.out
      omega)
    refine (r_Put hRw5.out hX5'.out fF.out (by have := rF.out.ops; omega) (by have := rF.out.pend; omega) ((u.x % 4 : Nat) : Int) (by unfold I64; omega) SS).mono ?_
    generalize m1.write ((u.x % 4 : Nat) : Int) SS = mw at *
    obtain ⟨m2, e2⟩ := mw
    dsimp only at *
    rintro e w6 ⟨V2, rfl, r6, b6⟩
    have hX6 := Lib.hid (hXw5.out.call b6)
    have hR6 := Lib.hid r6
    have hz6 : Hid (w5.heap.size ≤ w6.heap.size) := Lib.hid b6.size
    have hLV2 := Lib.hid r6.len
    have hIV2 := Lib.hid r6.info
    clear b6 r6 c5 hXw5 hRw5 hX4 hR4 hS4 hS5
    by_cases he2 : e2 = 0
    · subst he2
      go_wp2_with (first
        | ((with_reducible refine guardList ?_); refine atOper 2 (by rfl) ?_
           refine wantList_store (by rfl) 47 _ _ rfl w.heap.size 0 (by rfl) (V2) (by rfl) _ (V1) (V2) (hX6.out.v) (by rw [hLV2.out, hLV1.out]; decide) (hR6.out.one) (hIV2.out) (whole_new (by rw [hLV2.out, hLV1.out])) ?_
           intro w7 b7 k7 z7
           have hXw7 := Lib.hid (hX6.out.setV k7 b7)
           have hRw7 := Lib.hid (hR6.out.kept k7 (fun i _ e => .inr (.inl e)))
           have hz7 : Hid (w7.heap.size = w6.heap.size) := Lib.hid z7
           clear b7 k7 z7)
        | ((with_reducible refine atDst (some 40) (by rfl) ?_); refine wantList_load (by rfl) 47 _ rfl w.heap.size 0 (by rfl) (V2) _ (range_blk hXw7.out.v) Try.underlying47 rfl hIV2.out ?_))
      have hX7' : Hid (∀ k, (X k ∨ k = w.heap.size ∨ k = w.heap.size + 2) → k < w7.heap.size) := Lib.hid (fun k hk => by
        have := hX5'.out k hk
        have := hz6.out
        have := hz7.out
        omega)
      refine (r_Flush hRw7.out hX7'.out fW.out (by have := rW.out.ops; omega) (by have := rW.out.pend; omega)).mono ?_
      have hC : Hid (MC = m2.flush) := Lib.hid (by rw [hC.out]; simp)
      generalize m2.flush = mz at *
      obtain ⟨m3, e3⟩ := mz
      dsimp only at *
      rintro e w8 ⟨V3, rfl, r8, b8⟩
      have hX8 := Lib.hid (hXw7.out.call b8)
      have hR8 := Lib.hid r8
      have hLV3 := Lib.hid r8.len
      have hIV3 := Lib.hid r8.info
      clear b8 r8
      go_wp2_with (first
        | ((with_reducible refine guardList ?_); refine atOper 4 (by rfl) ?_
           refine wantList_store (by rfl) 47 _ _ rfl (w.heap.size + 2) 0 (by rfl) (V3) (by rfl) _ (devL none 0 0 none 0 0 0 0 false) (V3) (hX8.out.r) (by rw [hLV3.out]; exact Nat.le_of_eq rfl) (hR8.out.one) (hIV3.out) (whole_new (by rw [hLV3.out]; rfl)) ?_
           intro w9 b9 k9 z9
           have hZ := Lib.hid b9
           have hRz := Lib.hid (hR8.out.kept k9 (fun i _ e => .inr (.inr e)))
           have qz := Lib.hid (Kept.out hX8.out.q k9 (fun i _ e => by omega) hX8.out.q.size)
           clear b9 k9 z9))
      refine bodyPost_ret (results_row_tmp rfl (rowDevR hZ.out hIV3.out)) rfl ⟨V3, by rw [hC.out]; rfl, by rw [hC.out]; exact hRz.out.grow (fun k hk => .inl (.inl hk)), qz.out⟩
    · have hC : Hid (MC = (m2, e2)) := Lib.hid (by rw [hC.out]; simp [he2])
      have hq2 : (e2 != 0) = true := by simpa using he2
      go_wp2_with (first
        | ((with_reducible refine guardList ?_); refine atOper 2 (by rfl) ?_
           refine wantList_store (by rfl) 47 _ _ rfl w.heap.size 0 (by rfl) (V2) (by rfl) _ (V1) (V2) (hX6.out.v) (by rw [hLV2.out, hLV1.out]; decide) (hR6.out.one) (hIV2.out) (whole_new (by rw [hLV2.out, hLV1.out])) ?_
           intro w7 b7 k7 z7
           have hXw7 := Lib.hid (hX6.out.setV k7 b7)
           have hRw7 := Lib.hid (hR6.out.kept k7 (fun i _ e => .inr (.inl e)))
           clear b7 k7 z7)
        | ((with_reducible refine atDst (some 38) (by rfl) ?_); refine wantList_load (by rfl) 47 _ rfl w.heap.size 0 (by rfl) (V2) _ (range_blk hXw7.out.v) Try.underlying47 rfl hIV2.out ?_)
        | ((with_reducible refine guardList ?_); refine atOper 4 (by rfl) ?_
           refine wantList_store (by rfl) 47 _ _ rfl (w.heap.size + 2) 0 (by rfl) (V2) (by rfl) _ (devL none 0 0 none 0 0 0 0 false) (V2) (hXw7.out.r) (by rw [hLV2.out]; exact Nat.le_of_eq rfl) (hRw7.out.one) (hIV2.out) (whole_new (by rw [hLV2.out]; rfl)) ?_
           intro w8 b8 k8 z8
           have hZ := Lib.hid b8
           have hRz := Lib.hid (hRw7.out.kept k8 (fun i _ e => .inr (.inr e)))
           have qz := Lib.hid (Kept.out hXw7.out.q k8 (fun i _ e => by omega) hXw7.out.q.size)
           clear b8 k8 z8))
      refine bodyPost_ret (results_row_tmp rfl (rowDevR hZ.out hIV2.out)) rfl ⟨V2, by rw [hC.out]; rfl, by rw [hC.out]; exact hRz.out.grow (fun k hk => .inl (.inl hk)), qz.out⟩
  · have hC : Hid (MC = (m1, 42)) := Lib.hid (by rw [hC.out]; simp)
    go_wp2_with (first
      | ((with_reducible refine guardList ?_); refine atOper 2 (by rfl) ?_
         refine wantList_store (by rfl) 47 _ _ rfl w.heap.size 0 (by rfl) (V1) (by rfl) _ (V) (V1) (hX4.out.v) (by rw [hLV1.out, hLV.out]; decide) (hR4.out.one) (hIV1.out) (whole_new (by rw [hLV1.out, hLV.out])) ?_
         intro w5 b5 k5 z5
         have hXw5 := Lib.hid (hX4.out.setV k5 b5)
         have hRw5 := Lib.hid (hR4.out.kept k5 (fun i _ e => .inr (.inl e)))
         clear b5 k5 z5)
      | ((with_reducible refine atDst (some 24) (by rfl) ?_); refine wantList_load (by rfl) 47 _ rfl w.heap.size 0 (by rfl) (V1) _ (range_blk hXw5.out.v) Try.underlying47 rfl hIV1.out ?_)
      | ((with_reducible refine guardList ?_); refine atOper 4 (by rfl) ?_
         refine wantList_store (by rfl) 47 _ _ rfl (w.heap.size + 2) 0 (by rfl) (V1) (by rfl) _ (devL none 0 0 none 0 0 0 0 false) (V1) (hXw5.out.r) (by rw [hLV1.out]; exact Nat.le_of_eq rfl) (hRw5.out.one) (hIV1.out) (whole_new (by rw [hLV1.out]; rfl)) ?_
         intro w6 b6 k6 z6
         have hZ := Lib.hid b6
         have hRz := Lib.hid (hRw5.out.kept k6 (fun i _ e => .inr (.inr e)))
         have qz := Lib.hid (Kept.out hXw5.out.q k6 (fun i _ e => by omega) hXw5.out.q.size)
         clear b6 k6 z6))
    refine bodyPost_ret (results_row_tmp rfl (rowDevR hZ.out hIV1.out)) rfl ⟨V1, by rw [hC.out]; rfl, by rw [hC.out]; exact hRz.out.grow (fun k hk => .inl (.inl hk)), qz.out⟩

theorem rUCommit {w : World} {V : List Value} {m : DevM} {X : Nat → Prop} (h : RefIs w V m X) (hX : ∀ k, X k → k < w.heap.size) (hm : m.Fits) (ho : m.ops ≤ 1000000) (hp : m.pending.length ≤ 1000000) (u : U5) (hu : u.Fit) :
    Calls Try.prog 22 #[.agg V.toArray, .agg (u5L u).toArray] w fun e w' => ∃ V', e = .returned (.tuple #[.agg V'.toArray, .int .i64 (m.commit u).2]) ∧ RefIs w' V' (m.commit u).1 X ∧ Below w.heap.size w w' := by
  cases hr : u.rightB with
  | false => exact rUCommit_no h hX hm ho hp u hu hr
  | true => exact rUCommit_yes h hX hm ho hp u hu hr
end Go.Proofs.Ytfblehdeoloijaa

/- The document's own List and Best of its own device. -/
namespace Go.Proofs.Ytfblehdeoloijaa
open Go.ChangeShapes Go.WideShapes Go.ChangeAt Go.RowKit
set_option linter.unusedVariables false
set_option maxRecDepth 20000

section
variable {w : World} {V : List Value} {m : DevM} {X : Nat → Prop}
theorem r_There (h : RefIs w V m X) (hm : m.Fits) (i : Int) (hi : I64 i) :
    Calls Try.prog 58 #[.agg V.toArray, .int .i64 i] w fun e w' => e = .returned (.bool (m.has i)) ∧ Below w.heap.size w w' := by
  obtain ⟨so, sc, po, pc, rfl, h1, h2, h3⟩ := h.ex
  exact There_any so m.stable.length sc _ _ _ _ i hi hm.len w
theorem r_Now (h : RefIs w V m X) (hm : m.Fits) (hp : m.pending.length ≤ 1000000000) (k : Nat) (hk : k < m.stable.length) :
    Calls Try.prog 59 #[.agg V.toArray, .int .i64 (k : Int)] w fun e w' => e = .returned (.agg (secL (m.now.getD k sec0)).toArray) ∧ Below w.heap.size w w' := by
  obtain ⟨so, sc, po, pc, rfl, h1, h2, h3⟩ := h.ex
  have := Now_in so m.stable m.stable.length sc (Lib.hid rfl) po m.pending m.pending.length pc (Lib.hid rfl) (.int .i64 (m.ops : Int)) (.int .i64 (max m.left (-1))) (.bool m.dead) k hk hm.len hp w h1.st h1.pe
  rw [nowOf_put _ _ _ hk] at this
  exact this
theorem RefIs.dead (h : RefIs w V m X) {g : Nat} {t : TypeId} (hb : Blk w g t V) : w.cell? ⟨g, 4, none⟩ = some (.bool m.dead) := by
  obtain ⟨so, sc, po, pc, rfl, h1, h2, h3⟩ := h.ex
  exact hb.cell 4
end

/-- the list so far, in the midst of it -/
structure LU (w0 w : World) (V : List Value) (v : Value) (xs : List U5) : Prop where
  b : Blk w w0.heap.size 47 V
  own : w.ownsRow (w0.heap.size + 1) 27 7 v xs.length (rowsL u5L xs)
  q : Below w0.heap.size w0 w
namespace LU
variable {w0 w w' : World} {V : List Value} {v : Value} {xs : List U5}
theorem call (h : LU w0 w V v xs) (hb : Below w.heap.size w w') : LU w0 w' V v xs := ⟨blk_out h.b hb, owns_kept (F := fun _ => False) h.own (Kept.of_below hb _) (fun _ _ => id), h.q.trans (hb.mono h.q.size)⟩
theorem lt (h : LU w0 w V v xs) : w0.heap.size < w.heap.size := h.b.lt
end LU
/-- the list under way -/
structure NX (wn w : World) (v : Value) (L : List U5) : Prop where
  own : w.ownsRow wn.heap.size 27 7 v L.length (rowsL u5L L)
  q : Below wn.heap.size wn w
namespace NX
variable {wn w w' : World} {v v' : Value} {L : List U5}
theorem call (h : NX wn w v L) (hb : Below w.heap.size w w') : NX wn w' v L := ⟨owns_kept (F := fun _ => False) h.own (Kept.of_below hb _) (fun _ _ => id), h.q.trans (hb.mono h.q.size)⟩
theorem push (h : NX wn w v L) (u : U5) (ho : w'.ownsRow wn.heap.size 27 7 v' (L.length + 1) (rowsL u5L L ++ u5L u)) (hg : Grew w w' v v') : NX wn w' v' (L ++ [u]) :=
  ⟨by rw [rowsL_append, rowsL_one, List.length_append]; exact ho, h.q.trans (hg.out h.q.size (fun g hg' => (World.ownsRow.lt h.own g hg').1))⟩
end NX
theorem LU.next {w0 wn w : World} {V : List Value} {v0 v : Value} {xs L : List U5} (h : LU w0 wn V v0 xs) (hN : NX wn w v L) : LU w0 w V v L :=
  ⟨h.b.below hN.q h.b.lt, owns_low hN.own h.lt, h.q.trans (hN.q.mono h.q.size)⟩
theorem owns_reads7 {w : World} {base : Nat} {v : Value} {xs : List U5} (h : w.ownsRow base 27 7 v xs.length (rowsL u5L xs)) : ∃ ao cap, v = .slice ao xs.length cap ∧ (ao = none → cap = 0) ∧ Reads w ao (rowsL u5L xs) ∧ ∀ a, ao = some a → base ≤ a.block := by
  obtain ⟨co, cc, rfl, _, h2, h3⟩ := owns_shape h
  exact ⟨co, cc, rfl, h2, owns_reads h, h3⟩
theorem insU_lt {u x : U5} (h : u.x < x.x) (r : List U5) : insU u (x :: r) = u :: x :: r := by unfold insU; rw [if_pos h]
theorem insU_ge {u x : U5} (h : ¬ u.x < x.x) (r : List U5) : insU u (x :: r) = x :: insU u r := by rw [insU, if_neg h]
/-- what is still to come behind the list under way -/
def toCome (u : U5) (dn : Bool) (l : List U5) : List U5 := if dn then l else insU u l
theorem lists_none {m : DevM} {k : Nat} (h : m.slot k = none) : m.lists (k + 1) = m.lists k := by
  show (match m.slot k with | some u => insU u (m.lists k) | none => m.lists k) = _
  rw [h]
theorem lists_some {m : DevM} {k : Nat} {u : U5} (h : m.slot k = some u) : m.lists (k + 1) = insU u (m.lists k) := by
  show (match m.slot k with | some u => insU u (m.lists k) | none => m.lists k) = _
  rw [h]
theorem slot_off {m : DevM} {k : Nat} (h : m.has (k : Int) = false ∨ m.dead = true) : m.lists (k + 1) = m.lists k := by
  have : m.slot k = none := by
    unfold DevM.slot DevM.read
    rcases h with h | h
    · rw [h]; simp
    · cases m.has (k : Int)
      · simp
      · rw [h]; simp
  exact lists_none this
theorem slot_on {m : DevM} {k : Nat} (h : m.has (k : Int) = true) (hd : m.dead = false) : m.slot k = match u5O (m.now.getD k sec0) with | some u => if u.x % 4 = k then some u else none | none => none := by
  unfold DevM.slot DevM.read
  rw [h, hd]
  rfl

/-- the insertion under way: q elements are done -/
structure InsR (wn w : World) (u : U5) (xs : List U5) (v dv j : Value) (q : Nat) (dn : Bool) (L : List U5) : Prop where
  qle : q ≤ xs.length
  ej : j = .int .i64 (q : Int)
  ed : dv = .bool dn
  lf : dn = false → L.length ≤ q
  le : L.length ≤ q + 1
  nx : NX wn w v L
  ins : insU u xs = L ++ toCome u dn (xs.drop q)
def InsE (wn w : World) (u : U5) (xs : List U5) (v dv j : Value) : Prop := ∃ q dn L, InsR wn w u xs v dv j q dn L
theorem InsR.ex {wn w : World} {u : U5} {xs : List U5} {v dv j : Value} {q : Nat} {dn : Bool} {L : List U5} (h : InsR wn w u xs v dv j q dn L) : InsE wn w u xs v dv j := ⟨q, dn, L, h⟩
theorem run_bsU (u : U5) (w : World) : (Instr.buildSlice 59 1 #[(0, .agg (u5L u).toArray)]).run Try.prog w = .ok (.slice (some ⟨w.heap.size, 0, none⟩) 1 1) (w.alloc (.cells (u5L u).toArray 27)) := by kernel_rfl
/-- a slice of one uber -/
theorem wpList_bsU {ops : Array Oper} {rest : List Oper} {o : Oper} {a : Act} {w : World} {Q : Exit → Act → World → Prop} (hgd : o.guard = none) (x : Operand) (ho : o.op = .buildSlice 59 1 #[(0, x)]) (u : U5) (hx : a.eval x = .agg (u5L u).toArray)
    (h : wpList Try.prog ops Q rest (a.put o.dst (.slice (some ⟨w.heap.size, 0, none⟩) 1 1)) (w.alloc (.cells (u5L u).toArray 27))) : wpList Try.prog ops Q (o :: rest) a w :=
  wpList_plain hgd fun K hK => by
    unfold Oper.wp execOp
    simp only [ho, List.map_toArray, List.map_cons, List.map_nil, hx, Sem.run_bind, run_bsU u w, Result.andThen_ok, Sem.run_pure]
    exact hK _ _ h

set_option maxHeartbeats 8000000 in
theorem rUList {w : World} {V : List Value} {m : DevM} {X : Nat → Prop} (h : RefIs w V m X) (hm : m.Fits) (hp : m.pending.length ≤ 1000000000) :
    Calls Try.prog 26 #[.agg V.toArray] w fun e w' => ∃ ao cap, e = .returned (.slice ao m.list.length cap) ∧ (ao = none → cap = 0) ∧ Reads w' ao (rowsL u5L m.list) ∧ (∀ a, ao = some a → w.heap.size ≤ a.block) ∧ Below w.heap.size w w' := by
  obtain ⟨i0, hi, hz0, hz1, hz2⟩ := info_parts infoUber3
  have hIV := Lib.hid h.info
  have h := Lib.hid h
  have hm := Lib.hid hm
  have hp := Lib.hid hp
  have H0 : Hid (LU w ((w.alloc (.cells V.toArray 47)).alloc (.cells #[] 27)) V (.slice (some ⟨w.heap.size + 1, 0, none⟩) 0 0) []) := Lib.hid
    ⟨(Blk.new w _ V).alloc _, by
      have := World.ownsRow_made (w.alloc (.cells V.toArray 47)) (e := 27) (base := w.heap.size + 1) (size := 7) #[] 0 (by simp) (by decide) (by simp)
      rw [World.size_alloc] at this
      exact this, two_below w _ _⟩
  go_enter Try.func26, Try.ntmps26
  go_wp2
  go_loopw [3, 4] (fun v i wr => ∃ k : Nat, k ≤ 4 ∧ i = .int .i64 k ∧ Hid (LU w wr V v (m.lists k)))
    (fun _ i _ => (4 - intOf i).toNat)
  case atStart => exact ⟨0, by omega, rfl, H0⟩
  case round =>
    clear H0
    obtain ⟨k, hk, rfl, hL⟩ := hrel
    by_cases hlt : k < 4
    · have hT := Lib.hid (r_There (h.out.below hL.out.q) hm.out (k : Int) (by unfold I64; omega))
      have hcont : ∀ w', Hid (LU w w' V u3 (m.lists k)) → Hid (m.lists (k + 1) = m.lists k) → Hid (LU w w' V u3 (m.lists (k + 1))) := fun w' a b => Lib.hid (by rw [b.out]; exact a.out)
      have hcont := Lib.hid hcont
      go_wp2_with (first
        | ((with_reducible refine atDst (some 16) (by rfl) ?_); refine wantList_load (by rfl) 47 _ rfl w.heap.size 0 (by rfl) V _ (range_blk hL.out.b) Try.underlying47 rfl hIV.out ?_))
      refine hT.out.mono ?_
      rintro e w1 ⟨rfl, b1⟩
      have hL1 := Lib.hid (hL.out.call b1)
      have c4 : w1.cell? ⟨w.heap.size, 4, none⟩ = some (.bool m.dead) := (h.out.below hL1.out.q).dead hL1.out.b
      clear b1 hT hL
      cases hh : m.has (k : Int) with
      | false =>
        have hn := Lib.hid (slot_off (m := m) (k := k) (.inl hh))
        clear hh
        go_wp2
        go_roundw
        case rel => exact ⟨k + 1, by omega, by go_num, hcont.out _ hL1 hn⟩
        case measure => simp [intOf] <;> omega
      | true =>
        cases hd : m.dead with
        | true =>
          have hn := Lib.hid (slot_off (m := m) (k := k) (.inr hd))
          rw [hd] at c4
          clear hh hd
          go_wp2
          go_roundw
          case rel => exact ⟨k + 1, by omega, by go_num, hcont.out _ hL1 hn⟩
          case measure => simp [intOf] <;> omega
        | false =>
          rw [hd] at c4
          have hon := Lib.hid (slot_on hh hd)
          have hk' : k < m.stable.length := by
            have := hh
            unfold DevM.has at this
            simp at this
            exact this
          have hNow := Lib.hid (r_Now (h.out.below hL1.out.q) hm.out hp.out k hk')
          clear hh hd hk'
          go_wp2_with (first
            | ((with_reducible refine atDst (some 25) (by rfl) ?_); refine wantList_load (by rfl) 47 _ rfl w.heap.size 0 (by rfl) V _ (range_blk hL1.out.b) Try.underlying47 rfl hIV.out ?_))
          refine hNow.out.mono ?_
          generalize m.now.getD k sec0 = s at *
          rintro e w2 ⟨rfl, b2⟩
          have hL2 := Lib.hid (hL1.out.call b2)
          clear b2 hNow hL1 c4
          go_wp2_with fail
          refine (refURead_any s w2).mono ?_
          have hfit : Hid (∀ u, u5O s = some u → u.Fit) := Lib.hid (fun u hu => u5O_fit hu)
          cases ho : u5O s with
          | none =>
            intro e w3 hR
            obtain ⟨rfl, b3⟩ : e = .returned (.tuple #[.agg (u5L u5z).toArray, .bool false]) ∧ _ := hR
            have hL3 := Lib.hid (hL2.out.call b3)
            have hn : Hid (m.lists (k + 1) = m.lists k) := Lib.hid (by
              have e := hon.out
              rw [ho] at e
              exact lists_none e)
            clear b3 ho hfit hon
            go_wp2_with (first
              | ((with_reducible refine guardList ?_); refine atOper 5 (by rfl) ?_
                 refine wantList_store (by rfl) 27 _ _ rfl w3.heap.size 0 (by rfl) (u5L u5z) (by rfl) _ (u5L u5z) (u5L u5z) (Blk.new w3 27 (u5L u5z)) (Nat.le_of_eq rfl) (u5L_one _) (infoUberL _) rfl ?_
                 intro w4 b4 k4 z4
                 have hL4 := Lib.hid (hL3.out.call (below_new k4))
                 clear b4 k4 z4))
            go_roundw
            case rel => exact ⟨k + 1, by omega, by go_num, hcont.out _ hL4 hn⟩
            case measure => simp [intOf] <;> omega
          | some u =>
            have hfu := Lib.hid (hfit.out u ho)
            have hx64 := hfu.out.1
            intro e w3 hR
            obtain ⟨rfl, b3⟩ : e = .returned (.tuple #[.agg (u5L u).toArray, .bool true]) ∧ _ := hR
            have hL3 := Lib.hid (hL2.out.call b3)
            have hin : u.x % 4 = k → Hid (m.lists (k + 1) = insU u (m.lists k)) := fun hx => Lib.hid (by
              have e := hon.out
              rw [ho] at e
              simp only [hx, if_true] at e
              exact lists_some e)
            have hout : u.x % 4 ≠ k → Hid (m.lists (k + 1) = m.lists k) := fun hx => Lib.hid (by
              have e := hon.out
              rw [ho] at e
              simp only [hx, if_false] at e
              exact lists_none e)
            clear b3 ho hfit hon
            by_cases hxk : u.x % 4 = k
            · have hin := hin hxk
              have hq1 : ((u.x : Int) % 4 == (k : Int)) = true := by
                have : (u.x : Int) % 4 = (k : Int) := by omega
                simpa using this
              have hq2 : ((u.x : Int) % 4 != (k : Int)) = false := by unfold bne; rw [hq1]; rfl
              clear hout
              obtain ⟨ao, cap, e3, hao, hro, hlo⟩ := owns_reads7 hL3.out.own
              subst e3
              have hxl : (m.lists k).length ≤ 4 := Nat.le_trans (lists_length m k) hk
              have hro := Lib.hid hro
              clear hcont hao hlo hL2
              generalize m.lists k = xs at *
              go_wp2_with (first
                | ((with_reducible refine guardList ?_); refine atOper 5 (by rfl) ?_
                   refine wantList_store (by rfl) 27 _ _ rfl w3.heap.size 0 (by rfl) (u5L u) (by rfl) _ (u5L u5z) (u5L u) (Blk.new w3 27 (u5L u5z)) (Nat.le_of_eq rfl) (u5L_one _) (infoUberL _) rfl ?_
                   intro w4 b4 k4 z4
                   have hL4 := Lib.hid (hL3.out.call (below_new k4))
                   have hro4 := Lib.hid (hro.out.below (below_new k4))
                   have hU4 := Lib.hid b4
                   have c0 : w4.cell? ⟨w3.heap.size, 0, none⟩ = some (.int .u64 (u.x : Int)) := b4.cell 0
                   have hl34 : w3.heap.size < w4.heap.size := b4.lt
                   clear b4 k4 z4))
              clear c0 hL3 hro
              have hN0 : Hid (NX w4 (w4.alloc (.cells #[] 27)) (.slice (some ⟨w4.heap.size, 0, none⟩) 0 0) []) := Lib.hid ⟨World.ownsRow_made w4 (e := 27) (base := w4.heap.size) (size := 7) #[] 0 (Nat.le_refl _) (by decide) (by simp), (Below.refl _ _).alloc (Nat.le_refl _) _⟩
              go_loopw [7, 8, 44] (fun v dv j wr => InsE w4 wr u xs v dv j)
                (fun _ _ j _ => xs.length - (intOf j).toNat)
              case atStart => exact InsR.ex ⟨Nat.zero_le _, rfl, rfl, fun _ => Nat.le_refl _, Nat.zero_le _, hN0.out, rfl⟩
              case round =>
                clear hN0
                obtain ⟨q, dn, L, hR⟩ := hrel
                have hq := hR.qle
                have hj := hR.ej
                have hdv := hR.ed
                have hLf := hR.lf
                have hLl := hR.le
                have hN := Lib.hid hR.nx
                have hI := Lib.hid hR.ins
                clear hR
                subst hj hdv
                by_cases hlq : q < xs.length
                · obtain ⟨b, off, rfl, hbb, hrx⟩ := (hro4.out.below hN.out.q).rangeRow u5L_length (by decide) hlq
                  obtain ⟨x, hx⟩ : ∃ x : U5, Hid (x = xs[q]) := ⟨_, Lib.hid rfl⟩
                  rw [← hx.out] at hrx
                  have hrx := Lib.hid hrx
                  have hul : (u5L u).length = 7 := rfl
                  have hxl7 : (u5L x).length = 7 := rfl
                  have hdr : Hid (xs.drop q = x :: xs.drop (q + 1)) := Lib.hid (by rw [hx.out]; exact List.drop_eq_getElem_cons hlq)
                  have hlr : w4.heap.size ≤ wr.heap.size := hN.out.q.size
                  clear hx
                  cases dn with
                  | true =>
                    have hI' : Hid (insU u xs = (L ++ [x]) ++ toCome u true (xs.drop (q + 1))) := Lib.hid (by rw [hI.out, hdr.out]; simp [toCome])
                    clear hI hdr
                    go_wp2_with (first
                      | ((with_reducible refine atDst (some 47) (by rfl) ?_); refine wantList_load (by rfl) 27 _ rfl b (off + q * 7) (by rfl) (u5L x) _ (hrx.out) Try.underlying27 rfl (infoUberL _) ?_)
                      | ((with_reducible refine guardList ?_); refine atOper 10 (by rfl) ?_
                         refine wantList_store (by rfl) 27 _ _ rfl wr.heap.size 0 (by rfl) (u5L x) (by rfl) _ (u5L u5z) (u5L x) (Blk.new wr 27 (u5L u5z)) (Nat.le_of_eq rfl) (u5L_one _) (infoUberL _) rfl ?_
                         intro w5 b5 k5 z5
                         have hN5 := Lib.hid (hN.out.call (below_new k5))
                         have hU5 := Lib.hid (hU4.out.below hN5.out.q hl34)
                         have hx5 := Lib.hid b5
                         have cx : w5.cell? ⟨wr.heap.size, 0, none⟩ = some (.int .u64 (x.x : Int)) := b5.cell 0
                         have cu : w5.cell? ⟨w3.heap.size, 0, none⟩ = some (.int .u64 (u.x : Int)) := hU5.out.cell 0
                         have hl5 : wr.heap.size < w5.heap.size := b5.lt
                         clear b5 k5 z5)
                      | ((with_reducible refine atDst (some 62) (by rfl) ?_); refine wantList_load (by rfl) 27 _ rfl wr.heap.size 0 (by rfl) (u5L x) _ (range_blk hx5.out) Try.underlying27 rfl (infoUberL _) ?_)
                      | ((with_reducible refine atDst (some 63) (by rfl) ?_); refine wpList_bsU rfl (.tmp 62) rfl x (by rfl) ?_)
                      | (at_builtin
                         refine wpList_pushN rfl (.tmp 61) (.tmp 63) 59 rfl w4.heap.size 27 i0 _ 7 56 Try.underlying59 hi hz0 hz1 hz2 rfl (by decide) u7 (L).length (rowsL u5L (L)) w5 (by rfl) hN5.out.own 1 (u5L x).toArray (by rfl) rfl (u5L_one x) (by first | omega | (simp; omega)) (by first | omega | (simp; omega)) hN5.out.q.size ?_
                         intro v7 w7 ho hg hv
                         have hN7 := Lib.hid (hN5.out.push x ho hg)
                         clear ho hg hv))
                    go_roundw
                    have hF := InsR.ex (v := v7) (dv := .bool true) (j := .int .i64 ((q + 1 : Nat) : Int)) ⟨by omega, rfl, rfl, (fun h => by cases h), (by simp; omega), hN7.out, hI'.out⟩
                    case rel => first | exact hF | ((repeat apply Exists.intro); exact ⟨hF, rfl⟩)
                    case measure => simp [intOf] <;> omega
                  | false =>
                    by_cases hux : u.x < x.x
                    · have hI' : Hid (insU u xs = (L ++ [u] ++ [x]) ++ toCome u true (xs.drop (q + 1))) := Lib.hid (by rw [hI.out, hdr.out]; simp [toCome, insU_lt hux])
                      clear hI hdr
                      go_wp2_with (first
                        | ((with_reducible refine atDst (some 47) (by rfl) ?_); refine wantList_load (by rfl) 27 _ rfl b (off + q * 7) (by rfl) (u5L x) _ (hrx.out) Try.underlying27 rfl (infoUberL _) ?_)
                        | ((with_reducible refine guardList ?_); refine atOper 10 (by rfl) ?_
                           refine wantList_store (by rfl) 27 _ _ rfl wr.heap.size 0 (by rfl) (u5L x) (by rfl) _ (u5L u5z) (u5L x) (Blk.new wr 27 (u5L u5z)) (Nat.le_of_eq rfl) (u5L_one _) (infoUberL _) rfl ?_
                           intro w5 b5 k5 z5
                           have hN5 := Lib.hid (hN.out.call (below_new k5))
                           have hU5 := Lib.hid (hU4.out.below hN5.out.q hl34)
                           have hx5 := Lib.hid b5
                           have cx : w5.cell? ⟨wr.heap.size, 0, none⟩ = some (.int .u64 (x.x : Int)) := b5.cell 0
                           have cu : w5.cell? ⟨w3.heap.size, 0, none⟩ = some (.int .u64 (u.x : Int)) := hU5.out.cell 0
                           have hl5 : wr.heap.size < w5.heap.size := b5.lt
                           clear b5 k5 z5)
                        | ((with_reducible refine atDst (some 58) (by rfl) ?_); refine wantList_load (by rfl) 27 _ rfl w3.heap.size 0 (by rfl) (u5L u) _ (range_blk hU5.out) Try.underlying27 rfl (infoUberL _) ?_)
                        | ((with_reducible refine atDst (some 59) (by rfl) ?_); refine wpList_bsU rfl (.tmp 58) rfl u (by rfl) ?_)
                        | ((with_reducible refine atDst (some 63) (by rfl) ?_); refine wpList_bsU rfl (.tmp 62) rfl x (by rfl) ?_)
                        | (at_builtin
                           refine wpList_pushN rfl (.tmp 57) (.tmp 59) 59 rfl w4.heap.size 27 i0 _ 7 56 Try.underlying59 hi hz0 hz1 hz2 rfl (by decide) u7 (L).length (rowsL u5L (L)) w5 (by rfl) hN5.out.own 1 (u5L u).toArray (by rfl) rfl (u5L_one u) (by first | omega | (simp; omega)) (by first | omega | (simp; omega)) hN5.out.q.size ?_
                           intro v6 w6 ho hg hv
                           have hN6 := Lib.hid (hN5.out.push u ho hg)
                           have hx6 := Lib.hid (hx5.out.kept (Kept.of_grown (F := fun k => u7.ownBlock = some k) hg.1 (fun k hk _ => hk)) (fun e => by have := (World.ownsRow.lt hN.out.own _ e).2; omega))
                           clear ho hg hv)
                        | ((with_reducible refine atDst (some 62) (by rfl) ?_); refine wantList_load (by rfl) 27 _ rfl wr.heap.size 0 (by rfl) (u5L x) _ (range_blk hx6.out) Try.underlying27 rfl (infoUberL _) ?_)
                        | (at_builtin
                           refine wpList_pushN rfl (.tmp 61) (.tmp 63) 59 rfl w4.heap.size 27 i0 _ 7 56 Try.underlying59 hi hz0 hz1 hz2 rfl (by decide) v6 (L ++ [u]).length (rowsL u5L (L ++ [u])) w6 (by rfl) hN6.out.own 1 (u5L x).toArray (by rfl) rfl (u5L_one x) (by first | omega | (simp; omega)) (by first | omega | (simp; omega)) hN6.out.q.size ?_
                           intro v7 w7 ho hg hv
                           have hN7 := Lib.hid (hN6.out.push x ho hg)
                           clear ho hg hv))
                      go_roundw
                      have hF := InsR.ex (v := v7) (dv := .bool true) (j := .int .i64 ((q + 1 : Nat) : Int)) ⟨by omega, rfl, rfl, (fun h => by cases h), (by have := hLf rfl; simp; omega), hN7.out, hI'.out⟩
                      case rel => first | exact hF | ((repeat apply Exists.intro); exact ⟨hF, rfl⟩)
                      case measure => simp [intOf] <;> omega
                    · have hI' : Hid (insU u xs = (L ++ [x]) ++ toCome u false (xs.drop (q + 1))) := Lib.hid (by rw [hI.out, hdr.out]; simp [toCome, insU_ge hux])
                      clear hI hdr
                      go_wp2_with (first
                        | ((with_reducible refine atDst (some 47) (by rfl) ?_); refine wantList_load (by rfl) 27 _ rfl b (off + q * 7) (by rfl) (u5L x) _ (hrx.out) Try.underlying27 rfl (infoUberL _) ?_)
                        | ((with_reducible refine guardList ?_); refine atOper 10 (by rfl) ?_
                           refine wantList_store (by rfl) 27 _ _ rfl wr.heap.size 0 (by rfl) (u5L x) (by rfl) _ (u5L u5z) (u5L x) (Blk.new wr 27 (u5L u5z)) (Nat.le_of_eq rfl) (u5L_one _) (infoUberL _) rfl ?_
                           intro w5 b5 k5 z5
                           have hN5 := Lib.hid (hN.out.call (below_new k5))
                           have hU5 := Lib.hid (hU4.out.below hN5.out.q hl34)
                           have hx5 := Lib.hid b5
                           have cx : w5.cell? ⟨wr.heap.size, 0, none⟩ = some (.int .u64 (x.x : Int)) := b5.cell 0
                           have cu : w5.cell? ⟨w3.heap.size, 0, none⟩ = some (.int .u64 (u.x : Int)) := hU5.out.cell 0
                           have hl5 : wr.heap.size < w5.heap.size := b5.lt
                           clear b5 k5 z5)
                        | ((with_reducible refine atDst (some 62) (by rfl) ?_); refine wantList_load (by rfl) 27 _ rfl wr.heap.size 0 (by rfl) (u5L x) _ (range_blk hx5.out) Try.underlying27 rfl (infoUberL _) ?_)
                        | ((with_reducible refine atDst (some 63) (by rfl) ?_); refine wpList_bsU rfl (.tmp 62) rfl x (by rfl) ?_)
                        | (at_builtin
                           refine wpList_pushN rfl (.tmp 61) (.tmp 63) 59 rfl w4.heap.size 27 i0 _ 7 56 Try.underlying59 hi hz0 hz1 hz2 rfl (by decide) u7 (L).length (rowsL u5L (L)) w5 (by rfl) hN5.out.own 1 (u5L x).toArray (by rfl) rfl (u5L_one x) (by first | omega | (simp; omega)) (by first | omega | (simp; omega)) hN5.out.q.size ?_
                           intro v7 w7 ho hg hv
                           have hN7 := Lib.hid (hN5.out.push x ho hg)
                           clear ho hg hv))
                      go_roundw
                      have hF := InsR.ex (v := v7) (dv := .bool false) (j := .int .i64 ((q + 1 : Nat) : Int)) ⟨by omega, rfl, rfl, (fun _ => by have := hLf rfl; simp; omega), (by simp; omega), hN7.out, hI'.out⟩
                      case rel => first | exact hF | ((repeat apply Exists.intro); exact ⟨hF, rfl⟩)
                      case measure => simp [intOf] <;> omega
                · obtain rfl : q = xs.length := by omega
                  have hU := Lib.hid (hU4.out.below hN.out.q hl34)
                  have hul : (u5L u).length = 7 := rfl
                  cases dn with
                  | true =>
                    have hI' : Hid (insU u xs = L) := Lib.hid (by rw [hI.out, List.drop_length]; simp [toCome])
                    go_wp2
                    go_roundw
                    case rel => exact ⟨k + 1, by omega, by go_num, Lib.hid (by rw [hin.out, hI'.out]; exact hL4.out.next hN.out)⟩
                    case measure => simp [intOf] <;> omega
                  | false =>
                    have hI' : Hid (insU u xs = L ++ [u]) := Lib.hid (by rw [hI.out, List.drop_length]; rfl)
                    go_wp2_with (first
                      | ((with_reducible refine atDst (some 69) (by rfl) ?_); refine wantList_load (by rfl) 27 _ rfl w3.heap.size 0 (by rfl) (u5L u) _ (range_blk hU.out) Try.underlying27 rfl (infoUberL _) ?_)
                      | ((with_reducible refine atDst (some 70) (by rfl) ?_); refine wpList_bsU rfl (.tmp 69) rfl u (by rfl) ?_)
                      | (at_builtin
                         refine wpList_pushN rfl (.tmp 68) (.tmp 70) 59 rfl w4.heap.size 27 i0 _ 7 56 Try.underlying59 hi hz0 hz1 hz2 rfl (by decide) u7 (L).length (rowsL u5L (L)) wr (by rfl) hN.out.own 1 (u5L u).toArray (by rfl) rfl (u5L_one u) (by first | omega | (simp; omega)) (by first | omega | (simp; omega)) hN.out.q.size ?_
                         intro v7 w7 ho hg hv
                         have hN7 := Lib.hid (hN.out.push u ho hg)
                         clear ho hg hv))
                    go_roundw
                    case rel => first | exact ⟨k + 1, by omega, by go_num, Lib.hid (by rw [hin.out, hI'.out]; exact hL4.out.next hN7.out)⟩ | ((repeat apply Exists.intro); exact ⟨⟨k + 1, by omega, by go_num, Lib.hid (by rw [hin.out, hI'.out]; exact hL4.out.next hN7.out)⟩, rfl⟩)
                    case measure => simp [intOf] <;> omega
            · have hn := hout hxk
              have hq1 : ((u.x : Int) % 4 == (k : Int)) = false := by
                have : ¬ (u.x : Int) % 4 = (k : Int) := by omega
                simpa using this
              clear hin hout
              go_wp2_with (first
                | ((with_reducible refine guardList ?_); refine atOper 5 (by rfl) ?_
                   refine wantList_store (by rfl) 27 _ _ rfl w3.heap.size 0 (by rfl) (u5L u) (by rfl) _ (u5L u5z) (u5L u) (Blk.new w3 27 (u5L u5z)) (Nat.le_of_eq rfl) (u5L_one _) (infoUberL _) rfl ?_
                   intro w4 b4 k4 z4
                   have hL4 := Lib.hid (hL3.out.call (below_new k4))
                   have c0 : w4.cell? ⟨w3.heap.size, 0, none⟩ = some (.int .u64 (u.x : Int)) := b4.cell 0
                   clear b4 k4 z4))
              go_roundw
              case rel => exact ⟨k + 1, by omega, by go_num, hcont.out _ hL4 hn⟩
              case measure => simp [intOf] <;> omega
    · obtain rfl : k = 4 := by omega
      obtain ⟨ao, cap, rfl, hn, hr, hlo⟩ := owns_reads7 hL.out.own
      have hr := Lib.hid hr
      have hn := Lib.hid hn
      have hlo := Lib.hid hlo
      go_wp2
      go_ret
      exact ⟨ao, cap, rfl, hn.out, hr.out, fun a ha => Nat.le_of_succ_le (hlo.out a ha), hL.out.q⟩

set_option maxHeartbeats 4000000 in
theorem rUBest {w : World} {V : List Value} {m : DevM} {X : Nat → Prop} (h : RefIs w V m X) (hm : m.Fits) (hp : m.pending.length ≤ 1000000000) :
    Calls Try.prog 27 #[.agg V.toArray] w fun e w' => e = .returned (.tuple #[.agg (u5L (m.best.getD u5z)).toArray, .bool m.best.isSome]) ∧ Below w.heap.size w w' := by
  have hIV := Lib.hid h.info
  obtain ⟨wb, hwb⟩ : ∃ wb : World, Hid (wb = (w.alloc (.cells V.toArray 47)).alloc (.cells #[.int .u64 0, .int .u64 0, .int .i64 0, .int .u64 0, .int .u32 0, .int .i64 0, .int .i64 0] 27)) := ⟨_, Lib.hid rfl⟩
  have q0 : Hid (Below w.heap.size w wb) := Lib.hid (by rw [hwb.out]; exact two_below w _ _)
  have hV0 : Hid (Blk wb w.heap.size 47 V) := Lib.hid (by rw [hwb.out]; exact (Blk.new w _ V).alloc _)
  have hZ0 : Hid (Blk wb (w.heap.size + 1) 27 (u5L u5z)) := Lib.hid (by rw [hwb.out]; exact two_new w _ 27 (u5L u5z))
  have hL := Lib.hid (rUList (h.below q0.out) hm hp)
  obtain ⟨B, hB⟩ : ∃ B, B = m.best := ⟨_, rfl⟩
  obtain ⟨xs, hxs⟩ : ∃ xs, xs = m.list := ⟨_, rfl⟩
  have hB2 : Hid (B = lastU xs) := Lib.hid (by rw [hB, hxs]; rfl)
  have hll : xs.length ≤ 4 := by rw [hxs]; exact lists_length m 4
  rw [← hB]
  rw [← hxs] at hL
  clear hxs hB h hm hp
  go_enter Try.func27, Try.ntmps27
  go_upto_region 1 with (fail)
  rw [← hwb.out]
  clear hwb
  go_wp2_with (first
    | ((with_reducible refine atDst (some 5) (by rfl) ?_); refine wantList_load (by rfl) 47 _ rfl w.heap.size 0 (by rfl) V _ (range_blk hV0.out) Try.underlying47 rfl hIV.out ?_))
  refine hL.out.mono ?_
  rintro e w1 ⟨ao, cap, rfl, hn, hr, _, b1⟩
  have hZ1 := Lib.hid (blk_out hZ0.out b1)
  have q1 := Lib.hid (q0.out.trans (b1.mono q0.out.size))
  have hr := Lib.hid hr
  clear b1 hn hL hZ0 hV0
  by_cases hne : xs = []
  · subst hne
    obtain rfl : B = none := hB2.out
    clear hr
    go_wp2_with ((with_reducible refine guardList ?_)
                 refine wantList_store (by rfl) 27 _ _ rfl (w.heap.size + 1) 0 (by rfl) (u5L u5z) (by rfl) _ (u5L u5z) (u5L u5z) hZ1.out (Nat.le_of_eq rfl) (u5L_one _) (infoUberL _) whole_u ?_
                 intro w2 hZ2 k2 z2
                 have hZ2 := Lib.hid hZ2
                 have q2 := Lib.hid (Kept.out q1.out k2 (fun i _ e => by omega) q1.out.size)
                 clear k2 z2)
    refine bodyPost_ret (results_row_tmp rfl (rowU hZ2.out)) rfl ⟨rfl, q2.out⟩
  · obtain ⟨ys, u, rfl, hlast⟩ := last_split hne
    obtain rfl : B = some u := by rw [hB2.out]; exact hlast
    obtain ⟨b, off, rfl, hlb, hrg⟩ := last_range hr.out
    have hrg := Lib.hid hrg
    rw [List.length_append, List.length_singleton] at hll
    clear hlast hne hB2 hr
    rw [List.length_append, List.length_singleton]
    go_wp2_with (first
      | ((with_reducible refine guardList ?_); refine wantList_load (by rfl) 27 _ rfl b (off + ys.length * 7) (by rfl) (u5L u) _ hrg.out Try.underlying27 rfl (infoUberL _) ?_)
      | ((with_reducible refine guardList ?_)
         refine wantList_store (by rfl) 27 _ _ rfl (w.heap.size + 1) 0 (by rfl) (u5L u) (by rfl) _ (u5L u5z) (u5L u) hZ1.out (Nat.le_of_eq rfl) (u5L_one _) (infoUberL _) whole_u ?_
         intro w2 hZ2 k2 z2
         have hZ2 := Lib.hid hZ2
         have q2 := Lib.hid (Kept.out q1.out k2 (fun i _ e => by omega) q1.out.size)
         clear k2 z2))
    refine bodyPost_ret (results_row_tmp rfl (rowU hZ2.out)) rfl ⟨rfl, q2.out⟩

/-! ### two devices that differ in what was counted alone -/
structure Same (m n : DevM) : Prop where
  st : m.stable = n.stable
  pe : m.pending = n.pending
  le : m.left = n.left
  de : m.dead = n.dead
namespace Same
variable {m n : DevM}
theorem lasts (h : Same m n) : m.lasts = n.lasts := by unfold DevM.lasts; rw [h.le, h.de]
theorem has (h : Same m n) (i : Int) : m.has i = n.has i := by unfold DevM.has; rw [h.st]
theorem tick (h : Same m n) : Same m.tick n.tick := ⟨h.st, h.pe, h.le, h.de⟩
theorem tickL (h : Same m n) : Same m.tick n := ⟨h.st, h.pe, h.le, h.de⟩
theorem ticksL (h : Same m n) (k : Nat) : Same (m.ticks k) n := by
  induction k with
  | zero => exact h
  | succ k ih => exact ih.tickL
theorem spend (h : Same m n) : Same m.spend n.spend := by
  unfold DevM.spend
  rw [h.lasts, h.le]
  split
  · exact ⟨h.st, h.pe, rfl, h.de⟩
  · exact ⟨h.st, h.pe, rfl, rfl⟩
theorem settle (h : Same m n) (k : Nat → Bool) : Same (m.settle k) (n.settle k) := ⟨by show putAll m.stable (DevM.kept k m.pending) = putAll n.stable (DevM.kept k n.pending); rw [h.st, h.pe], rfl, h.le, h.de⟩
theorem flush (h : Same m n) : Same m.flush.1 n.flush.1 ∧ m.flush.2 = n.flush.2 := by
  unfold DevM.flush
  rw [h.lasts]
  split
  · exact ⟨Same.settle h.tick.spend _, rfl⟩
  · exact ⟨h.tick.spend, rfl⟩
theorem write (h : Same m n) (i : Int) (s : Sec) : Same (m.write i s).1 (n.write i s).1 ∧ (m.write i s).2 = (n.write i s).2 := by
  unfold DevM.write
  rw [h.has, h.lasts]
  have hs := h.tick.spend
  split
  · split
    · exact ⟨⟨hs.st, by show m.pending ++ _ = n.pending ++ _; rw [h.pe], hs.le, hs.de⟩, rfl⟩
    · exact ⟨hs, rfl⟩
  · exact ⟨h.tick, rfl⟩
theorem brk (h : Same m n) (z : Int) : Same (m.brk z) (n.brk z) := ⟨h.st, h.pe, rfl, h.de⟩
theorem crash (h : Same m n) (keep : List Bool) : Same (m.crash keep) (n.crash keep) := ⟨(h.settle _).st, rfl, rfl, rfl⟩
theorem commit (h : Same m n) (u : U5) : Same (m.commit u).1 (n.commit u).1 ∧ (m.commit u).2 = (n.commit u).2 := by
  obtain ⟨f1, f2⟩ := h.flush
  obtain ⟨g1, g2⟩ := f1.write ((u.x % 4 : Nat) : Int) u.sec
  unfold DevM.commit
  rw [f2, g2]
  split
  · split
    · split
      · exact g1.flush
      · exact ⟨g1, g2⟩
    · exact ⟨f1, f2⟩
  · exact ⟨h, rfl⟩
theorem now (h : Same m n) : m.now = n.now := by unfold DevM.now; rw [h.st, h.pe]
theorem read (h : Same m n) (i : Int) : m.read i = n.read i := by unfold DevM.read; rw [h.has, h.de, h.now]
theorem slot (h : Same m n) (i : Nat) : m.slot i = n.slot i := by unfold DevM.slot; rw [h.read]
theorem lists (h : Same m n) (k : Nat) : m.lists k = n.lists k := by
  induction k with
  | zero => rfl
  | succ k ih =>
    show (match m.slot k with | some u => insU u (m.lists k) | none => m.lists k) = (match n.slot k with | some u => insU u (n.lists k) | none => n.lists k)
    rw [h.slot, ih]
theorem list (h : Same m n) : m.list = n.list := h.lists 4
theorem best (h : Same m n) : m.best = n.best := by unfold DevM.best; rw [h.list]
theorem stab (h : Same m n) (i : Int) : m.stab i = n.stab i := by unfold DevM.stab; rw [h.has, h.st]
theorem fits (h : Same m n) (hm : m.Fits) (ho : n.ops ≤ 4611686018427387903) : n.Fits := ⟨ho, h.le ▸ hm.left, h.st ▸ hm.len, by rw [← h.pe, ← h.st]; exact hm.at_⟩
end Same
end Go.Proofs.Ytfblehdeoloijaa

/- A round of commits: the device, the document's own beside it, what is done. -/
namespace Go.Proofs.Ytfblehdeoloijaa
open Go.ChangeShapes Go.WideShapes Go.ChangeAt Go.RowKit
set_option linter.unusedVariables false
set_option maxRecDepth 20000

theorem dev_ne6 : 47 ≠ 51 := by decide
structure RT (w0 w : World) (d : Nat) (F : Nat → Prop) (md mr : DevM) (g : Nat) (V : List Value) (X : Nat → Prop) (A : Nat) (a : AcM) : Prop where
  runs : Runs w0.heap.size w d F md mr g V X
  act : Blk w A 51 (acL a)
  nA : ¬ F A
  q : Below w0.heap.size w0 w
namespace RT
variable {w0 w w' : World} {d g A : Nat} {F F' X : Nat → Prop} {md mr m' : DevM} {V V' : List Value} {a : AcM}
theorem start {o : Obj} (h : Runs w0.heap.size w d F md mr g V X) (hb : Below w0.heap.size w0 w) (k : Kept (· = w.heap.size) (w.alloc o) w') (b : Blk w' w.heap.size 51 (acL a)) : RT w0 w' d F md mr g V X w.heap.size a :=
  ⟨h.below (below_new k), b, fun hf => by have := h.dev.lt _ hf; omega, hb.trans ((below_new k).mono hb.size)⟩
theorem below (h : RT w0 w d F md mr g V X A a) (b : Below w.heap.size w w') : RT w0 w' d F md mr g V X A a := ⟨h.runs.below b, blk_out h.act b, h.nA, h.q.trans (b.mono h.q.size)⟩
theorem turnF (h : RT w0 w d F md mr g V X A a) (h1 : IsDev w' d F' m') (h2 : Kept F w w') (h3 : Grows w.heap.size F F') : RT w0 w' d F' m' mr g V (fun k => X k ∨ F' k) A a :=
  ⟨h.runs.callD h2 h1 h3 h.q.size, h.act.kept h2 h.nA, h3.not h.nA h.act.lt, Kept.out h.q h2 (fun i _ hf => h.runs.low i hf) h.q.size⟩
theorem turn (h : RT w0 w d F md mr g V X A a) (T : Turned w d F m' w') : ∃ F' X', RT w0 w' d F' m' mr g V X' A a := by
  obtain ⟨F', h1, h2, h3⟩ := T
  exact ⟨F', _, h.turnF h1 h2 h3⟩
theorem setV (h : RT w0 w d F md mr g V X A a) (hr : RefIs w V' m' X) (k : Kept (· = g) w w') (hb : Blk w' g 47 V') : RT w0 w' d F md m' g V' X A a :=
  ⟨h.runs.setV hr k hb, h.act.kept k (Ne.symm (h.runs.var.ne h.act dev_ne6)), h.nA, Kept.out h.q k (fun i _ e => by have := h.runs.gb; omega) h.q.size⟩
end RT
theorem Beside.fresh {w w' : World} {F : Nat → Prop} {ao : Option Addr} {cs : List Value} (hr : Reads w' ao cs) (hlo : ∀ a, ao = some a → w.heap.size ≤ a.block) (hF : ∀ k, F k → k < w.heap.size) : Beside w' F ao cs :=
  ⟨hr, fun hc a ha => ⟨hr.lt 0 (List.length_pos_iff.2 hc) a ha, fun hf => by have := hF _ hf; have := hlo a ha; omega⟩⟩
theorem Beside.below {w w' : World} {F : Nat → Prop} {ao : Option Addr} {cs : List Value} (h : Beside w F ao cs) (hb : Below w.heap.size w w') : Beside w' F ao cs :=
  ⟨h.reads.below hb, fun hc a ha => ⟨Nat.lt_of_lt_of_le (h.lt hc a ha).1 hb.size, (h.lt hc a ha).2⟩⟩
theorem commit_pend {m : DevM} (hm : m.pending = []) (u : U5) : (m.commit u).1.pending.length ≤ 1000000000 := by
  have h0 : m.pending.length = 0 := by rw [hm]; rfl
  have a1 := flush_pending m
  have a2 := write_pending m.flush.1 ((u.x % 4 : Nat) : Int) u.sec
  have a3 := flush_pending (m.flush.1.write ((u.x % 4 : Nat) : Int) u.sec).1
  unfold DevM.commit
  split
  · split
    · split
      · omega
      · omega
    · omega
  · show m.pending.length ≤ _
    omega
theorem ticks_pend (m : DevM) (k : Nat) : (m.ticks k).pending = m.pending := by
  induction k with
  | zero => rfl
  | succ k ih => exact ih
theorem ticks_list (m : DevM) (k : Nat) : (m.ticks k).list = m.list := list_ticks m k
end Go.Proofs.Ytfblehdeoloijaa
