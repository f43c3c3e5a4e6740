/- Empty and Newest of eight pointers: the program's and the document's. -/
import Derived.Test.YtkapdagmffbbhaaNodeA
import Derived.Deep.Cut
namespace Go.Proofs.Ytkapdagmffbbhaa
open Go.ChangeShapes Go.WideShapes Go.ChangeAt Go.RowKit
set_option linter.unusedVariables false
set_option maxRecDepth 20000

theorem nodeEmpty_iff (l : P8) : nodeEmpty l.1 = decide (l = holesP) := by
  rw [Bool.eq_iff_iff, decide_eq_true_iff]
  unfold nodeEmpty
  rw [List.all_eq_true]
  have hole : ∀ q : P3, q.holeB = true ↔ q = p3z := fun q => by
    unfold P3.holeB
    simp only [Bool.and_eq_true, decide_eq_true_iff]
    exact ⟨fun ⟨h1, h2, h3⟩ => P3.ext' h1 h2 h3, fun h => by subst h; exact ⟨rfl, rfl, rfl⟩⟩
  constructor
  · intro h
    refine P8.ext8 fun k hk => ?_
    rw [(hole _).1 (h _ (l.get_mem hk))]
    have := P8.get_mem holesP hk
    exact (List.eq_of_mem_replicate this).symm
  · rintro rfl q hq
    exact (hole q).2 (List.eq_of_mem_replicate hq)

set_option maxHeartbeats 2000000 in
theorem Empty_any (l : P8) (w : World) :
    Calls Try.prog 11 #[.agg (p8L l).toArray] w fun e w' => e = .returned (.bool (nodeEmpty l.1)) ∧ Below w.heap.size w w' := by
  rw [nodeEmpty_iff]
  have heq := fun w => eqP8 w l holesP
  generalize decide (l = holesP) = b at *
  have h0 := Lib.hid (Blk.new w 31 (p8L l))
  go_enter Try.func11, Try.ntmps11
  go_wp2_with (first
    | ((with_reducible refine guardList ?_); refine wantList_load (by rfl) 31 _ rfl w.heap.size 0 (by rfl) (p8L l) _ (rangeN h0.out) Try.underlying31 rfl (infoP8 _) ?_)
    | ((with_reducible refine guardList ?_); refine wantList_build (by rfl) 31 [] rfl (p8L holesP) _ (by rfl) builtP8 ?_))
  go_ret
  exact ⟨rfl, (Below.refl _ _).alloc (Nat.le_refl _) _⟩

set_option maxHeartbeats 1000000 in
theorem refHole_any (a : Int) (b s : Nat) (w : World) :
    Calls Try.prog 22 #[p3V ⟨a, b, s⟩] w fun e w' => e = .returned (.bool (P3.holeB ⟨a, b, s⟩)) ∧ Below w.heap.size w w' := by
  unfold p3V
  go_enter Try.func22, Try.ntmps22
  go_wp2
  all_goals go_ret
  all_goals exact ⟨ret_bool (by first | (simp [P3.holeB, *]; done) | (simp [P3.holeB, *]; exact nat_eq_int s 0)), (Below.refl _ _).alloc (Nat.le_refl _) _⟩

/-- are the first k holes? -/
def holesUpto (l : P8) (k : Nat) : Bool := nodeEmpty (l.1.take k)
theorem holesUpto_succ (l : P8) {k : Nat} (h : k < 8) : holesUpto l (k + 1) = (holesUpto l k && (l.get k).holeB) := by
  unfold holesUpto nodeEmpty
  rw [List.take_succ_eq_append_getElem (l.lt h), List.all_append, l.get_eq h]
  simp
theorem holesUpto_eight (l : P8) : holesUpto l 8 = nodeEmpty l.1 := by
  unfold holesUpto
  rw [List.take_of_length_le (by rw [l.2]; omega)]
theorem holesUpto_no {l : P8} {k : Nat} (hk : k < 8) (h : (l.get k).holeB = false) : nodeEmpty l.1 = false := by
  unfold nodeEmpty
  rw [List.all_eq_false]
  exact ⟨_, l.get_mem hk, by rw [h]; decide⟩

set_option maxHeartbeats 4000000 in
theorem refEmpty_any (l : P8) (w : World) :
    Calls Try.prog 13 #[.agg (p8L l).toArray] w fun e w' => e = .returned (.bool (nodeEmpty l.1)) ∧ Below w.heap.size w w' := by
  obtain ⟨w1, hw1⟩ : ∃ w1 : World, Hid (w1 = w.alloc (.cells (p8L l).toArray 31)) := ⟨_, Lib.hid rfl⟩
  have hB1 : Hid (Blk w1 w.heap.size 31 (p8L l)) := Lib.hid (by rw [hw1.out]; exact Blk.new w _ _)
  have q1 : Hid (Below w.heap.size w w1) := Lib.hid (by rw [hw1.out]; exact (Below.refl _ _).alloc (Nat.le_refl _) _)
  have hn : Hid (∀ k, k < 8 → (l.get k).holeB = false → nodeEmpty l.1 = false) := Lib.hid fun k hk h => holesUpto_no hk h
  have hs : Hid (∀ k, k < 8 → holesUpto l (k + 1) = (holesUpto l k && (l.get k).holeB)) := Lib.hid fun k hk => holesUpto_succ l hk
  have h8 : Hid (holesUpto l 8 = nodeEmpty l.1) := Lib.hid (holesUpto_eight l)
  have hz : Hid (holesUpto l 0 = true) := Lib.hid rfl
  generalize nodeEmpty l.1 = E at *
  go_enter Try.func13, Try.ntmps13
  go_upto_region 1 with (fail)
  rw [← hw1.out]
  go_wp2
  go_loopw [3] (fun i wr => ∃ k : Nat, k ≤ 8 ∧ i = .int .i64 k ∧ Hid (holesUpto l k = true) ∧ Hid (Blk wr w.heap.size 31 (p8L l)) ∧ Hid (Below w.heap.size w wr))
    (fun i _ => 8 - (intOf i).toNat)
  case atStart => exact ⟨0, by omega, rfl, hz, hB1, q1⟩
  case round =>
    clear hB1 q1 hw1
    obtain ⟨k, hk, rfl, hh, hB, q⟩ := hrel
    by_cases hlt : k < 8
    · have hpk := fun W => refHole_any (l.get k).a (l.get k).b (l.get k).s W
      have hn1 : Hid ((l.get k).holeB = false → E = false) := Lib.hid (hn.out k hlt)
      have hs1 := Lib.hid (hs.out k hlt)
      obtain ⟨c0, c1, c2⟩ := p8_cells hB.out hlt
      have hl0 := hB.out.lt
      generalize l.get k = qq at *
      obtain ⟨a, b, s⟩ := qq
      dsimp only at hpk c0 c1 c2
      unfold p3V at hpk
      generalize P3.holeB ⟨a, b, s⟩ = hb at *
      have hpk := Lib.hid hpk
      go_wp2_with fail
      refine (hpk.out _).mono ?_
      rintro e w2 ⟨rfl, b2⟩
      have hB2 := Lib.hid (blk_out hB.out b2)
      have q2 := Lib.hid (q.out.trans (b2.mono q.out.size))
      clear b2 c0 c1 c2
      cases hb
      · obtain rfl : E = false := hn1.out rfl
        go_wp2
        go_ret
        exact ⟨rfl, q2.out⟩
      · go_wp2
        go_roundw
        case rel => exact ⟨k + 1, by omega, by go_num, Lib.hid (by rw [hs1.out, hh.out]; rfl), hB2, q2⟩
        case measure => simp [intOf] <;> omega
    · obtain rfl : k = 8 := by omega
      obtain rfl : E = true := by rw [← h8.out, hh.out]
      go_wp2
      go_ret
      exact ⟨rfl, q.out⟩

/-- the greatest birth of the first k -/
def newUpto (l : P8) (k : Nat) : Nat := newestN 0 (l.1.take k)
theorem newUpto_succ (l : P8) {k : Nat} (h : k < 8) : newUpto l (k + 1) = if newUpto l k < (l.get k).b then (l.get k).b else newUpto l k := by
  unfold newUpto
  rw [List.take_succ_eq_append_getElem (l.lt h), newestN_append, l.get_eq h]
  rfl
theorem newUpto_eight (l : P8) : newUpto l 8 = newestN 0 l.1 := by
  unfold newUpto
  rw [List.take_of_length_le (by rw [l.2]; omega)]

set_option maxHeartbeats 4000000 in
theorem refNewest_any (l : P8) (w : World) :
    Calls Try.prog 15 #[.agg (p8L l).toArray] w fun e w' => e = .returned (.int .u64 (newestN 0 l.1 : Int)) ∧ Below w.heap.size w w' := by
  obtain ⟨w1, hw1⟩ : ∃ w1 : World, Hid (w1 = w.alloc (.cells (p8L l).toArray 31)) := ⟨_, Lib.hid rfl⟩
  have hB1 : Hid (Blk w1 w.heap.size 31 (p8L l)) := Lib.hid (by rw [hw1.out]; exact Blk.new w _ _)
  have q1 : Hid (Below w.heap.size w w1) := Lib.hid (by rw [hw1.out]; exact (Below.refl _ _).alloc (Nat.le_refl _) _)
  have hs : Hid (∀ k, k < 8 → newUpto l (k + 1) = if newUpto l k < (l.get k).b then (l.get k).b else newUpto l k) := Lib.hid fun k hk => newUpto_succ l hk
  have h8 : Hid (newUpto l 8 = newestN 0 l.1) := Lib.hid (newUpto_eight l)
  have hz : Hid (newUpto l 0 = 0) := Lib.hid rfl
  generalize newestN 0 l.1 = E at *
  go_enter Try.func15, Try.ntmps15
  go_upto_region 1 with (fail)
  rw [← hw1.out]
  go_wp2
  go_loopw [3, 4] (fun n i wr => ∃ k m : Nat, k ≤ 8 ∧ i = .int .i64 k ∧ n = .int .u64 m ∧ Hid (newUpto l k = m) ∧ wr = w1)
    (fun _ i _ => 8 - (intOf i).toNat)
  case atStart => exact ⟨0, 0, by omega, rfl, rfl, hz, rfl⟩
  case round =>
    obtain ⟨k, m, hk, rfl, rfl, hh, rfl⟩ := hrel
    by_cases hlt : k < 8
    · have hs1 := Lib.hid (hs.out k hlt)
      obtain ⟨c0, c1, c2⟩ := p8_cells hB1.out hlt
      have hl0 := hB1.out.lt
      generalize (l.get k).b = b at *
      clear c0 c2
      by_cases hc : m < b
      · have e : Hid (newUpto l (k + 1) = b) := Lib.hid (by rw [hs1.out, hh.out, if_pos hc])
        go_wp2
        go_roundw
        case rel => exact ⟨k + 1, b, by omega, by go_num, rfl, e, trivial⟩
        case measure => simp [intOf] <;> omega
      · have e : Hid (newUpto l (k + 1) = m) := Lib.hid (by rw [hs1.out, hh.out, if_neg hc])
        go_wp2
        go_roundw
        case rel => exact ⟨k + 1, m, by omega, by go_num, rfl, e, trivial⟩
        case measure => simp [intOf] <;> omega
    · obtain rfl : k = 8 := by omega
      obtain rfl : E = m := by rw [← h8.out, hh.out]
      go_wp2
      go_ret
      exact ⟨rfl, q1.out⟩

set_option maxHeartbeats 4000000 in
theorem Newest_any (l : P8) (w : World) :
    Calls Try.prog 14 #[.agg (p8L l).toArray] w fun e w' => e = .returned (.int .u64 (newestN 0 l.1 : Int)) ∧ Below w.heap.size w w' := by
  obtain ⟨w1, hw1⟩ : ∃ w1 : World, Hid (w1 = w.alloc (.cells (p8L l).toArray 31)) := ⟨_, Lib.hid rfl⟩
  have hB1 : Hid (Blk w1 w.heap.size 31 (p8L l)) := Lib.hid (by rw [hw1.out]; exact Blk.new w _ _)
  have q1 : Hid (Below w.heap.size w w1) := Lib.hid (by rw [hw1.out]; exact (Below.refl _ _).alloc (Nat.le_refl _) _)
  have hs : Hid (∀ k, k < 8 → newUpto l (k + 1) = if newUpto l k < (l.get k).b then (l.get k).b else newUpto l k) := Lib.hid fun k hk => newUpto_succ l hk
  have h8 : Hid (newUpto l 8 = newestN 0 l.1) := Lib.hid (newUpto_eight l)
  have hz : Hid (newUpto l 0 = 0) := Lib.hid rfl
  have hx : Hid (∀ k : Nat, k < 8 → ∀ W : World, Sem.run Try.prog (Instr.index 31 (.agg (p8L l).toArray) (.int .i64 (k : Int))) W = .ok (.agg (p3L (l.get k)).toArray) W) := Lib.hid fun k hk W => idx8 l hk W
  generalize newestN 0 l.1 = E at *
  go_enter Try.func14, Try.ntmps14
  go_upto_region 1 with (fail)
  rw [← hw1.out]
  go_wp2_with ((with_reducible refine guardList ?_); refine wantList_load (by rfl) 31 _ rfl w.heap.size 0 (by rfl) (p8L l) _ (rangeN hB1.out) Try.underlying31 rfl (infoP8 _) ?_)
  generalize (p8L l).toArray = L at *
  go_loopw [3, 7] (fun n i wr => ∃ k m : Nat, k ≤ 8 ∧ i = .int .i64 k ∧ n = .int .u64 m ∧ Hid (newUpto l k = m) ∧ Hid (Below w.heap.size w wr))
    (fun _ i _ => 8 - (intOf i).toNat)
  case atStart => exact ⟨0, 0, by omega, rfl, rfl, hz, q1⟩
  case round =>
    clear hB1 q1 hw1
    obtain ⟨k, m, hk, rfl, rfl, hh, q⟩ := hrel
    by_cases hlt : k < 8
    · have hs1 := Lib.hid (hs.out k hlt)
      have hx0 := hx.out k hlt
      have hsz := q.out.size
      generalize l.get k = qq at *
      obtain ⟨a, b, s⟩ := qq
      have hx1 : ∀ W, Sem.run Try.prog (Instr.index 31 (.agg L) (.int .i64 (k : Int))) W = .ok (.agg #[.int .i64 a, .int .u64 (b : Int), .int .u32 (s : Int)]) W := hx0
      clear hx0
      dsimp only at hs1
      obtain ⟨z, hz1, hmax⟩ : ∃ z : Nat, Hid (newUpto l (k + 1) = z) ∧ ∀ (ts : Array TypeId) (t : TypeId) (W : World), Sem.run Try.prog (Builtin.max_ ts t #[.int .u64 (m : Int), .int .u64 (b : Int)]) W = .ok (.int .u64 (z : Int)) W := by
        by_cases hc : m < b
        · exact ⟨b, Lib.hid (by rw [hs1.out, hh.out, if_pos hc]), fun ts t W => by rw [run_max_int2, if_pos (by omega)]⟩
        · exact ⟨m, Lib.hid (by rw [hs1.out, hh.out, if_neg hc]), fun ts t W => by rw [run_max_int2, if_neg (by omega)]⟩
      go_wp2
      go_roundw
      case rel => exact ⟨k + 1, z, by omega, by go_num, rfl, hz1, Lib.hid (q.out.alloc hsz _)⟩
      case measure => simp [intOf] <;> omega
    · obtain rfl : k = 8 := by omega
      obtain rfl : E = m := by rw [← h8.out, hh.out]
      go_wp2
      go_ret
      exact ⟨rfl, q.out⟩
end Go.Proofs.Ytkapdagmffbbhaa
