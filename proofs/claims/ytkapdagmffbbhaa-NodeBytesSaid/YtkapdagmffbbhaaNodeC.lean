/- Eight pointers as a sector: the program's Bytes. -/
import Derived.Test.YtkapdagmffbbhaaNodeB
namespace Go.Proofs.Ytkapdagmffbbhaa
open Go.ChangeShapes Go.WideShapes Go.ChangeAt Go.RowKit
set_option linter.unusedVariables false
set_option maxRecDepth 20000

def P8.sec (l : P8) : Sec := nodeS l.1
def P8.right (l : P8) : Bool := nodeRight l.1
def P8.secO (l : P8) : Option Sec := if l.right = true then some l.sec else none
/-- a sector and an error -/
def NSRes (n : Int) (o : Option Sec) (w : World) (e : Ending) (w' : World) : Prop :=
  e = .returned (.tuple #[.agg (secL (o.getD sec0)).toArray, .int .i64 (errI n o)]) ∧ Below w.heap.size w w'

/-- are the first k right? -/
def rightUpto (l : P8) (k : Nat) : Bool := nodeRight (l.1.take k)
theorem rightUpto_succ (l : P8) {k : Nat} (h : k < 8) : rightUpto l (k + 1) = (rightUpto l k && (l.get k).rightB) := by
  unfold rightUpto nodeRight
  rw [List.take_succ_eq_append_getElem (l.lt h), List.all_append, l.get_eq h]
  simp
theorem rightUpto_eight (l : P8) : rightUpto l 8 = l.right := by
  unfold rightUpto P8.right
  rw [List.take_of_length_le (by rw [l.2]; omega)]
theorem right_no {l : P8} {k : Nat} (hk : k < 8) (h : (l.get k).rightB = false) : l.right = false := by
  unfold P8.right nodeRight
  rw [List.all_eq_false]
  exact ⟨_, l.get_mem hk, by rw [h]; decide⟩
theorem right_at {l : P8} {k : Nat} (hk : k < 8) (h : l.right = true) : (l.get k).rightB = true := by
  unfold P8.right nodeRight at h
  exact List.all_eq_true.1 h _ (l.get_mem hk)

/-- the bytes of the first k, and zeros -/
def nodeUp (l : P8) (k : Nat) : List UInt8 := nodeB (l.1.take k) ++ List.replicate (128 - 16 * k) 0
theorem nodeB_take (l : P8) {k : Nat} (h : k ≤ 8) : (nodeB (l.1.take k)).length = 16 * k := by rw [nodeB_length, List.length_take, l.2, Nat.min_eq_left h]
theorem nodeUp_length (l : P8) {k : Nat} (h : k ≤ 8) : (bytesV (nodeUp l k)).length = 128 := by
  rw [bytesV_length, nodeUp, List.length_append, nodeB_take l h, List.length_replicate]; omega
theorem nodeUp_zero (l : P8) : bytesV (nodeUp l 0) = secL sec0 := rfl
theorem nodeUp_eight (l : P8) : bytesV (nodeUp l 8) = secL l.sec := by
  unfold nodeUp secL P8.sec
  rw [nodeS_val l.2, List.take_of_length_le (by rw [l.2]; omega)]
  simp
theorem nodeUp_step (l : P8) {k : Nat} (h : k < 8) : bytesV (nodeUp l (k + 1)) = (bytesV (nodeUp l k)).take (16 * k) ++ (bytesV (l.get k).bytes ++ (bytesV (nodeUp l k)).drop (16 * k + 16)) := by
  have h1 := nodeB_take l (k := k) (by omega)
  have e : (nodeUp l (k + 1)) = (nodeUp l k).take (16 * k) ++ ((l.get k).bytes ++ (nodeUp l k).drop (16 * k + 16)) := by
    unfold nodeUp
    rw [List.take_succ_eq_append_getElem (l.lt h), nodeB_append, l.get_eq h]
    have e1 : nodeB [l.1[k]'(l.lt h)] = (l.1[k]'(l.lt h)).bytes := by simp [nodeB]
    rw [e1]
    generalize nodeB (l.1.take k) = X at *
    generalize (l.1[k]'(l.lt h)).bytes = Y
    rw [← h1, List.take_left, ← List.drop_drop, List.drop_left, List.drop_replicate, List.append_assoc, h1]
    congr 3
  rw [e]
  unfold bytesV
  rw [List.map_append, List.map_append, List.map_take, List.map_drop]

/-- a sector's bytes from here on -/
theorem cutSec_l (g : Nat) {k : Nat} (h : k < 8) (w : World) :
    Sem.run Try.prog (Instr.sliceAt 23 (.pointer (some ⟨g, 0, none⟩)) (some (.int .i64 ((k : Int) * 16))) none none) w = .ok (.slice (some ⟨g, 16 * k, none⟩) (128 - 16 * k) (128 - 16 * k)) w := by
  have hn : Try.prog.arrayLen 23 = 128 := by kernel_rfl
  have hu : Try.prog.underlying 23 = some (.array (Try.prog.arrayLen 23) (Try.prog.elem 23)) := by kernel_rfl
  have he : Try.prog.elem 23 = 5 := by kernel_rfl
  have hr := run_sliceAt_array_l (P := Try.prog) w 23 ⟨g, 0, none⟩ hu .i64 ((k : Int) * 16) (by omega) (by rw [hn]; omega)
  rw [hr, he, cells5]
  simp only [Result.andThen, hn, slicedAt]
  rw [if_neg (by omega), Nat.mul_one, Go.WideShapes.add_plain, Nat.zero_add, show ((k : Int) * 16).toNat = 16 * k from by omega]

/-- in the midst of Bytes: the zero of the result, the sector under way -/
structure NB (w0 w : World) (cs : List Value) : Prop where
  z : Blk w (w0.heap.size + 1) 23 (secL sec0)
  a : Blk w (w0.heap.size + 2) 23 cs
  q : Below w0.heap.size w0 w
namespace NB
variable {w0 w w' : World} {cs cs' : List Value}
theorem call (h : NB w0 w cs) (hb : Below w.heap.size w w') : NB w0 w' cs := ⟨blk_out h.z hb, blk_out h.a hb, h.q.trans (hb.mono h.q.size)⟩
theorem alloc (h : NB w0 w cs) (o : Obj) : NB w0 (w.alloc o) cs := h.call ((Below.refl _ _).alloc (Nat.le_refl _) o)
theorem copy (h : NB w0 w cs) (k : Kept (· = w0.heap.size + 2) w w') (hb : Blk w' (w0.heap.size + 2) 23 cs') : NB w0 w' cs' :=
  ⟨h.z.kept k (by omega), hb, Kept.out h.q k (fun i _ e => by omega) h.q.size⟩
theorem lt (h : NB w0 w cs) : w0.heap.size + 2 < w.heap.size := h.a.lt
end NB

set_option maxHeartbeats 4000000 in
theorem nBytes_any (l : P8) (w : World) (hf : l.Fit) :
    Calls Try.prog 9 #[.agg (p8L l).toArray] w (NSRes 51 l.secO w) := by
  obtain ⟨wb, hwb⟩ : ∃ wb : World, Hid (wb = ((w.alloc (.cells (p8L l).toArray 31)).alloc (.cells (secL sec0).toArray 23)).alloc (.cells (secL sec0).toArray 23)) := ⟨_, Lib.hid rfl⟩
  have hL : Hid (Blk wb w.heap.size 31 (p8L l)) := Lib.hid (by rw [hwb.out]; exact ((Blk.new w _ _).alloc _).alloc _)
  have H0 : Hid (NB w wb (bytesV (nodeUp l 0))) := Lib.hid (by
    rw [hwb.out, nodeUp_zero]
    refine ⟨(two_new w _ _ _).alloc _, ?_, ?_⟩
    · have := Blk.new ((w.alloc (.cells (p8L l).toArray 31)).alloc (.cells (secL sec0).toArray 23)) 23 (secL sec0)
      simpa using this
    · exact (two_below w _ _).alloc (by simp; omega) _)
  have hB : Hid (∀ k : Nat, k < 8 → ∀ W : World, Calls Try.prog 20 #[p3V (l.get k)] W (BRes 51 (l.get k).bytesO W)) := Lib.hid fun k hk W => pBytes_any _ _ _ W (P8.get_fit hf hk)
  have hx : Hid (∀ k : Nat, k < 8 → ∀ W : World, Sem.run Try.prog (Instr.index 31 (.agg (p8L l).toArray) (.int .i64 (k : Int))) W = .ok (.agg (p3L (l.get k)).toArray) W) := Lib.hid fun k hk W => idx8 l hk W
  have hr : Hid (∀ k : Nat, k < 8 → rightUpto l (k + 1) = (rightUpto l k && (l.get k).rightB)) := Lib.hid fun k hk => rightUpto_succ l hk
  have hno : Hid (∀ k : Nat, k < 8 → (l.get k).rightB = false → l.secO = none) := Lib.hid fun k hk h => by unfold P8.secO; rw [right_no hk h]; rfl
  have hyes : Hid (rightUpto l 8 = true → l.secO = some l.sec) := Lib.hid fun h => by unfold P8.secO; rw [← rightUpto_eight l, h]; rfl
  have hst : Hid (∀ k : Nat, k < 8 → bytesV (nodeUp l (k + 1)) = (bytesV (nodeUp l k)).take (16 * k) ++ (bytesV (l.get k).bytes ++ (bytesV (nodeUp l k)).drop (16 * k + 16))) := Lib.hid fun k hk => nodeUp_step l hk
  have h8 : Hid (bytesV (nodeUp l 8) = secL l.sec) := Lib.hid (nodeUp_eight l)
  have hln : Hid (∀ k : Nat, k ≤ 8 → (bytesV (nodeUp l k)).length = 128) := Lib.hid fun k hk => nodeUp_length l hk
  have hr0 : Hid (rightUpto l 0 = true) := Lib.hid rfl
  have hz := zeroSec
  generalize l.secO = O at *
  generalize l.sec = S at *
  go_enter Try.func9, Try.ntmps9
  go_upto_region 2 with (fail)
  rw [← hwb.out]
  go_wp2_with ((with_reducible refine guardList ?_); refine wantList_load (by rfl) 31 _ rfl w.heap.size 0 (by rfl) (p8L l) _ (rangeN hL.out) Try.underlying31 rfl (infoP8 _) ?_)
  generalize (p8L l).toArray = L at *
  go_loopw [10] (fun i wr => ∃ k : Nat, k ≤ 8 ∧ i = .int .i64 k ∧ Hid (rightUpto l k = true) ∧ Hid (NB w wr (bytesV (nodeUp l k))))
    (fun i _ => 8 - (intOf i).toNat)
  case atStart => exact ⟨0, by omega, rfl, hr0, H0⟩
  case round =>
    clear H0 hL hwb
    obtain ⟨k, hk, rfl, hR, H⟩ := hrel
    by_cases hlt : k < 8
    · have hB1 := hB.out k hlt
      have hx0 := hx.out k hlt
      have hr1 := hr.out k hlt
      have hno1 := hno.out k hlt
      have hst1 := Lib.hid (hst.out k hlt)
      have hln1 := Lib.hid (hln.out k (by omega))
      have hrw : rightUpto l (k + 1) = (l.get k).rightB := by rw [hr1, hR.out, Bool.true_and]
      clear hr1
      have hbl : Hid ((bytesV (l.get k).bytes).length = 16) := Lib.hid (by rw [bytesV_length, P3.bytes_length])
      generalize l.get k = qq at *
      have hbo : qq.bytesO = if qq.rightB then some qq.bytes else none := rfl
      generalize qq.rightB = rb at *
      generalize qq.bytes = BS at *
      generalize qq.bytesO = BO at *
      obtain ⟨a, b, s⟩ := qq
      unfold p3V at hB1
      dsimp only at hB1
      have hx1 : ∀ W, Sem.run Try.prog (Instr.index 31 (.agg L) (.int .i64 (k : Int))) W = .ok (.agg #[.int .i64 a, .int .u64 (b : Int), .int .u32 (s : Int)]) W := hx0
      clear hx0
      have hB1 := Lib.hid hB1
      have hcut := fun W => cutSec_l (w.heap.size + 2) hlt W
      have hgs := H.out.lt
      cases rb with
      | false =>
        obtain rfl : BO = none := hbo
        obtain rfl : O = none := hno1 rfl
        clear hcut hrw
        go_wp2_with fail
        refine (hB1.out _).mono ?_
        intro e w2 hR2
        obtain ⟨ao, cap, rfl, _, _, b2⟩ := hR2.nope rfl
        have H2 := Lib.hid ((H.out.alloc _).call b2)
        clear b2 hR2
        go_wp2_with (first
          | ((with_reducible refine guardList ?_); refine wantList_build (by rfl) 23 [] rfl (secL sec0) _ (by rfl) built_sec0 ?_)
          | ((with_reducible refine guardList ?_)
             refine wantList_store (by rfl) 23 _ _ rfl (w.heap.size + 1) 0 (by rfl) (secL sec0) (by rfl) _ (secL sec0) (secL sec0) H2.out.z (by simp only [secL_length]; decide) (secL_one _) (infoSecL _) wholeSn ?_
             intro w5 hR5 k5 z5
             have hR5 := Lib.hid hR5
             have q5 := Lib.hid (Kept.out H2.out.q k5 (fun i _ e => by omega) H2.out.q.size)
             clear z5 k5))
        refine bodyPost_ret (results_row_tmp rfl (rowSn hR5.out)) rfl ⟨rfl, q5.out⟩
      | true =>
        obtain rfl : BO = some BS := hbo
        have hrw := Lib.hid hrw
        clear hno1
        go_wp2_with fail
        refine (hB1.out _).mono ?_
        intro e w2 hR2
        obtain ⟨ao, cap, rfl, hrd, hc1, hc2, hnil, b2⟩ := hR2.yes rfl (m := 16) (by have := hbl.out; rwa [bytesV_length] at this)
        have H2 := Lib.hid ((H.out.alloc _).call b2)
        clear b2 hR2
        go_wp2_with (first
          | (refine wpList_copyR rfl (.tmp 24) (.tmp 25) 46 46 rfl 5 Try.underlying46 infoU8' (w.heap.size + 2) (16 * k) (128 - 16 * k) (128 - 16 * k) (by rfl) ao 16 cap (by rfl) 23 _ (bytesV (nodeUp l (k + 1))) (bytesV BS) H2.out.a hbl.out (by omega) (by omega) hrd.out (by rw [hln1.out]; omega) (bytesV_one _) hst1.out ?_
             intro w6 hb6 k6 z6
             have H6 := Lib.hid (H2.out.copy k6 hb6)
             clear hb6 k6 z6))
        go_roundw
        case rel => exact ⟨k + 1, by omega, by go_num, hrw, H6⟩
        case measure => simp [intOf] <;> omega
    · obtain rfl : k = 8 := by omega
      obtain rfl : O = some S := hyes.out hR.out
      rw [h8.out] at H
      go_wp2_with (first
        | ((with_reducible refine guardList ?_); refine wantList_load (by rfl) 23 _ rfl (w.heap.size + 2) 0 (by rfl) (secL S) _ (rangeN H.out.a) Try.underlying23 rfl (infoSecL _) ?_)
        | ((with_reducible refine guardList ?_)
           refine wantList_store (by rfl) 23 _ _ rfl (w.heap.size + 1) 0 (by rfl) (secL S) (by rfl) _ (secL sec0) (secL S) H.out.z (by simp only [secL_length]; decide) (secL_one _) (infoSecL _) wholeSn ?_
           intro w5 hR5 k5 z5
           have hR5 := Lib.hid hR5
           have q5 := Lib.hid (Kept.out H.out.q k5 (fun i _ e => by omega) H.out.q.size)
           clear z5 k5))
      refine bodyPost_ret (results_row_tmp rfl (rowSn hR5.out)) rfl ⟨rfl, q5.out⟩
end Go.Proofs.Ytkapdagmffbbhaa
