/- The eight pointers of a sector: the program's Read. -/
import Derived.Test.YtkapdagmffbbhaaNodeD
namespace Go.Proofs.Ytkapdagmffbbhaa
open Go.ChangeShapes Go.WideShapes Go.ChangeAt Go.RowKit
set_option linter.unusedVariables false
set_option maxRecDepth 20000

def nodeP (s : Sec) : P8 := ⟨nodeOf s, nodeOf_length s⟩
theorem nodeP_get (s : Sec) {k : Nat} (h : k < 8) : (nodeP s).get k = p3Of (part16 s.1 k) := by rw [P8.get_eq _ h]; exact nodeOf_get s h
theorem nodeP_fit (s : Sec) : (nodeP s).Fit := nodeOf_fit s
def nodeRP (s : Sec) : Option P8 := if (nodeP s).right = true then some (nodeP s) else none
theorem nodeP_O (s : Sec) {k : Nat} (h : k < 8) : p3O (part16 s.1 k) = if ((nodeP s).get k).rightB = true then some ((nodeP s).get k) else none := by
  unfold p3O
  rw [nodeP_get s h, part_len s h]
  simp
/-- eight pointers and an error -/
def NRRes (n : Int) (o : Option P8) (w : World) (e : Ending) (w' : World) : Prop :=
  e = .returned (.tuple #[.agg (p8L (o.getD holesP)).toArray, .int .i64 (errI n o)]) ∧ Below w.heap.size w w'

/-- the first k, and holes -/
def readUp (s : Sec) : Nat → P8
  | 0 => holesP
  | k + 1 => (readUp s k).set k ((nodeP s).get k)
theorem readUp_get (s : Sec) : ∀ (k : Nat) {j : Nat}, j < 8 → (readUp s k).get j = if j < k then (nodeP s).get j else p3z
  | 0, j, h => by
    have := P8.get_mem holesP h
    rw [if_neg (by omega)]
    exact List.eq_of_mem_replicate this
  | k + 1, j, h => by
    show ((readUp s k).set k ((nodeP s).get k)).get j = _
    rw [P8.get_set _ _ h, readUp_get s k h]
    by_cases e : k = j
    · subst e; rw [if_pos rfl, if_pos (by omega)]
    · rw [if_neg e]
      by_cases h2 : j < k
      · rw [if_pos h2, if_pos (by omega)]
      · rw [if_neg h2, if_neg (by omega)]
theorem readUp_eight (s : Sec) : readUp s 8 = nodeP s := P8.ext8 fun k hk => by rw [readUp_get s 8 hk, if_pos hk]
theorem readUp_step (s : Sec) {k : Nat} (h : k < 8) : p8L (readUp s (k + 1)) = (p8L (readUp s k)).take (k * 3) ++ p3L ((nodeP s).get k) ++ (p8L (readUp s k)).drop (k * 3 + (p3L ((nodeP s).get k)).length) := by
  rw [p3L_length]; exact p8L_set _ h _

theorem nRead16 (bo : Option Addr) (cap : Nat) (bs : List UInt8) (hl : bs.length = 16) (w : World) (hy : Bytes w bo bs) (hc : 16 ≤ cap) (hm : cap ≤ 9223372036854775807) :
    Calls Try.prog 23 #[.slice bo 16 cap] w (RRes 51 (p3O bs) w) := by
  have := pRead_any bo cap bs w hy (by omega) hm
  rwa [hl] at this
theorem nRefRead16 (bo : Option Addr) (cap : Nat) (bs : List UInt8) (hl : bs.length = 16) (w : World) (hy : Bytes w bo bs) (hc : 16 ≤ cap) (hm : cap ≤ 9223372036854775807) :
    Calls Try.prog 24 #[.slice bo 16 cap] w (RRes 51 (p3O bs) w) := by
  have := pRefRead_any bo cap bs w hy (by omega) hm
  rwa [hl] at this

/-- sixteen of a sector's bytes -/
theorem cutSec_lh (g : Nat) {k : Nat} (h : k < 8) (x y : Int) (hx : x = 16 * k) (hy : y = 16 * k + 16) (w : World) :
    Sem.run Try.prog (Instr.sliceAt 23 (.pointer (some ⟨g, 0, none⟩)) (some (.int .i64 x)) (some (.int .i64 y)) none) w = .ok (.slice (some ⟨g, 16 * k, none⟩) 16 (128 - 16 * k)) w := by
  subst hx hy
  have hn : Try.prog.arrayLen 23 = 128 := by kernel_rfl
  have hu : Try.prog.underlying 23 = some (.array (Try.prog.arrayLen 23) (Try.prog.elem 23)) := by kernel_rfl
  have he : Try.prog.elem 23 = 5 := by kernel_rfl
  have hr := run_sliceAt_array_lh (P := Try.prog) w 23 ⟨g, 0, none⟩ hu .i64 .i64 (16 * (k : Int)) (16 * (k : Int) + 16) (by omega) (by omega) (by rw [hn]; omega)
  rw [hr, he, cells5]
  simp only [Result.andThen, hn, slicedAt]
  rw [if_neg (by omega), Nat.mul_one, Go.WideShapes.add_plain, Nat.zero_add, show (16 * (k : Int)).toNat = 16 * k from by omega, show (16 * (k : Int) + 16).toNat - 16 * k = 16 from by omega]

/-- in the midst of Read: the sector's box, the zero of the result, the pointers under way -/
structure NR (w0 w : World) (s : Sec) (m : P8) : Prop where
  u : Blk w w0.heap.size 23 (secL s)
  z : Blk w (w0.heap.size + 1) 31 (p8L holesP)
  a : Blk w (w0.heap.size + 2) 31 (p8L m)
  q : Below w0.heap.size w0 w
namespace NR
variable {w0 w w' : World} {s : Sec} {m m' : P8}
theorem call (h : NR w0 w s m) (hb : Below w.heap.size w w') : NR w0 w' s m := ⟨blk_out h.u hb, blk_out h.z hb, blk_out h.a hb, h.q.trans (hb.mono h.q.size)⟩
theorem alloc (h : NR w0 w s m) (o : Obj) : NR w0 (w.alloc o) s m := h.call ((Below.refl _ _).alloc (Nat.le_refl _) o)
theorem lay (h : NR w0 w s m) (k : Kept (· = w0.heap.size + 2) w w') (hb : Blk w' (w0.heap.size + 2) 31 (p8L m')) : NR w0 w' s m' :=
  ⟨h.u.kept k (by omega), h.z.kept k (by omega), hb, Kept.out h.q k (fun i _ e => by omega) h.q.size⟩
theorem lt (h : NR w0 w s m) : w0.heap.size + 2 < w.heap.size := h.a.lt
end NR
theorem NR.first (s : Sec) (w : World) : NR w (((w.alloc (.cells (secL s).toArray 23)).alloc (.cells (p8L holesP).toArray 31)).alloc (.cells (p8L holesP).toArray 31)) s holesP := by
  refine ⟨((Blk.new w _ _).alloc _).alloc _, (two_new w _ _ _).alloc _, ?_, (two_below w _ _).alloc (by simp; omega) _⟩
  have := Blk.new ((w.alloc (.cells (secL s).toArray 23)).alloc (.cells (p8L holesP).toArray 31)) 31 (p8L holesP)
  simpa using this

set_option maxHeartbeats 4000000 in
theorem nRead_any (s : Sec) (w : World) :
    Calls Try.prog 16 #[.agg (secL s).toArray] w (NRRes 51 (nodeRP s) w) := by
  obtain ⟨wb, hwb⟩ : ∃ wb : World, Hid (wb = ((w.alloc (.cells (secL s).toArray 23)).alloc (.cells (p8L holesP).toArray 31)).alloc (.cells (p8L holesP).toArray 31)) := ⟨_, Lib.hid rfl⟩
  have H0 : Hid (NR w wb s (readUp s 0)) := Lib.hid (by rw [hwb.out]; exact NR.first s w)
  have hO : Hid (∀ k : Nat, k < 8 → p3O (part16 s.1 k) = if ((nodeP s).get k).rightB = true then some ((nodeP s).get k) else none) := Lib.hid fun k hk => nodeP_O s hk
  have hP : Hid (∀ k : Nat, k < 8 → (part16 s.1 k).length = 16) := Lib.hid fun k hk => part_len s hk
  have hr : Hid (∀ k : Nat, k < 8 → rightUpto (nodeP s) (k + 1) = (rightUpto (nodeP s) k && ((nodeP s).get k).rightB)) := Lib.hid fun k hk => rightUpto_succ _ hk
  have hno : Hid (∀ k : Nat, k < 8 → ((nodeP s).get k).rightB = false → nodeRP s = none) := Lib.hid fun k hk h => by unfold nodeRP; rw [right_no hk h]; rfl
  have hyes : Hid (rightUpto (nodeP s) 8 = true → nodeRP s = some (nodeP s)) := Lib.hid fun h => by unfold nodeRP; rw [← rightUpto_eight, h]; rfl
  have hst : Hid (∀ k : Nat, k < 8 → p8L (readUp s (k + 1)) = (p8L (readUp s k)).take (k * 3) ++ p3L ((nodeP s).get k) ++ (p8L (readUp s k)).drop (k * 3 + (p3L ((nodeP s).get k)).length)) := Lib.hid fun k hk => readUp_step s hk
  have h8 : Hid (readUp s 8 = nodeP s) := Lib.hid (readUp_eight s)
  have hr0 : Hid (rightUpto (nodeP s) 0 = true) := Lib.hid rfl
  have hz := zeroP8
  generalize nodeRP s = O at *
  generalize nodeP s = N at *
  go_enter Try.func16, Try.ntmps16
  go_upto_region 2 with (fail)
  rw [← hwb.out]
  go_wp2
  go_loopw [8] (fun i wr => ∃ k : Nat, k ≤ 8 ∧ i = .int .i64 k ∧ Hid (rightUpto N k = true) ∧ Hid (NR w wr s (readUp s k)))
    (fun i _ => 8 - (intOf i).toNat)
  case atStart => exact ⟨0, by omega, rfl, hr0, H0⟩
  case round =>
    clear H0 hwb
    obtain ⟨k, hk, rfl, hR, H⟩ := hrel
    by_cases hlt : k < 8
    · have hr1 := hr.out k hlt
      have hno1 := hno.out k hlt
      have hst1 := hst.out k hlt
      have hO1 := hO.out k hlt
      have hP1 := Lib.hid (hP.out k hlt)
      have hrw : rightUpto N (k + 1) = (N.get k).rightB := by rw [hr1, hR.out, Bool.true_and]
      clear hr1
      generalize N.get k = qq at *
      generalize hrb : qq.rightB = rb at *
      have hcut := fun W => cutSec_lh w.heap.size hlt ((k : Int) * 16) (((k : Int) + 1) * 16) (by omega) (by omega) W
      have hgs := H.out.lt
      cases rb with
      | false =>
        obtain rfl : O = none := hno1 rfl
        have hO2 : Hid (p3O (part16 s.1 k) = none) := Lib.hid (by rw [hO1]; rfl)
        clear hrw hst1 hO1 hno1 hrb
        go_wp2_with fail
        refine (nRead16 (some ⟨w.heap.size, 16 * k, none⟩) (128 - 16 * k) (part16 s.1 k) hP1.out _ (nPart H.out.u k) (by omega) (by omega)).mono ?_
        rw [hO2.out]
        intro e w2 hR2
        obtain ⟨rfl, b2⟩ := RRes.nope hR2 rfl
        clear hR2
        have H2 := Lib.hid ((H.out.call b2).alloc (.cells #[.int .i64 0, .int .u64 0, .int .u32 0] 30))
        clear b2 hcut
        go_wp2_with (first
          | ((with_reducible refine guardList ?_); refine wantList_build (by rfl) 31 [] rfl (p8L holesP) _ (by rfl) builtP8 ?_)
          | ((with_reducible refine guardList ?_)
             refine wantList_store (by rfl) 31 _ _ rfl (w.heap.size + 1) 0 (by rfl) (p8L holesP) (by rfl) _ (p8L holesP) (p8L holesP) H2.out.z (by simp only [p8L_length]; decide) (p8L_one _) (infoP8 _) wholeP8 ?_
             intro w5 hR5 k5 z5
             have hR5 := Lib.hid hR5
             have q5 := Lib.hid (Kept.out H2.out.q k5 (fun i _ e => by omega) H2.out.q.size)
             clear z5 k5))
        refine bodyPost_ret (results_row_tmp rfl (rowP8 hR5.out)) rfl ⟨rfl, q5.out⟩
      | true =>
        have hrw := Lib.hid hrw
        have hO2 : Hid (p3O (part16 s.1 k) = some qq) := Lib.hid (by rw [hO1]; rfl)
        obtain ⟨a, b, sm⟩ := qq
        have hst1 := Lib.hid hst1
        clear hno1 hO1 hrb
        go_wp2_with fail
        refine (nRead16 (some ⟨w.heap.size, 16 * k, none⟩) (128 - 16 * k) (part16 s.1 k) hP1.out _ (nPart H.out.u k) (by omega) (by omega)).mono ?_
        rw [hO2.out]
        intro e w2 hR2
        obtain ⟨rfl, b2⟩ := RRes.yes hR2 rfl
        dsimp only
        have H2 := Lib.hid ((H.out.call b2).alloc (.cells #[.int .i64 a, .int .u64 (b : Int), .int .u32 (sm : Int)] 30))
        have hg2 := (H.out.call b2).lt
        clear b2 hcut hR2
        go_wp2_with (first
          | ((with_reducible refine guardList ?_)
             refine wantList_store (by rfl) 30 _ _ rfl (w.heap.size + 2) (k * 3) (by rfl) (p3L ⟨a, b, sm⟩) (by rfl) _ (p8L (readUp s k)) (p8L (readUp s (k + 1))) H2.out.a (by simp only [p8L_length, p3L_length]; omega) (p3L_one _) (infoPtr _) hst1.out ?_
             intro w5 hR5 k5 z5
             have H5 := Lib.hid (H2.out.lay k5 hR5)
             clear z5 k5 hR5))
        go_roundw
        case rel => exact ⟨k + 1, by omega, by go_num, hrw, H5⟩
        case measure => simp [intOf] <;> omega
    · obtain rfl : k = 8 := by omega
      obtain rfl : O = some N := hyes.out hR.out
      rw [h8.out] at H
      go_wp2_with (first
        | ((with_reducible refine guardList ?_); refine wantList_load (by rfl) 31 _ rfl (w.heap.size + 2) 0 (by rfl) (p8L N) _ (rangeN H.out.a) Try.underlying31 rfl (infoP8 _) ?_)
        | ((with_reducible refine guardList ?_)
           refine wantList_store (by rfl) 31 _ _ rfl (w.heap.size + 1) 0 (by rfl) (p8L N) (by rfl) _ (p8L holesP) (p8L N) H.out.z (by simp only [p8L_length]; decide) (p8L_one _) (infoP8 _) wholeP8 ?_
           intro w5 hR5 k5 z5
           have hR5 := Lib.hid hR5
           have q5 := Lib.hid (Kept.out H.out.q k5 (fun i _ e => by omega) H.out.q.size)
           clear z5 k5))
      refine bodyPost_ret (results_row_tmp rfl (rowP8 hR5.out)) rfl ⟨rfl, q5.out⟩
end Go.Proofs.Ytkapdagmffbbhaa
