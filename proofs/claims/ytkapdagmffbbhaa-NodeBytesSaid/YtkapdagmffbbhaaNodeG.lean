/- The chapter's example holds: one pointer behind holes. -/
import Derived.Test.YtkapdagmffbbhaaNodeF
import Derived.Test.YtkapdagmffbbhaaCall
namespace Go.Proofs.Ytkapdagmffbbhaa
open Go.ChangeShapes Go.WideShapes Go.ChangeAt Go.RowKit
set_option linter.unusedVariables false
set_option maxRecDepth 20000

theorem n2Dst (dst : Option Nat) {P : Program} {ops : Array Oper} {rest : List Oper} {o : Oper} {a : Act} {w : World} {Q : Exit → Act → World → Prop} (hd : o.dst = dst) (h : wpList P ops Q (o :: rest) a w) : wpList P ops Q (o :: rest) a w := h

def aliveP : P8 := holesP.set 7 ⟨9, 3, 1⟩
def aliveS : Sec := aliveP.sec
theorem built_alive : Try.prog.built 31 [(7, .agg #[.int .i64 9, .int .u64 3, .int .u32 1])] = some (p8L aliveP).toArray := by kernel_rfl
theorem aliveP_fit : aliveP.Fit := P8.set_fit holesP_fit 7 ⟨by unfold I64; dsimp only; omega, by decide, by decide⟩
theorem aliveP_right : aliveP.right = true := by decide +kernel
theorem aliveP_O : aliveP.secO = some aliveS := by unfold P8.secO; rw [aliveP_right]; rfl
/-- what is written, read -/
theorem nodeRP_sec {l : P8} (hf : l.Fit) (hr : l.right = true) : nodeRP l.sec = some l := by
  have : nodeP l.sec = l := Subtype.ext (nodeOf_S l.2 hf hr)
  unfold nodeRP
  rw [this, hr, if_pos rfl]
theorem aliveS_R : nodeRP aliveS = some aliveP := nodeRP_sec aliveP_fit aliveP_right
theorem aliveS_112 : (secL aliveS)[112]? = some (.int .u8 9) := by kernel_rfl
theorem aliveS_116 : (secL aliveS)[116]? = some (.int .u8 3) := by kernel_rfl
theorem aliveS_124 : (secL aliveS)[124]? = some (.int .u8 1) := by kernel_rfl
theorem aliveP_empty : nodeEmpty aliveP.1 = false := by decide +kernel
theorem aliveP_new : newestN 0 aliveP.1 = 3 := by decide +kernel

set_option maxHeartbeats 4000000 in
theorem nodeAlive_any (w : World) : Calls Try.prog 10 #[] w fun e w' => e = .returned (.bool true) ∧ Below w.heap.size w w' := by
  have hB := fun W => nBytes_any aliveP W aliveP_fit
  have hR := fun W => nRead_any aliveS W
  have hE := fun W => Empty_any aliveP W
  have hN := fun W => Newest_any aliveP W
  have s1 := Lib.hid aliveS_112
  have s2 := Lib.hid aliveS_116
  have s3 := Lib.hid aliveS_124
  have hb := built_alive
  have hq := fun w => eqP8 w aliveP aliveP
  rw [aliveP_O] at hB
  rw [aliveS_R] at hR
  rw [aliveP_empty] at hE
  rw [aliveP_new] at hN
  rw [decide_eq_true rfl] at hq
  generalize aliveP = l at *
  generalize aliveS = S at *
  have hB := Lib.hid hB
  have hR := Lib.hid hR
  have hE := Lib.hid hE
  have hN := Lib.hid hN
  have hz := zeroP8
  have hzs := zeroSec
  go_enter Try.func10, Try.ntmps10
  go_wp2_with (first
    | ((with_reducible refine n2Dst (some 7) (by rfl) ?_); refine wantList_build (by rfl) 31 [(7, .tmp 6)] rfl (p8L l) _ (by rfl) hb ?_)
    | ((with_reducible refine guardList ?_)
       refine wantList_store (by rfl) 31 _ _ rfl w.heap.size 0 (by rfl) (p8L l) (by rfl) _ (p8L holesP) (p8L l) (Blk.new w 31 (p8L holesP)) (by simp only [p8L_length]; decide) (p8L_one _) (infoP8 _) wholeP8 ?_
       intro w1 h1 k1 z1
       have h1 := Lib.hid h1
       have q1 := Lib.hid (Kept.out ((Below.refl w.heap.size w).alloc (Nat.le_refl _) (.cells (p8L holesP).toArray 31)) k1 (fun i _ e => by omega) (by simp))
       clear k1 z1)
    | ((with_reducible refine n2Dst (some 9) (by rfl) ?_); refine wantList_load (by rfl) 31 _ rfl w.heap.size 0 (by rfl) (p8L l) _ (rangeN h1.out) Try.underlying31 rfl (infoP8 _) ?_))
  refine (hB.out _).mono ?_
  rintro e w2 ⟨rfl, b2⟩
  have h2 := Lib.hid (blk_out h1.out b2)
  have q2 := Lib.hid (q1.out.trans (b2.mono q1.out.size))
  have hl2 := h2.out.lt
  clear b2
  go_wp2_with (first
    | ((with_reducible refine guardList ?_)
       refine wantList_store (by rfl) 23 _ _ rfl w2.heap.size 0 (by rfl) (secL S) (by rfl) _ (secL sec0) (secL S) (Blk.new w2 23 (secL sec0)) (by simp only [secL_length]; decide) (secL_one _) (infoSecL _) wholeSn ?_
       intro w3 h3 k3 z3
       have h3 := Lib.hid h3
       have l3 := Lib.hid ((h2.out.alloc _).kept k3 (by omega))
       have q3 := Lib.hid (Kept.out (q2.out.alloc q2.out.size (.cells (secL sec0).toArray 23)) k3 (fun i _ e => by have := q2.out.size; omega) (by have := q2.out.size; simp; omega))
       clear k3 z3)
    | ((with_reducible refine n2Dst (some 14) (by rfl) ?_); refine wantList_load (by rfl) 23 _ rfl w2.heap.size 0 (by rfl) (secL S) _ (rangeN h3.out) Try.underlying23 rfl (infoSecL _) ?_))
  refine (hR.out _).mono ?_
  rintro e w4 ⟨rfl, b4⟩
  have l4 := Lib.hid (blk_out l3.out b4)
  have h4 := Lib.hid (blk_out h3.out b4)
  have q4 := Lib.hid (q3.out.trans (b4.mono q3.out.size))
  have hl4 := h4.out.lt
  clear b4
  go_wp2_with (first
    | ((with_reducible refine guardList ?_)
       refine wantList_store (by rfl) 31 _ _ rfl w4.heap.size 0 (by rfl) (p8L l) (by rfl) _ (p8L holesP) (p8L l) (Blk.new w4 31 (p8L holesP)) (by simp only [p8L_length]; decide) (p8L_one _) (infoP8 _) wholeP8 ?_
       intro w5 k5 kk5 z5
       have k5 := Lib.hid k5
       have l5 := Lib.hid ((l4.out.alloc _).kept kk5 (by omega))
       have h5 := Lib.hid ((h4.out.alloc _).kept kk5 (by omega))
       have q5 := Lib.hid (Kept.out (q4.out.alloc q4.out.size (.cells (p8L holesP).toArray 31)) kk5 (fun i _ e => by have := q4.out.size; omega) (by have := q4.out.size; simp; omega))
       have d1 : w5.cell? ⟨w2.heap.size, 112, none⟩ = some (.int .u8 9) := by rw [h5.out.cell]; exact s1.out
       have d2 : w5.cell? ⟨w2.heap.size, 116, none⟩ = some (.int .u8 3) := by rw [h5.out.cell]; exact s2.out
       have d3 : w5.cell? ⟨w2.heap.size, 124, none⟩ = some (.int .u8 1) := by rw [h5.out.cell]; exact s3.out
       have hl5 := h5.out.lt
       clear kk5 z5)
    | ((with_reducible refine n2Dst (some 40) (by rfl) ?_); refine wantList_load (by rfl) 31 _ rfl w4.heap.size 0 (by rfl) (p8L l) _ (rangeN k5.out) Try.underlying31 rfl (infoP8 _) ?_)
    | ((with_reducible refine n2Dst (some 41) (by rfl) ?_); refine wantList_load (by rfl) 31 _ rfl w.heap.size 0 (by rfl) (p8L l) _ (rangeN l5.out) Try.underlying31 rfl (infoP8 _) ?_)
    | ((with_reducible refine n2Dst (some 45) (by rfl) ?_); refine wantList_load (by rfl) 31 _ rfl w.heap.size 0 (by rfl) (p8L l) _ (rangeN l5.out) Try.underlying31 rfl (infoP8 _) ?_))
  refine (hE.out _).mono ?_
  rintro e w6 ⟨rfl, b6⟩
  have l6 := Lib.hid (blk_out l5.out b6)
  have q6 := Lib.hid (q5.out.trans (b6.mono q5.out.size))
  clear b6 d1 d2 d3
  go_wp2_with ((with_reducible refine n2Dst (some 50) (by rfl) ?_); refine wantList_load (by rfl) 31 _ rfl w.heap.size 0 (by rfl) (p8L l) _ (rangeN l6.out) Try.underlying31 rfl (infoP8 _) ?_)
  refine (hN.out _).mono ?_
  rintro e w7 ⟨rfl, b7⟩
  have q7 := Lib.hid (q6.out.trans (b7.mono q6.out.size))
  clear b7
  go_wp2
  go_ret
  exact ⟨rfl, q7.out⟩
end Go.Proofs.Ytkapdagmffbbhaa
