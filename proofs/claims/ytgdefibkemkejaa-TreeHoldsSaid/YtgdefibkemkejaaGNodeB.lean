/- NodeB: the texts NodeG, NodeH, NodeI, one behind the other. -/
import Derived.Test.YtgdefibkemkejaaGNode
import Derived.Test.YtgdefibkemkejaaGBase
/- The chapter's example holds: one pointer behind holes. -/
namespace Go.Proofs.Ytgdefibkemkejaa
open Go.ChangeShapes Go.WideShapes Go.ChangeAt Go.RowKit
set_option linter.unusedVariables false
set_option maxRecDepth 20000

theorem n2Dst (dst : Option Nat) {P : Program} {ops : Array Oper} {rest : List Oper} {o : Oper} {a : Act} {w : World} {Q : Exit → Act → World → Prop} (hd : o.dst = dst) (h : wpList P ops Q (o :: rest) a w) : wpList P ops Q (o :: rest) a w := h

def aliveP : P8 := holesP.set 7 ⟨9, 3, 1⟩
def aliveS : Sec := aliveP.sec
theorem built_alive : Try.prog.built 66 [(7, .agg #[.int .i64 9, .int .u64 3, .int .u32 1])] = some (p8L aliveP).toArray := by kernel_rfl
theorem aliveP_fit : aliveP.Fit := P8.set_fit holesP_fit 7 ⟨by unfold I64; dsimp only; omega, by decide, by decide⟩
theorem aliveP_right : aliveP.right = true := by decide +kernel
theorem aliveP_O : aliveP.secO = some aliveS := by unfold P8.secO; rw [aliveP_right]; rfl
/-- what is written, read -/
theorem nodeRP_sec {l : P8} (hf : l.Fit) (hr : l.right = true) : nodeRP l.sec = some l := by
  have : nodeP l.sec = l := Subtype.ext (nodeOf_S l.2 hf hr)
  unfold nodeRP
  rw [this, hr, if_pos rfl]
theorem aliveS_R : nodeRP aliveS = some aliveP := nodeRP_sec aliveP_fit aliveP_right
theorem aliveS_112 : (secL aliveS)[112]? = some (.int .u8 9) := by kernel_rfl
theorem aliveS_116 : (secL aliveS)[116]? = some (.int .u8 3) := by kernel_rfl
theorem aliveS_124 : (secL aliveS)[124]? = some (.int .u8 1) := by kernel_rfl
theorem aliveP_empty : nodeEmpty aliveP.1 = false := by decide +kernel
theorem aliveP_new : newestN 0 aliveP.1 = 3 := by decide +kernel

end Go.Proofs.Ytgdefibkemkejaa

/- Blocks that a law of layer 10 lays beside each other; the calls' answers in a form for the laws. -/
namespace Go.Proofs.Ytgdefibkemkejaa
open Go.ChangeShapes Go.WideShapes Go.ChangeAt Go.RowKit
set_option linter.unusedVariables false
set_option maxRecDepth 20000

/-- blocks (number, type, cells) of the law's own -/
structure NT (w0 w : World) (L : List (Nat × TypeId × List Value)) : Prop where
  q : Below w0.heap.size w0 w
  blk : ∀ x ∈ L, Blk w x.1 x.2.1 x.2.2 ∧ w0.heap.size ≤ x.1
namespace NT
variable {w0 w w' : World} {L : List (Nat × TypeId × List Value)} {g : Nat} {t : TypeId} {cs cs' : List Value} {x y z u v : Nat × TypeId × List Value}
theorem start (w : World) : NT w w [] := ⟨Below.refl _ _, fun x hx => by cases hx⟩
theorem call (h : NT w0 w L) (hb : Below w.heap.size w w') : NT w0 w' L := ⟨h.q.trans (hb.mono h.q.size), fun x hx => ⟨blk_out (h.blk x hx).1 hb, (h.blk x hx).2⟩⟩
theorem drew (h : NT w0 w L) : NT w0 w.drew L := ⟨h.q.drew, h.blk⟩
theorem box (h : NT w0 w L) (t : TypeId) (cs : List Value) : NT w0 (w.alloc (.cells cs.toArray t)) ((w.heap.size, t, cs) :: L) := by
  have h1 := h.call ((Below.refl _ _).alloc (Nat.le_refl _) (.cells cs.toArray t))
  refine ⟨h1.q, fun x hx => ?_⟩
  rcases List.mem_cons.1 hx with rfl | hx
  · exact ⟨Blk.new w t cs, h.q.size⟩
  · exact h1.blk x hx
/-- a new block that is stored at once -/
theorem lay (h : NT w0 w L) {o : Obj} (k : Kept (· = w.heap.size) (w.alloc o) w') (hb : Blk w' w.heap.size t cs) : NT w0 w' ((w.heap.size, t, cs) :: L) := by
  have h1 := h.call ((Below.refl _ _).alloc (Nat.le_refl _) o)
  refine ⟨Kept.out h1.q k (fun i _ e => by have := h.q.size; omega) h1.q.size, fun x hx => ?_⟩
  rcases List.mem_cons.1 hx with rfl | hx
  · exact ⟨hb, h.q.size⟩
  · have hlt := (h.blk x hx).1.lt
    exact ⟨(h1.blk x hx).1.kept k (by omega), (h.blk x hx).2⟩
/-- the first one is overwritten -/
theorem over (h : NT w0 w ((g, t, cs) :: L)) (hn : ∀ x ∈ L, x.1 ≠ g) (k : Kept (· = g) w w') (hb : Blk w' g t cs') : NT w0 w' ((g, t, cs') :: L) := by
  have h0 := (h.blk _ (.head _)).2
  refine ⟨Kept.out h.q k (fun i _ e => by rw [e]; exact h0) h.q.size, fun x hx => ?_⟩
  rcases List.mem_cons.1 hx with rfl | hx
  · exact ⟨hb, h0⟩
  · exact ⟨(h.blk x (.tail _ hx)).1.kept k (hn x hx), (h.blk x (.tail _ hx)).2⟩
theorem b0 (h : NT w0 w ((g, t, cs) :: L)) : Blk w g t cs := (h.blk _ (.head _)).1
theorem tail (h : NT w0 w (x :: L)) : NT w0 w L := ⟨h.q, fun y hy => h.blk y (.tail _ hy)⟩
theorem b1 (h : NT w0 w (x :: (g, t, cs) :: L)) : Blk w g t cs := h.tail.b0
theorem b2 (h : NT w0 w (x :: y :: (g, t, cs) :: L)) : Blk w g t cs := h.tail.b1
theorem b3 (h : NT w0 w (x :: y :: z :: (g, t, cs) :: L)) : Blk w g t cs := h.tail.b2
theorem b4 (h : NT w0 w (x :: y :: z :: u :: (g, t, cs) :: L)) : Blk w g t cs := h.tail.b3
theorem lt0 (h : NT w0 w ((g, t, cs) :: L)) : g < w.heap.size := h.b0.lt
end NT
theorem holesP_right : holesP.right = true := by decide +kernel
theorem holesP_sec : holesP.sec = sec0 := nodeS_holes
theorem holesP_O : holesP.secO = some sec0 := by unfold P8.secO; rw [holesP_right, if_pos rfl, holesP_sec]
theorem holesP_empty : nodeEmpty holesP.1 = true := by rw [nodeEmpty_iff, decide_eq_true rfl]
end Go.Proofs.Ytgdefibkemkejaa

/- What the laws of layer 10 ask of plain data. -/
namespace Go.Proofs.Ytgdefibkemkejaa
open Go.ChangeShapes Go.WideShapes Go.ChangeAt Go.RowKit
set_option linter.unusedVariables false
set_option maxRecDepth 20000

theorem secO_yes {l : P8} (h : l.right = true) : l.secO = some l.sec := by unfold P8.secO; rw [h]; rfl
theorem secO_no {l : P8} (h : l.right = false) : l.secO = none := by unfold P8.secO; rw [h]; rfl
theorem nodeRP_some {s : Sec} {k : P8} (h : nodeRP s = some k) : k.secO = some s ∧ k.Fit := by
  unfold nodeRP at h
  split at h
  · rename_i hr
    cases h
    refine ⟨?_, nodeP_fit s⟩
    rw [secO_yes hr]
    congr 1
    exact nodeS_of s
  · cases h
theorem newest_lt {l : P8} (hf : l.Fit) : newestN 0 l.1 < 18446744073709551616 := newestN_lt (by decide) hf
theorem not_since8 (l : P8) {k : Nat} (h : k < 8) : (l.get k).sinceB (newestN 0 l.1) = false := not_since _ (l.get_mem h)
/-- Since, of a pointer of eight -/
theorem since8 (l : P8) (hf : l.Fit) {k : Nat} (h : k < 8) (w : World) : Calls Try.prog 39 #[.agg (p3L (l.get k)).toArray, .int .u64 (newestN 0 l.1 : Int)] w fun e w' => e = .returned (.bool false) ∧ Below w.heap.size w w' := by
  have := pSince_any (l.get k).a (l.get k).b (l.get k).s (newestN 0 l.1) w (P8.get_fit hf h) (newest_lt hf)
  rw [show (⟨(l.get k).a, (l.get k).b, (l.get k).s⟩ : P3) = l.get k from rfl, not_since8 l h] at this
  exact this
theorem right8 (l : P8) (hf : l.Fit) {k : Nat} (h : k < 8) (w : World) : Calls Try.prog 73 #[.agg (p3L (l.get k)).toArray] w fun e w' => e = .returned (.bool (l.get k).rightB) ∧ Below w.heap.size w w' :=
  pRight_any (l.get k).a (l.get k).b (l.get k).s w (P8.get_fit hf h)
theorem sec_inj8 {l m : P8} (hl : l.Fit) (hm : m.Fit) (rl : l.right = true) (rm : m.right = true) (e : l.sec = m.sec) : l = m := Subtype.ext (nodeS_inj l.2 m.2 hl hm rl rm e)
theorem set_eq_iff (l : P8) {k : Nat} (hk : k < 8) (q : P3) : l = l.set k q ↔ l.get k = q := by
  constructor
  · intro h
    have := P8.get_set l (k := k) (j := k) q hk
    rw [if_pos rfl, ← h] at this
    exact this
  · intro h
    refine P8.ext8 fun j hj => ?_
    rw [P8.get_set l q hj]
    split
    · rename_i e; subst e; exact h
    · rfl
theorem newest_set (l : P8) {k : Nat} (hk : k < 8) (q : P3) : q.b ≤ newestN 0 (l.set k q).1 := by
  have h1 : q ∈ (l.set k q).1 := by
    have := P8.get_mem (l.set k q) hk
    rw [P8.get_set l q hk, if_pos rfl] at this
    exact this
  exact (newestN_le 0 _).2 q h1
theorem ones_part {q : P3} {i : Nat} (hi : i < 8) {k : Nat} (hk : k < 8) : part16 (holesP.set i q).sec.1 k = if k = i then q.bytes else List.replicate 16 0 := holes_part hi hk
theorem part_get (s : Sec) {j : Nat} (h : j < 128) : s.1[j]'(by rw [s.2]; exact h) = (part16 s.1 (j / 16))[j % 16]'(by rw [part_len s (by omega)]; omega) := by
  unfold part16
  simp only [List.getElem_take, List.getElem_drop]
  congr 1
  omega
theorem ones_right {q : P3} (h : q.rightB = true) {n : Nat} (hn : n < 8) : (holesP.set n q).right = true := by
  unfold P8.right nodeRight
  refine List.all_eq_true.2 fun x hx => ?_
  rcases List.mem_or_eq_of_mem_set hx with hx | hx
  · rw [List.eq_of_mem_replicate hx]; decide
  · rw [hx]; exact h
theorem ones_empty (q : P3) {n : Nat} (hn : n < 8) : nodeEmpty (holesP.set n q).1 = q.eqB p3z := by
  rw [nodeEmpty_iff, Bool.eq_iff_iff, decide_eq_true_iff, P3.eqB_iff]
  have h0 : holesP.get n = p3z := List.eq_of_mem_replicate (P8.get_mem holesP hn)
  constructor
  · intro h
    have := P8.get_set holesP (k := n) (j := n) q hn
    rw [if_pos rfl, h, h0] at this
    exact this.symm
  · intro h
    subst h
    exact ((set_eq_iff holesP hn p3z).2 h0).symm
theorem ones_byte {q : P3} {n : Nat} (hn : n < 8) {k : Nat} (hk : k < 128) : (holesP.set n q).sec.1[k]'(by rw [(holesP.set n q).sec.2]; exact hk) = if k / 16 = n then q.bytes[k % 16]'(by rw [P3.bytes_length]; omega) else 0 := by
  rw [part_get _ hk]
  have h := ones_part (q := q) hn (k := k / 16) (by omega)
  by_cases e : k / 16 = n
  · rw [if_pos e] at h
    rw [if_pos e]
    simp only [h]
  · rw [if_neg e] at h
    rw [if_neg e]
    simp only [h]
    exact List.getElem_replicate _
theorem idxSec (s : Sec) {k : Nat} (hk : k < 128) (w : World) : Sem.run Try.prog (Instr.index 23 (.agg (secL s).toArray) (.int .i64 (k : Int))) w = .ok (byteV (s.1[k]'(by rw [s.2]; exact hk))) w := by
  have hk' : k < s.1.length := by rw [s.2]; exact hk
  have hv : (secL s)[k]? = some (byteV s.1[k]) := by simp [secL, bytesV, hk']
  simp [Instr.index, run_underlying Try.underlying23, asIntOf, hk, part, isAgg, run_underlying Try.underlying5, hv, go_sem]
theorem getD_of {l : List UInt8} {k : Nat} (h : k < l.length) : l.getD k 0 = l[k] := by rw [List.getD_eq_getElem?_getD, List.getElem?_eq_getElem h]; rfl
theorem ones_byteD {q : P3} {n : Nat} (hn : n < 8) {k : Nat} (hk : k < 128) : (holesP.set n q).sec.1.getD k 0 = if k / 16 = n then q.bytes.getD (k % 16) 0 else 0 := by
  rw [getD_of (by rw [(holesP.set n q).sec.2]; exact hk), ones_byte hn hk, getD_of (l := q.bytes) (k := k % 16) (by rw [P3.bytes_length]; omega)]
theorem idxSecD (s : Sec) {k : Nat} (hk : k < 128) (w : World) : Sem.run Try.prog (Instr.index 23 (.agg (secL s).toArray) (.int .i64 (k : Int))) w = .ok (byteV (s.1.getD k 0)) w := by
  rw [getD_of (by rw [s.2]; exact hk)]
  exact idxSec s hk w
theorem built_p3 : Try.prog.built 32 [] = some (p3L p3z).toArray := by kernel_rfl
end Go.Proofs.Ytgdefibkemkejaa
