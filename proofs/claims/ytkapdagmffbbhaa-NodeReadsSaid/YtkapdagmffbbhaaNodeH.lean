/- Blocks that a law of layer 10 lays beside each other; the calls' answers in a form for the laws. -/
import Derived.Test.YtkapdagmffbbhaaNodeG
namespace Go.Proofs.Ytkapdagmffbbhaa
open Go.ChangeShapes Go.WideShapes Go.ChangeAt Go.RowKit
set_option linter.unusedVariables false
set_option maxRecDepth 20000

/-- blocks (number, type, cells) of the law's own -/
structure NT (w0 w : World) (L : List (Nat × TypeId × List Value)) : Prop where
  q : Below w0.heap.size w0 w
  blk : ∀ x ∈ L, Blk w x.1 x.2.1 x.2.2 ∧ w0.heap.size ≤ x.1
namespace NT
variable {w0 w w' : World} {L : List (Nat × TypeId × List Value)} {g : Nat} {t : TypeId} {cs cs' : List Value} {x y z u v : Nat × TypeId × List Value}
theorem start (w : World) : NT w w [] := ⟨Below.refl _ _, fun x hx => by cases hx⟩
theorem call (h : NT w0 w L) (hb : Below w.heap.size w w') : NT w0 w' L := ⟨h.q.trans (hb.mono h.q.size), fun x hx => ⟨blk_out (h.blk x hx).1 hb, (h.blk x hx).2⟩⟩
theorem drew (h : NT w0 w L) : NT w0 w.drew L := ⟨h.q.drew, h.blk⟩
theorem box (h : NT w0 w L) (t : TypeId) (cs : List Value) : NT w0 (w.alloc (.cells cs.toArray t)) ((w.heap.size, t, cs) :: L) := by
  have h1 := h.call ((Below.refl _ _).alloc (Nat.le_refl _) (.cells cs.toArray t))
  refine ⟨h1.q, fun x hx => ?_⟩
  rcases List.mem_cons.1 hx with rfl | hx
  · exact ⟨Blk.new w t cs, h.q.size⟩
  · exact h1.blk x hx
/-- a new block that is stored at once -/
theorem lay (h : NT w0 w L) {o : Obj} (k : Kept (· = w.heap.size) (w.alloc o) w') (hb : Blk w' w.heap.size t cs) : NT w0 w' ((w.heap.size, t, cs) :: L) := by
  have h1 := h.call ((Below.refl _ _).alloc (Nat.le_refl _) o)
  refine ⟨Kept.out h1.q k (fun i _ e => by have := h.q.size; omega) h1.q.size, fun x hx => ?_⟩
  rcases List.mem_cons.1 hx with rfl | hx
  · exact ⟨hb, h.q.size⟩
  · have hlt := (h.blk x hx).1.lt
    exact ⟨(h1.blk x hx).1.kept k (by omega), (h.blk x hx).2⟩
/-- the first one is overwritten -/
theorem over (h : NT w0 w ((g, t, cs) :: L)) (hn : ∀ x ∈ L, x.1 ≠ g) (k : Kept (· = g) w w') (hb : Blk w' g t cs') : NT w0 w' ((g, t, cs') :: L) := by
  have h0 := (h.blk _ (.head _)).2
  refine ⟨Kept.out h.q k (fun i _ e => by rw [e]; exact h0) h.q.size, fun x hx => ?_⟩
  rcases List.mem_cons.1 hx with rfl | hx
  · exact ⟨hb, h0⟩
  · exact ⟨(h.blk x (.tail _ hx)).1.kept k (hn x hx), (h.blk x (.tail _ hx)).2⟩
theorem b0 (h : NT w0 w ((g, t, cs) :: L)) : Blk w g t cs := (h.blk _ (.head _)).1
theorem tail (h : NT w0 w (x :: L)) : NT w0 w L := ⟨h.q, fun y hy => h.blk y (.tail _ hy)⟩
theorem b1 (h : NT w0 w (x :: (g, t, cs) :: L)) : Blk w g t cs := h.tail.b0
theorem b2 (h : NT w0 w (x :: y :: (g, t, cs) :: L)) : Blk w g t cs := h.tail.b1
theorem b3 (h : NT w0 w (x :: y :: z :: (g, t, cs) :: L)) : Blk w g t cs := h.tail.b2
theorem b4 (h : NT w0 w (x :: y :: z :: u :: (g, t, cs) :: L)) : Blk w g t cs := h.tail.b3
theorem lt0 (h : NT w0 w ((g, t, cs) :: L)) : g < w.heap.size := h.b0.lt
end NT
theorem holesP_right : holesP.right = true := by decide +kernel
theorem holesP_sec : holesP.sec = sec0 := nodeS_holes
theorem holesP_O : holesP.secO = some sec0 := by unfold P8.secO; rw [holesP_right, if_pos rfl, holesP_sec]
theorem holesP_empty : nodeEmpty holesP.1 = true := by rw [nodeEmpty_iff, decide_eq_true rfl]
end Go.Proofs.Ytkapdagmffbbhaa
