/- copy into a block that is known whole: from a slice, from a string; what holds for every program. -/
import Derived.Test.YtkapdagmffbbhaaRow
import Derived.Lib.BufferWrite
namespace Go.Proofs.Ytkapdagmffbbhaa
open Go.ChangeShapes Go.WideShapes Go.ChangeAt Go.RowKit
set_option linter.unusedVariables false
set_option maxRecDepth 20000

section
variable {P : Program} {ops : Array Oper} {rest : List Oper} {o : Oper} {a : Act} {w : World} {Q : Exit → Act → World → Prop}

theorem run_copyR (dT sT ty elem : TypeId) (hu : P.underlying dT = some (.slice elem)) (hsz : (P.info? elem).map (·.size) = some 1)
    (g off dLen dCap : Nat) (so : Option Addr) (n sCap : Nat) (t : TypeId) (cur new cs : List Value) (hb : Blk w g t cur) (hn : cs.length = n) (hpos : 0 < n) (hle : n ≤ dLen) (hsrc : Reads w so cs)
    (hfit : off + n ≤ cur.length) (h1 : ∀ v ∈ cs, v.oneCell' = true) (hnew : new = cur.take off ++ (cs ++ cur.drop (off + n))) :
    ∃ w', (Builtin.copy_ #[dT, sT] ty #[.slice (some ⟨g, off, none⟩) dLen dCap, .slice so n sCap]).run P w = .ok (goInt n) w' ∧ Blk w' g t new ∧ Kept (· = g) w w' ∧ w'.heap.size = w.heap.size := by
  obtain ⟨b, o', e, _⟩ := hsrc 0 (by omega)
  subst e
  have hmin : cs.length = Nat.min n dLen := by rw [hn]; exact (Nat.min_eq_left hle).symm
  have hrun := run_copy_row (P := P) w dT sT ty elem g off dLen dCap ⟨b, o', none⟩ n sCap cur.toArray t cs hu hsz hb hmin (fun j v hv => hsrc.cellsAt _ rfl j v hv) (by simpa [hn] using hfit) h1
  rw [hn] at hrun
  refine ⟨_, hrun, ?_, Kept.of_setRow (F := (· = g)) w rfl _, by simp⟩
  subst hnew
  simpa [hn] using hb.row (cur.take off ++ (cs ++ cur.drop (off + n)))

/-- copy as a step of a walk: the block behind it is told whole -/
theorem wpList_copyR (hgd : o.guard = none) (d s : Operand) (dT sT : TypeId) (ho : o.op = .call { callee := .builtin .copy, args := #[d, s], argTypes := #[dT, sT] })
    (elem : TypeId) (hu : P.underlying dT = some (.slice elem)) (hsz : (P.info? elem).map (·.size) = some 1)
    (g off dLen dCap : Nat) (hd : a.eval d = .slice (some ⟨g, off, none⟩) dLen dCap) (so : Option Addr) (n sCap : Nat) (hs : a.eval s = .slice so n sCap)
    (t : TypeId) (cur new cs : List Value) (hb : Blk w g t cur) (hn : cs.length = n) (hpos : 0 < n) (hle : n ≤ dLen) (hsrc : Reads w so cs)
    (hfit : off + n ≤ cur.length) (h1 : ∀ v ∈ cs, v.oneCell' = true) (hnew : new = cur.take off ++ (cs ++ cur.drop (off + n)))
    (h : ∀ w', Blk w' g t new → Kept (· = g) w w' → w'.heap.size = w.heap.size → wpList P ops Q rest (a.put o.dst (goInt n)) w') : wpList P ops Q (o :: rest) a w := by
  obtain ⟨w', hrun, h2, h3, h4⟩ := run_copyR (P := P) dT sT o.type elem hu hsz g off dLen dCap so n sCap t cur new cs hb hn hpos hle hsrc hfit h1 hnew
  refine wpList_plain hgd fun K hK => ?_
  unfold Oper.wp
  simp [execOp, ho, resolve, invoke, builtin, hd, hs, hrun, Result.andThen]
  exact hK _ _ (h w' h2 h3 h4)

/-- copy as a step of a region that draws its order -/
theorem step_copyR {K : Act → World → Prop} {E : Prop} (hgd : o.guard = none) (d s : Operand) (dT sT : TypeId) (ho : o.op = .call { callee := .builtin .copy, args := #[d, s], argTypes := #[dT, sT] })
    (elem : TypeId) (hu : P.underlying dT = some (.slice elem)) (hsz : (P.info? elem).map (·.size) = some 1)
    (g off dLen dCap : Nat) (hd : a.eval d = .slice (some ⟨g, off, none⟩) dLen dCap) (so : Option Addr) (n sCap : Nat) (hs : a.eval s = .slice so n sCap)
    (t : TypeId) (cur new cs : List Value) (hb : Blk w g t cur) (hn : cs.length = n) (hpos : 0 < n) (hle : n ≤ dLen) (hsrc : Reads w so cs)
    (hfit : off + n ≤ cur.length) (h1 : ∀ v ∈ cs, v.oneCell' = true) (hnew : new = cur.take off ++ (cs ++ cur.drop (off + n)))
    (h : ∀ w', Blk w' g t new → Kept (· = g) w w' → w'.heap.size = w.heap.size → K (a.put o.dst (goInt n)) w') :
    if Region.wanted o (yielded ops a.tmps) = true then Oper.wp P o a w K Q else E := by
  have hw : Region.wanted o (yielded ops a.tmps) = true := by simp [Region.wanted, hgd]
  rw [if_pos hw]
  obtain ⟨w', hrun, h2, h3, h4⟩ := run_copyR (P := P) dT sT o.type elem hu hsz g off dLen dCap so n sCap t cur new cs hb hn hpos hle hsrc hfit h1 hnew
  unfold Oper.wp
  simp [execOp, ho, resolve, invoke, builtin, hd, hs, hrun, Result.andThen]
  exact h w' h2 h3 h4

/-- copy out of a string -/
theorem wpList_copyStr (hgd : o.guard = none) (d s : Operand) (dT sT : TypeId) (ho : o.op = .call { callee := .builtin .copy, args := #[d, s], argTypes := #[dT, sT] })
    (elem : TypeId) (hu : P.underlying dT = some (.slice elem)) (hsz : (P.info? elem).map (·.size) = some 1)
    (g off dLen dCap : Nat) (hd : a.eval d = .slice (some ⟨g, off, none⟩) dLen dCap) (x : ByteArray) (hs : a.eval s = .string x)
    (t : TypeId) (cur new : List Value) (n : Nat) (hb : Blk w g t cur) (hn : x.size = n) (hle : n ≤ dLen)
    (hfit : off + n ≤ cur.length) (hnew : new = cur.take off ++ (bytesV x.data.toList ++ cur.drop (off + n)))
    (h : ∀ w', Blk w' g t new → Kept (· = g) w w' → w'.heap.size = w.heap.size → wpList P ops Q rest (a.put o.dst (goInt n)) w') : wpList P ops Q (o :: rest) a w := by
  subst hn
  have hrun := Go.Lib.run_copy_row_string (P := P) w dT sT o.type elem g off dLen dCap x cur.toArray t hu hsz hb hle (by simpa using hfit)
  refine wpList_plain hgd fun K hK => ?_
  unfold Oper.wp
  simp [execOp, ho, resolve, invoke, builtin, hd, hs, hrun, Result.andThen]
  refine hK _ _ (h _ ?_ (Kept.of_setRow (F := (· = g)) w rfl _) (by simp))
  have e : bytesV x.data.toList = Go.Lib.byteCells x.data.toList := rfl
  subst hnew
  rw [e]
  simpa using hb.row (cur.take off ++ (Go.Lib.byteCells x.data.toList ++ cur.drop (off + x.size)))
end
end Go.Proofs.Ytkapdagmffbbhaa
