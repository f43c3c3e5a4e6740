/- What single operations do, for regions that are walked operation by operation. What holds for every program. -/
import Derived.Test.YtkapdagmffbbhaaOrd
import Derived.Maps.AppendAt
namespace Go.Proofs.Ytkapdagmffbbhaa
open Go.ChangeShapes Go.WideShapes Go.ChangeAt Go.RowKit
set_option linter.unusedVariables false
set_option maxRecDepth 20000

section
variable {P : Program} {op : Oper} {a : Act} {w : World} {K : Act → World → Prop} {Q : Exit → Act → World → Prop}

theorem exec_move {x : Operand} {v : Value} (ho : op.op = .move x) (hx : a.eval x = v) (w : World) : (execOp a.eval op).run P w = .ok (.value v) w := by
  unfold execOp; simp only [ho, hx, Sem.run_pure]
theorem exec_nilCheck {x : Operand} {p : Addr} (ho : op.op = .nilCheck x) (hx : a.eval x = .pointer (some p)) (w : World) : (execOp a.eval op).run P w = .ok (.value (.pointer (some p))) w := by
  unfold execOp; simp only [ho, hx, Sem.run_pure]
theorem exec_load_mid (ty : TypeId) (x : Operand) (ho : op.op = .load ty x) (b o : Nat) (hx : a.eval x = .pointer (some ⟨b, o, none⟩)) (cs : List Value) (d : TypeDesc) (hc : w.rangeAt b o cs)
    (hu : P.underlying ty = some d) (hd : d.isRow = true) (hi : (P.info? ty).map (·.size) = some cs.length) : (execOp a.eval op).run P w = .ok (.value (.agg cs.toArray)) w := by
  unfold execOp
  simp only [ho, hx, Instr.loadAt, Instr.sureAddr, Sem.run_bind, Sem.run_pure, Result.andThen_ok, run_loadVar_mid w b o ty cs d hc hu hd hi]
theorem exec_build (t : TypeId) (ps : List (Nat × Operand)) (ho : op.op = .build t ps.toArray) (cells : List Value) (vs : List (Nat × Value)) (hv : (ps.map fun x => (x.1, a.eval x.2)) = vs) (hp : P.built t vs = some cells.toArray) (w : World) :
    (execOp a.eval op).run P w = .ok (.value (.agg cells.toArray)) w := by
  have hp' : P.built t (ps.toArray.map fun (i, x) => (i, a.eval x)).toList = some cells.toArray := by
    rw [← hp, ← hv]
    simp
  unfold execOp
  simp only [ho, Sem.run_bind, run_build w t _ _ hp', Result.andThen_ok, Sem.run_pure]

/-- a slice literal of one element -/
theorem wp_buildOne (t e : TypeId) (x : Operand) (ho : op.op = .buildSlice t 1 #[(0, x)]) (cells : List Value) (hx : a.eval x = .agg cells.toArray)
    (hu : P.underlying t = some (.slice e)) (hsz : (P.info? e).map (·.size) = some cells.length) (hz : ((P.info? e).bind (·.zero)).map (·.cells.size) = some cells.length) (hpos : 0 < cells.length) (hsmall : cells.length ≤ 2 ^ 24)
    (h : K (a.put op.dst (.slice (some ⟨w.heap.size, 0, none⟩) 1 1)) (w.alloc (.cells cells.toArray e))) : op.wp P a w K Q := by
  cases hie : P.info? e with
  | none => simp [hie] at hsz
  | some ie =>
    simp only [hie, Option.map_some, Option.some.injEq, Option.bind_some] at hsz hz
    cases hzz : ie.zero with
    | none => simp [hzz] at hz
    | some z =>
      simp only [hzz, Option.map_some, Option.some.injEq] at hz
      refine wp_buildSlice t e 1 #[(0, x)] ho cells.toArray ie z hu hie hzz (by rw [hsz]; omega) (by rw [hsz]; omega) ?_ h
      simp only [Array.toList_map, List.map_cons, List.map_nil, hx]
      rw [fill_cons _ _ 0 _ [] 0 cells (by simp [hsz]) rfl (by simp [hsz]), fill_nil]
      have hd : ∀ (A : Array Value), A.size = cells.length → A.toList.drop cells.length = [] := fun A hA => List.drop_of_length_le (by simp [hA])
      simp [hd, hsz]

/-- an append of one element that stands in block g -/
theorem wp_push (s x : Operand) (t : TypeId) (ho : op.op = .call { callee := .builtin .append, args := #[s, x], argTypes := #[t, t] })
    (base : Nat) (e : TypeId) (i : TypeInfo) (z : Value) (size bytes : Nat) (ht : P.underlying t = some (.slice e)) (hi : P.info? e = some i) (hz : i.zero = some z)
    (hsize : i.size = size) (hby : i.bytes = bytes) (hzs : z.cells.size = size) (hsz : 0 < size)
    (v : Value) (n : Nat) (xs : List Value) (hs : a.eval s = v) (hown : w.ownsRow base e size v n xs)
    (g c : Nat) (news : List Value) (hx : a.eval x = .slice (some ⟨g, 0, none⟩) 1 c) (hb : Blk w g e news) (hl : news.length = size) (h1 : ∀ u ∈ news, u.oneCell' = true)
    (h63 : n + 1 ≤ maxLen) (hbytes : (n + 1) * bytes ≤ 140737488355328) (hbase : base ≤ w.heap.size)
    (h : ∀ v' w', w'.ownsRow base e size v' (n + 1) (xs ++ news) → w.grownBy w' v.ownBlock → (v'.ownBlock = v.ownBlock ∨ v'.ownBlock = some w.heap.size) → K (a.put op.dst v') w') : op.wp P a w K Q := by
  obtain ⟨v', w', hrun, h2, h3, _, h5⟩ := run_append_own_at (P := P) w base t op.type e i z size bytes ht hi hz hsize hby hzs hsz v n xs hown ⟨g, 0, none⟩ 1 c news (by omega) (fun j u hu => by rw [Addr.add_mid, hb.cell]; simpa using hu) h1 h63 hbytes hbase
  unfold Oper.wp execOp
  simp only [ho, resolve, invoke, builtin, Sem.run_bind, Sem.run_pure, Result.andThen_ok, List.map_toArray, List.map_cons, List.map_nil, hs, hx, hrun]
  exact h v' w' h2 h3 h5

/-- a store of one cell -/
theorem wp_store_cell (ty : TypeId) (x y : Operand) (ho : op.op = .store ty x y) (p : Addr) (hx : a.eval x = .pointer (some p)) (v u : Value) (hy : a.eval y = v) (h1 : v.oneCell' = true)
    (hi : (P.info? ty).map (·.size) = some 1) (hc : w.cell? p = some u) (hf : w.frozen? p = false) (h : K (a.put op.dst undef) (w.setCell p v)) : op.wp P a w K Q := by
  have hcs : v.cells = #[v] := by cases v <;> first | rfl | cases h1
  cases hq : P.info? ty with
  | none => simp [hq] at hi
  | some i =>
    have hsz : i.size = 1 := by simpa [hq] using hi
    have hst : (store p v).run P w = .ok () (w.setCell p v) := by
      rw [run_store P w p v .plain h1]
      simp [hc, hf]
    have hrun : (storeVar ty p v).run P w = .ok () (w.setCell p v) := by
      have h0 : p.add 0 = p := by simp [Addr.add]
      simp [storeVar, sizeOf, typeInfo, hq, hcs, hsz, storeCells, h0, hst]
    unfold Oper.wp execOp
    simp only [ho, hx, hy, Instr.storeAt, Instr.sureAddr, Sem.run_bind, Sem.run_pure, Result.andThen_ok, hrun]
    exact h
end
end Go.Proofs.Ytkapdagmffbbhaa
