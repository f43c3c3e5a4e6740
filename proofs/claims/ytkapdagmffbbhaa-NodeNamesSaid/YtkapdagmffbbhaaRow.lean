/- Blocks that are known whole, what a step leaves as it was, and rows of elements of several cells each: loads and stores of whole elements; what holds for every program. -/
import Derived.Test.YtkapdagmffbbhaaMem
import Derived.Deep.MidRow
import Derived.Laws.CopyRow
import Derived.Laws.CopyOwn
import Derived.Great.BuildSlice
import Derived.Deep.RegionHeld3
import Derived.Deep.AppendLies
namespace Go.Proofs.Ytkapdagmffbbhaa
open Go.ChangeShapes Go.WideShapes Go.ChangeAt Go.RowKit
set_option linter.unusedVariables false
set_option maxRecDepth 20000

/-- block g is just these cells -/
def Blk (w : World) (g : Nat) (t : TypeId) (cs : List Value) : Prop := w.heap[g]? = some (.cells cs.toArray t (0, 0))

/-- what F does not name is as it was -/
structure Kept (F : Nat → Prop) (w w' : World) : Prop where
  os : w'.os = w.os
  tape : w'.tape = w.tape
  output : w'.output = w.output
  size : w.heap.size ≤ w'.heap.size
  block : ∀ k, k < w.heap.size → ¬ F k → w'.heap[k]? = w.heap[k]?

section
variable {F G : Nat → Prop} {a w w' : World}
theorem Kept.refl (F : Nat → Prop) (w : World) : Kept F w w := ⟨rfl, rfl, rfl, Nat.le_refl _, fun _ _ _ => rfl⟩
theorem Kept.then (h : Kept F a w) (k : Kept G w w') (hG : ∀ i, i < a.heap.size → G i → F i) : Kept F a w' :=
  ⟨k.os.trans h.os, k.tape.trans h.tape, k.output.trans h.output, Nat.le_trans h.size k.size, fun i hi hn => (k.block i (Nat.lt_of_lt_of_le hi h.size) (fun g => hn (hG i hi g))).trans (h.block i hi hn)⟩
theorem Kept.trans (h : Kept F a w) (k : Kept F w w') : Kept F a w' := h.then k fun _ _ h => h
theorem Kept.mono (h : Kept F w w') (hG : ∀ i, i < w.heap.size → F i → G i) : Kept G w w' := ⟨h.os, h.tape, h.output, h.size, fun i hi hn => h.block i hi (fun f => hn (hG i hi f))⟩
theorem Kept.of_alloc (F : Nat → Prop) (w : World) (o : Obj) : Kept F w (w.alloc o) := ⟨rfl, rfl, rfl, by simp, fun k hk _ => Below.heap_alloc _ _ _ hk⟩
theorem Kept.alloc (h : Kept F a w) (o : Obj) : Kept F a (w.alloc o) := h.trans (Kept.of_alloc F w o)
theorem Kept.drew (h : Kept F a w) : Kept F a w.drew := ⟨h.os, h.tape, h.output, h.size, h.block⟩
theorem Kept.drewN (h : Kept F a w) (n : Nat) : Kept F a (w.drewN n) := ⟨h.os, h.tape, h.output, h.size, h.block⟩
theorem Kept.of_setCell (w : World) {p : Addr} (hp : F p.block) (u : Value) : Kept F w (w.setCell p u) := ⟨rfl, rfl, rfl, by simp [World.setCell], fun k hk hn => Below.heap_setCell _ _ _ _ (fun e => hn (e ▸ hp))⟩
theorem Kept.cellAt (w : World) (g i : Nat) (u : Value) : Kept (· = g) w (w.setCell ⟨g, i, none⟩ u) := Kept.of_setCell (F := (· = g)) w (p := ⟨g, i, none⟩) rfl u
theorem Kept.setCell (h : Kept F a w) {p : Addr} (hp : F p.block) (u : Value) : Kept F a (w.setCell p u) := h.trans (Kept.of_setCell w hp u)
theorem Kept.of_setRow (w : World) {g : Nat} (hp : F g) (cs : Array Value) : Kept F w (w.setRow g cs) := ⟨rfl, rfl, rfl, by simp, fun k hk hn => setRow_other _ _ _ _ (fun e => hn (e ▸ hp))⟩
theorem Kept.of_below (h : Below w.heap.size w w') (F : Nat → Prop) : Kept F w w' := ⟨h.os, h.tape, h.output, h.size, fun k hk _ => h.block k hk⟩
theorem Kept.of_grown {row : Option Nat} (h : w.grownBy w' row) (hr : ∀ k, row = some k → k < w.heap.size → F k) : Kept F w w' := ⟨h.os, h.tape, h.output, h.size, fun k hk hn => h.block k hk (fun e => hn (hr k e.symm hk))⟩
theorem Kept.below {B : Nat} (h : Kept F w w') (hF : ∀ k, k < w.heap.size → F k → B ≤ k) (hB : B ≤ w.heap.size) : Below B w w' :=
  ⟨h.os, h.tape, h.output, h.size, fun k hk => h.block k (by omega) (fun f => by have := hF k (by omega) f; omega)⟩
theorem Kept.out {B : Nat} (h : Below B a w) (k : Kept F w w') (hF : ∀ i, i < w.heap.size → F i → B ≤ i) (hB : B ≤ w.heap.size) : Below B a w' := h.trans (k.below hF hB)
theorem Kept.cell (h : Kept F w w') {p : Addr} (hp : p.block < w.heap.size) (hn : ¬ F p.block) : w'.cell? p = w.cell? p := World.cell?_of_block (h.block _ hp hn)
theorem Kept.frozen (h : Kept F w w') {p : Addr} (hp : p.block < w.heap.size) (hn : ¬ F p.block) : w'.frozen? p = w.frozen? p := World.frozen?_of_block (h.block _ hp hn)
end

section
variable {w w' : World} {g : Nat} {t : TypeId} {cs : List Value} {F : Nat → Prop}
theorem Blk.lt (h : Blk w g t cs) : g < w.heap.size := by
  unfold Blk at h
  by_cases hb : g < w.heap.size
  · exact hb
  · rw [Array.getElem?_eq_none (by omega)] at h; cases h
theorem Blk.cell (h : Blk w g t cs) (i : Nat) : w.cell? ⟨g, i, none⟩ = cs[i]? := by rw [cell_of_row w g i _ t (0, 0) h]; simp
theorem Blk.frozen (h : Blk w g t cs) (i : Nat) : w.frozen? ⟨g, i, none⟩ = false := frozen_of_row w g i _ _ h
theorem Blk.new (w : World) (t : TypeId) (cs : List Value) : Blk (w.alloc (.cells cs.toArray t)) w.heap.size t cs := heap_alloc_new w _
theorem Blk.newA (w : World) (t : TypeId) (cs : Array Value) : Blk (w.alloc (.cells cs t)) w.heap.size t cs.toList := by
  have := heap_alloc_new w (.cells cs t)
  unfold Blk; simpa using this
theorem Blk.drew (h : Blk w g t cs) : Blk w.drew g t cs := h
theorem Blk.drewN (h : Blk w g t cs) (n : Nat) : Blk (w.drewN n) g t cs := h
theorem Blk.alloc (h : Blk w g t cs) (o : Obj) : Blk (w.alloc o) g t cs := (Below.heap_alloc w o g h.lt).trans h
theorem Blk.set (h : Blk w g t cs) (i : Nat) (u : Value) : Blk (w.setCell ⟨g, i, none⟩ u) g t (cs.set i u) := by
  unfold Blk at *
  rw [heap_setCell_same w g i _ t u h]
  simp
theorem Blk.far (h : Blk w g t cs) {p : Addr} (hp : g ≠ p.block) (u : Value) : Blk (w.setCell p u) g t cs := (Below.heap_setCell w p u g hp).trans h
theorem Blk.kept (h : Blk w g t cs) (k : Kept F w w') (hn : ¬ F g) : Blk w' g t cs := (k.block g h.lt hn).trans h
theorem Blk.below {B : Nat} (h : Blk w g t cs) (hb : Below B w w') (hg : g < B) : Blk w' g t cs := (hb.block g hg).trans h
theorem Blk.row (h : Blk w g t cs) (cs' : List Value) : Blk (w.setRow g cs'.toArray) g t cs' := setRow_heap w g _ _ t _ h
theorem Blk.ne {g' : Nat} {t' : TypeId} {cs' : List Value} (h : Blk w g t cs) (h' : Blk w g' t' cs') (hne : t ≠ t') : g ≠ g' := by
  rintro rfl
  unfold Blk at h h'
  rw [h] at h'
  injection h' with h'
  injection h' with _ ht
  exact hne ht
theorem Blk.range (h : Blk w g t cs) {o : Nat} {xs : List Value} (hx : ∀ j v, xs[j]? = some v → cs[o + j]? = some v) : w.rangeAt g o xs := fun j v hv => by
  rw [h.cell]; exact hx j v hv
theorem Blk.there (h : Blk w g t cs) {o n : Nat} (hn : o + n ≤ cs.length) : w.there g o n := fun j hj => ⟨by rw [h.cell, List.getElem?_eq_getElem (by omega)]; rfl, h.frozen _⟩
theorem Own.ne_blk {base : Nat} {e : TypeId} {v : Value} {n size : Nat} {xs : List Value} (h : w.ownsRow base e size v n xs) (hg : Blk w g t cs) (hne : e ≠ t) : v.ownBlock ≠ some g := by
  rcases h.2 with ⟨rfl, _⟩ | ⟨g', cap, cur, rfl, _, hh, _⟩
  · simp [Value.ownBlock]
  · intro he
    have : g' = g := by simpa [Value.ownBlock] using he
    subst this
    unfold Blk at hg
    rw [hg] at hh
    injection hh with hh
    injection hh with _ ht
    exact hne ht.symm
end

theorem Reads.of_blk {w : World} {g : Nat} {t : TypeId} {cs : List Value} (h : Blk w g t cs) : Reads w (some ⟨g, 0, none⟩) cs := fun i hi => ⟨g, 0, rfl, by rw [h.cell, Nat.zero_add, List.getElem?_eq_getElem hi]⟩
theorem two_new (w : World) (o : Obj) (t : TypeId) (cs : List Value) : Blk ((w.alloc o).alloc (.cells cs.toArray t)) (w.heap.size + 1) t cs := by
  have := Blk.new (w.alloc o) t cs
  simpa using this
theorem two_below (w : World) (o o' : Obj) : Below w.heap.size w ((w.alloc o).alloc o') := ((Below.refl _ _).alloc (Nat.le_refl _) _).alloc (by simp) _
theorem blk_out {w w1 : World} {g : Nat} {t : TypeId} {cs : List Value} (h : Blk w g t cs) (hb : Below w.heap.size w w1) : Blk w1 g t cs := h.below hb h.lt
theorem cell_alloc {w : World} {a : Addr} {v : Value} (h : w.cell? a = some v) (o : Obj) : (w.alloc o).cell? a = some v := (World.cell?_alloc_lt w o a (cell_lt h)).trans h

/-! ### Elements of n cells each -/
section
variable {α : Type} (f : α → List Value)
def rowsL (xs : List α) : List Value := xs.flatMap f
variable {f} {n : Nat}
theorem rowsL_nil : rowsL f [] = [] := rfl
theorem rowsL_one (x : α) : rowsL f [x] = f x := by simp [rowsL]
theorem rowsL_append (xs ys : List α) : rowsL f (xs ++ ys) = rowsL f xs ++ rowsL f ys := by simp [rowsL]
theorem rowsL_cons (x : α) (xs : List α) : rowsL f (x :: xs) = f x ++ rowsL f xs := by simp [rowsL]
theorem rowsL_length (hf : ∀ x, (f x).length = n) (xs : List α) : (rowsL f xs).length = xs.length * n := by
  induction xs with
  | nil => simp [rowsL]
  | cons x r ih => rw [rowsL_cons, List.length_append, hf, ih, List.length_cons]; rw [Nat.add_mul]; omega
theorem rowsL_split (hf : ∀ x, (f x).length = n) (xs : List α) (i : Nat) (h : i < xs.length) : rowsL f xs = rowsL f (xs.take i) ++ f xs[i] ++ rowsL f (xs.drop (i + 1)) := by
  conv => lhs; rw [← List.take_append_drop i xs, List.drop_eq_getElem_cons h]
  rw [rowsL_append, rowsL_cons, List.append_assoc]
theorem rowsL_at (hf : ∀ x, (f x).length = n) (xs : List α) (i : Nat) (h : i < xs.length) (j : Nat) (v : Value) (hv : (f xs[i])[j]? = some v) : (rowsL f xs)[i * n + j]? = some v := by
  have hj : j < (f xs[i]).length := (List.getElem?_eq_some_iff.1 hv).1
  have hl : (rowsL f (xs.take i)).length = i * n := by rw [rowsL_length hf, List.length_take, Nat.min_eq_left (by omega)]
  rw [rowsL_split hf xs i h, List.append_assoc, List.getElem?_append_right (by omega), hl, show i * n + j - i * n = j from by omega, List.getElem?_append_left hj, hv]
theorem rowsL_set (hf : ∀ x, (f x).length = n) (xs : List α) (i : Nat) (h : i < xs.length) (y : α) : rowsL f (xs.set i y) = (rowsL f xs).take (i * n) ++ f y ++ (rowsL f xs).drop (i * n + n) := by
  have hl : (rowsL f (xs.take i)).length = i * n := by rw [rowsL_length hf, List.length_take, Nat.min_eq_left (by omega)]
  rw [rowsL_split hf (xs.set i y) i (by simpa using h), rowsL_split hf xs i h]
  have e1 : (rowsL f (xs.take i) ++ f xs[i] ++ rowsL f (xs.drop (i + 1))).take (i * n) = rowsL f (xs.take i) := by
    rw [List.append_assoc, ← hl, List.take_left]
  have e2 : (rowsL f (xs.take i) ++ f xs[i] ++ rowsL f (xs.drop (i + 1))).drop (i * n + n) = rowsL f (xs.drop (i + 1)) := by
    have : (rowsL f (xs.take i) ++ f xs[i]).length = i * n + n := by rw [List.length_append, hl, hf]
    rw [← this, List.drop_left]
  rw [e1, e2]
  simp [List.take_set_of_le, List.drop_set_of_lt]
theorem rowsL_one_cell (hf : ∀ x, ∀ v ∈ f x, v.oneCell' = true) (xs : List α) : ∀ v ∈ rowsL f xs, v.oneCell' = true := by
  intro v hv
  simp only [rowsL, List.mem_flatMap] at hv
  obtain ⟨x, _, hx⟩ := hv
  exact hf x v hx
end

/-! ### Whole elements out of and into a block -/
section
variable {P : Program} {ops : Array Oper} {rest : List Oper} {o : Oper} {a : Act} {w : World} {Q : Exit → Act → World → Prop}

theorem splice_blk {w : World} {g : Nat} {t : TypeId} {cur : List Value} (hb : Blk w g t cur) (off : Nat) (vs : List Value) (hl : off + vs.length ≤ cur.length) (h1 : ∀ v ∈ vs, v.oneCell' = true) :
    (storeCells ⟨g, off, none⟩ vs).run P w = .ok () (w.setRow g (cur.take off ++ vs ++ cur.drop (off + vs.length)).toArray) := by
  have := run_storeCells_at P g off t vs 0 cur.toArray w hb (by simpa using hl) h1
  simpa using this

theorem run_store_blk (ty : TypeId) {w : World} {g : Nat} {t : TypeId} {cur : List Value} (hb : Blk w g t cur) (off : Nat) (vs : List Value) (hl : off + vs.length ≤ cur.length) (h1 : ∀ v ∈ vs, v.oneCell' = true) (hi : (P.info? ty).map (·.size) = some vs.length) :
    (storeVar ty ⟨g, off, none⟩ (.agg vs.toArray)).run P w = .ok () (w.setRow g (cur.take off ++ vs ++ cur.drop (off + vs.length)).toArray) := by
  cases hq : P.info? ty with
  | none => simp [hq] at hi
  | some i =>
    have hs : i.size = vs.length := by simpa [hq] using hi
    have hc := splice_blk (P := P) hb off vs hl h1
    simp only [List.append_assoc] at hc
    simp [storeVar, sizeOf, typeInfo, hq, Value.cells, hs, hc]

/-- a store of a whole element: the world behind it is a letter -/
theorem wp_store_blk {K : Act → World → Prop} (ty : TypeId) (x y : Operand) (ho : o.op = .store ty x y)
    (g off : Nat) (hx : a.eval x = .pointer (some ⟨g, off, none⟩)) (vs : List Value) (hy : a.eval y = .agg vs.toArray) (t : TypeId) (cur new : List Value) (hb : Blk w g t cur)
    (hl : off + vs.length ≤ cur.length) (h1 : ∀ v ∈ vs, v.oneCell' = true) (hi : (P.info? ty).map (·.size) = some vs.length) (hnew : new = cur.take off ++ vs ++ cur.drop (off + vs.length))
    (h : ∀ w', Blk w' g t new → Kept (· = g) w w' → w'.heap.size = w.heap.size → K (a.put o.dst undef) w') : o.wp P a w K Q := by
  have hr := run_store_blk (P := P) ty hb off vs hl h1 hi
  unfold Oper.wp execOp
  simp only [ho, hx, hy, Instr.storeAt, Instr.sureAddr, Sem.run_bind, Sem.run_pure, Result.andThen_ok, hr]
  refine h _ ?_ (Kept.of_setRow (F := (· = g)) w rfl _) (by simp)
  subst hnew
  exact hb.row _

theorem wpList_store_blk (hgd : o.guard = none) (ty : TypeId) (x y : Operand) (ho : o.op = .store ty x y)
    (g off : Nat) (hx : a.eval x = .pointer (some ⟨g, off, none⟩)) (vs : List Value) (hy : a.eval y = .agg vs.toArray) (t : TypeId) (cur new : List Value) (hb : Blk w g t cur)
    (hl : off + vs.length ≤ cur.length) (h1 : ∀ v ∈ vs, v.oneCell' = true) (hi : (P.info? ty).map (·.size) = some vs.length) (hnew : new = cur.take off ++ vs ++ cur.drop (off + vs.length))
    (h : ∀ w', Blk w' g t new → Kept (· = g) w w' → w'.heap.size = w.heap.size → wpList P ops Q rest (a.put o.dst undef) w') : wpList P ops Q (o :: rest) a w :=
  wpList_plain hgd fun _ hK => wp_store_blk ty x y ho g off hx vs hy t cur new hb hl h1 hi hnew fun w' h2 h3 h4 => hK _ _ (h w' h2 h3 h4)

/-- a whole variable is overwritten -/
theorem whole_new {cur vs : List Value} (h : vs.length = cur.length) : vs = cur.take 0 ++ vs ++ cur.drop (0 + vs.length) := by
  rw [List.take_zero, List.drop_of_length_le (by omega)]; simp

theorem wpList_build (hgd : o.guard = none) (t : TypeId) (parts : Array (Nat × Operand)) (ho : o.op = .build t parts) (cells : List Value)
    (hp : P.built t (parts.map fun (i, x) => (i, a.eval x)).toList = some cells.toArray) (h : wpList P ops Q rest (a.put o.dst (.agg cells.toArray)) w) : wpList P ops Q (o :: rest) a w :=
  wpList_plain hgd fun _ hK => by
    unfold Oper.wp execOp
    simp only [ho, Sem.run_bind, run_build w t _ _ hp, Result.andThen_ok]
    exact hK _ _ h
end

/-! ### What a literal of several parts has -/
theorem fold_set (vs : List Value) (off : Nat) (cur : Array Value) (i : Nat) (h : off + i + vs.length ≤ cur.size) :
    (((vs.zipIdx i).foldl (fun cs x => cs.setIfInBounds (off + x.2) x.1) cur)).toList = cur.toList.take (off + i) ++ vs ++ cur.toList.drop (off + i + vs.length) := by
  induction vs generalizing i cur with
  | nil => simp
  | cons v r ih =>
    rw [List.zipIdx_cons, List.foldl_cons, ih _ _ (by simp at h ⊢; omega)]
    have hlt : off + i < cur.toList.length := by simp at h ⊢; omega
    simp only [Array.toList_setIfInBounds, List.length_cons]
    rw [List.drop_set_of_lt (by omega), show off + (i + 1) = off + i + 1 from by omega, List.take_set, List.take_succ_eq_append_getElem hlt, List.set_append_right _ _ (by simp; omega)]
    simp only [List.length_take, Nat.min_eq_left (Nat.le_of_lt hlt), Nat.sub_self, List.set_cons_zero, List.append_assoc, List.cons_append, List.nil_append]
    rw [show off + i + 1 + r.length = off + i + (r.length + 1) from by omega]

theorem fill_nil (place : Nat → Option (Nat × Nat)) (cells : Array Value) : Instr.fill place cells [] = some cells := rfl
theorem fill_cons (place : Nat → Option (Nat × Nat)) (cells : Array Value) (i : Nat) (v : Value) (r : List (Nat × Value)) (off : Nat) (vs : List Value) (hp : place i = some (off, vs.length)) (hv : v.cells = vs.toArray) (hl : off + vs.length ≤ cells.size) :
    Instr.fill place cells ((i, v) :: r) = Instr.fill place (cells.toList.take off ++ vs ++ cells.toList.drop (off + vs.length)).toArray r := by
  have h1 : v.cells.size = vs.length := by rw [hv]; simp
  have key : (v.cells.zipIdx.foldl (fun cs x => cs.setIfInBounds (off + x.2) x.1) cells) = (cells.toList.take off ++ vs ++ cells.toList.drop (off + vs.length)).toArray := by
    rw [hv]
    apply Array.ext'
    have := fold_set vs off cells 0 (by simpa using hl)
    simp only [Nat.add_zero] at this
    rw [← Array.foldl_toList]
    simpa using this
  simp only [Instr.fill, hp, h1]
  rw [if_neg (by simp; omega), key]

end Go.Proofs.Ytkapdagmffbbhaa
