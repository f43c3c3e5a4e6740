/- An append of one element in a region that draws its order. -/
import Derived.Test.YtbnfciefllbcdaaMem
import Derived.Deep.AppendLies
import Derived.Deep.RegionHeld3
namespace Go.Proofs.Ytbnfciefllbcdaa
open Go.ChangeShapes Go.WideShapes Go.ChangeAt Go.RowKit
set_option linter.unusedVariables false

theorem step_own_push {P : Program} {ops : Array Oper} {o : Oper} {a : Act} {K : Act → World → Prop} {Q : Exit → Act → World → Prop} {E : Prop} (hgd : o.guard = none) (s x : Operand) (t : TypeId)
    (ho : o.op = .call { callee := .builtin .append, args := #[s, x], argTypes := #[t, t] })
    (base : Nat) (e : TypeId) (i : TypeInfo) (z : Value) (bytes : Nat) (ht : P.underlying t = some (.slice e)) (hi : P.info? e = some i) (hz : i.zero = some z)
    (hsize : i.size = 1) (hby : i.bytes = bytes) (hzs : z.cells.size = 1)
    (v : Value) (cs : List Value) (w0 : World) (hs : a.eval s = v) (hown : Own w0 base e v cs)
    (c : Nat) (y : Value) (hx : a.eval x = .slice (some ⟨w0.heap.size, 0, none⟩) 1 c) (h1 : y.oneCell' = true)
    (hn : cs.length < 9223372036854775807) (hbytes : (cs.length + 1) * bytes ≤ 140737488355328) (hbase : base ≤ w0.heap.size)
    (h : ∀ v' w', Own w' base e v' (cs ++ [y]) → Grew w0 w' v v' → K (a.put o.dst v') w') :
    if Region.wanted o (yielded ops a.tmps) = true then Oper.wp P o a (w0.alloc (.cells #[y] e)).drew K Q else E := by
  refine step_append_lies _ hgd s x t ho base e i z 1 bytes ht hi hz hsize hby hzs (by decide) v cs.length cs hs ((World.ownsRow.alloc hown (.cells #[y] e)).drew)
    ⟨w0.heap.size, 0, none⟩ 1 c [y] hx rfl (fun j u hu => by
      have := World.news_of_block (cs := #[y]) (t := e) (fr := (0, 0)) (heap_alloc_new w0 (.cells #[y] e)) j u (by simpa using hu)
      exact this) (by simpa using h1) (by omega) (by unfold maxLen; omega) hbytes (by simp; omega) (w0.heap.size + 1) (by simp) ?_
  intro g cap w1 h2 h3 h4 h5
  refine h _ w1 (by simpa [Own] using h2) ?_
  have k1 : Grew w0 (w0.alloc (.cells #[y] e)).drew v v := Grew.of_below v (((Below.refl w0.heap.size w0).alloc (Nat.le_refl _) (.cells #[y] e)).drew)
  refine k1.trans ⟨h3, ?_⟩
  rcases h4 with h4 | h4
  · exact .inl (by rw [h4]; rfl)
  · exact .inr ⟨g, rfl, by rw [h4]; simp⟩

/-- a cell of another block is as it was -/
theorem Grew.cell_far {w w1 : World} {v v1 : Value} (h : Grew w w1 v v1) {b : Nat} (o : Nat) (hb : b < w.heap.size) (hv : ∀ g, v.ownBlock = some g → b < g) : w1.cell? ⟨b, o, none⟩ = w.cell? ⟨b, o, none⟩ :=
  h.1.cell_far ⟨b, o, none⟩ hb (fun e => by have := hv b e.symm; omega)
end Go.Proofs.Ytbnfciefllbcdaa
