/- How arguments read; sets that calls answer; copies of spans. -/
import Derived.Test.YtlbglcmajbhflaaSpanQ
import Derived.Deep.SlicePairs
import Derived.SizedLaws
import Derived.Carry
namespace Go.Proofs.Ytlbglcmajbhflaa
open Go.ChangeShapes Go.WideShapes Go.ChangeAt Go.RowKit Go.Deep
set_option linter.unusedVariables false
set_option maxRecDepth 20000

theorem sWf_i64 {z : Int} (h : (Lit.int .i64 z).wf = true) : I64 z := by
  simpa [Lit.wf, IntKind.min, IntKind.max, IntKind.signed, IntKind.bits, I64] using h

theorem STwo.below {w w' : World} {B T : Nat} {p q : Int} (h : STwo w B T p q) (hb : Below w.heap.size w w') : STwo w' B T p q := by
  unfold STwo at *
  rw [hb.block B (Array.getElem?_eq_some_iff.1 h).1, h]

theorem STwo.lt {w : World} {B T : Nat} {p q : Int} (h : STwo w B T p q) : B < w.heap.size := (Array.getElem?_eq_some_iff.1 h).1

theorem OwnI.nums {w : World} {base : Nat} {v : Value} {zs : List Int} (h : OwnI w base v zs) : ∃ ao cap, v = .slice ao zs.length cap ∧ Nums w ao zs := by
  obtain ⟨ao, cap, h1, h2, _⟩ := h.shape
  exact ⟨ao, cap, h1, h2⟩

theorem OwnS.spans {w : World} {base : Nat} {v : Value} {xs : List (Int × Int)} (h : OwnS w base v xs) : ∃ ao cap, v = .slice ao xs.length cap ∧ Spans w ao xs := by
  obtain ⟨ao, cap, h1, h2, _⟩ := h.shape
  exact ⟨ao, cap, h1, h2⟩

/-- the set of what f says -/
def IsSet (L : List (Int × Int)) (f : Nat → Bool) : Prop := rightFrom 0 L = true ∧ ∀ j, j < 4096 → maskS L j = f j

theorem IsSet.runs (f : Nat → Bool) : IsSet (Go.Proofs.Ytlbglcmajbhflaa.runs f 4096) f := ⟨runs_right f, fun j hj => runs_mask f hj⟩

theorem IsSet.eq {L M : List (Int × Int)} {f g : Nat → Bool} (h : IsSet L f) (k : IsSet M g) (e : ∀ j, j < 4096 → f j = g j) : L = M :=
  right_of_masks h.1 k.1 fun j hj => by rw [h.2 j hj, k.2 j hj, e j hj]

theorem IsSet.fits {L : List (Int × Int)} {f : Nat → Bool} (h : IsSet L f) : Fits L := right_fits h.1

theorem Cut_set (ao bo : Option Addr) (cap cap' : Nat) (xs ys : List (Int × Int)) (w : World) (hx : Spans w ao xs) (hr : rightFrom 0 xs = true) (hy : Spans w bo ys) (hr' : rightFrom 0 ys = true) :
    Calls Try.prog 31 #[.slice ao xs.length cap, .slice bo ys.length cap'] w fun e w' => ∃ co cc L, e = .returned (.slice co (L : List (Int × Int)).length cc) ∧ Spans w' co L ∧ Hid (IsSet L (fun j => maskS xs j && !maskS ys j)) ∧ Below w.heap.size w w' :=
  (Cut_any ao bo cap cap' xs ys w hx (right_fits hr) hr hy (right_fits hr') hr').mono fun e w' ⟨v, he, ho, hb⟩ => by
    obtain ⟨co, cc, rfl, hs⟩ := ho.spans
    exact ⟨co, cc, _, he, hs, IsSet.runs _, hb⟩

theorem Mix_set (ao bo : Option Addr) (cap cap' : Nat) (xs ys : List (Int × Int)) (how : Int) (w : World) (hx : Spans w ao xs) (hr : rightFrom 0 xs = true) (hy : Spans w bo ys) (hr' : rightFrom 0 ys = true) (hh : 0 ≤ how) (hh2 : how ≤ 2) :
    Calls Try.prog 32 #[.slice ao xs.length cap, .slice bo ys.length cap', .int .i64 how] w fun e w' => ∃ co cc L, e = .returned (.slice co (L : List (Int × Int)).length cc) ∧ Spans w' co L ∧ Hid (IsSet L (fun j => mixB how (maskS xs j) (maskS ys j))) ∧ Below w.heap.size w w' :=
  (Mix_any ao bo cap cap' xs ys how w hx (right_fits hr) (right_good hr) hy (right_fits hr') (right_good hr') hh hh2).mono fun e w' ⟨v, he, ho, hb⟩ => by
    obtain ⟨co, cc, rfl, hs⟩ := ho.spans
    exact ⟨co, cc, _, he, hs, IsSet.runs _, hb⟩

/-- 'append([]api.Span{}, xs...)' -/
theorem copy_spans {ops : Array Oper} {rest : List Oper} {o : Oper} {a : Act} {Q : Exit → Act → World → Prop} (hgd : o.guard = none) (s x : Operand)
    (ho : o.op = .call { callee := .builtin .append, args := #[s, x], argTypes := #[22, 22] }) (w0 : World) (hs : a.eval s = .slice (some ⟨w0.heap.size, 0, none⟩) 0 0)
    (ao : Option Addr) (cap : Nat) (xs : List (Int × Int)) (hx : a.eval x = .slice ao xs.length cap) (hn : ao = none → xs = [] ∧ cap = 0) (hsp : Spans w0 ao xs) (hf : Fits xs)
    (h : ∀ co cc w', Spans w' co xs → Below w0.heap.size w0 w' → wpList Try.prog ops Q rest (a.put o.dst (.slice co xs.length cc)) w') :
    wpList Try.prog ops Q (o :: rest) a (w0.alloc (.cells #[] 53)) := by
  obtain ⟨i0, hi, hz0, hz1, hz2⟩ := info_parts infoSpan
  have hb0 : Below w0.heap.size w0 (w0.alloc (.cells #[] 53)) := (Below.refl w0.heap.size w0).alloc (Nat.le_refl _) _
  refine wpList_append_src hgd s x 22 ho w0.heap.size 53 i0 _ 2 16 Try.underlying22 hi hz0 hz1 hz2 rfl (by decide) _ 0 [] _ hs (World.ownsRow_made w0 #[] 0 (Nat.le_refl _) (by decide) rfl)
    ao xs.length cap (flat xs) hx (fun h => by have := hn h; simp [this]) (flat_length xs) ?_ ?_ (by have := hf.2; omega) (by have := hf.2; omega) (by simp) ?_
  · intro ad e j u hu
    have hj : j < xs.length * 2 := by
      by_cases hj : j < xs.length * 2
      · exact hj
      · rw [List.getElem?_eq_none (by rw [flat_length]; omega)] at hu; cases hu
    obtain ⟨i, hij⟩ : ∃ i, j = i * 2 ∨ j = i * 2 + 1 := ⟨j / 2, by omega⟩
    obtain ⟨b, off, e', c1, c2⟩ := (hsp.below hb0) i (by omega)
    rw [e] at e'; cases e'
    rw [Go.WideShapes.add_plain]
    rcases hij with rfl | rfl
    · rw [flat_get1 xs i (by omega)] at hu
      cases hu
      exact c1
    · rw [flat_get2 xs i (by omega)] at hu
      cases hu
      rw [← Nat.add_assoc]
      exact c2
  · intro u hu
    simp only [flat, List.mem_flatMap] at hu
    obtain ⟨p, _, hp⟩ := hu
    simp at hp
    rcases hp with rfl | rfl <;> rfl
  · intro v' w' ho1 hg1
    have ho1 : OwnS w' w0.heap.size v' xs := by simpa [OwnS] using ho1
    obtain ⟨co, cc, rfl, hs1⟩ := ho1.spans
    exact h co cc w' hs1 (hb0.grown hg1 (by simp) (fun k e => by simp [Value.ownBlock] at e; omega))

section
variable {H : Type} {enc : TypeId × Value → H} {W : World} {base : Nat} {v : Value} {d : DataW H} {p : List MemPlace}

theorem arg_spans (h : DataW.Trod enc Try.prog W 0 (fun _ => true) true 22 v d p)
    (hv : Value.okWide Try.prog W .any base 22 v)
    (hw : ∀ es sp, d = .slice es sp → (es.length + sp.length) * Try.prog.bytesOf 53 ≤ reachBytes) : ∃ ao xs cap, v = .slice ao xs.length cap ∧ Spans W ao xs ∧ Fits xs ∧ (ao = none → xs = [] ∧ cap = 0) := by
  obtain ⟨a, len, cap, rfl⟩ := okWide_slice Try.underlying22 hv
  obtain ⟨fuel, hf⟩ := h
  rcases open_slice_pairs Try.underlying22 Try.underlying53 (by kernel_rfl) rfl rfl (by kernel_rfl) (by kernel_rfl) hf with ⟨hcs, _⟩ | ⟨a', len', cap', m, n, V0, V1, D0, D1, P0, P1, hcs, _, hl, hm, hmm, hx, hc⟩
  · simp [Value.cells] at hcs
    obtain ⟨rfl, rfl, rfl⟩ := hcs
    exact ⟨none, [], 0, rfl, fun i hi => by simp at hi, ⟨fun q hq => (by cases hq), by simp⟩, fun _ => ⟨rfl, rfl⟩⟩
  · simp [Value.cells] at hcs
    obtain ⟨rfl, rfl, rfl⟩ := hcs
    have hlm : len ≤ m := by rw [hmm]; split <;> omega
    simp only [Prod.mk.injEq] at hx
    have hwt := hw _ _ hx.1
    simp only [List.length_map, List.length_range] at hwt
    have hb16 : Try.prog.bytesOf 53 = 16 := by kernel_rfl
    rw [hb16] at hwt
    unfold reachBytes at hwt
    have each : ∀ i, i < len → ∃ q : Int × Int, V0 i = .int .i64 q.1 ∧ V1 i = .int .i64 q.2 ∧ I64 q.1 ∧ I64 q.2 := by
      intro i hi
      obtain ⟨_, _, h0, h1⟩ := hc i (by omega)
      obtain ⟨z0, e0, _, w0⟩ := DataW.trod_int Try.underlying3 h0
      obtain ⟨z1, e1, _, w1⟩ := DataW.trod_int Try.underlying3 h1
      simp at e0 e1
      exact ⟨(z0, z1), e0, e1, sWf_i64 w0, sWf_i64 w1⟩
    obtain ⟨q, hq⟩ := choose_lt each
    refine ⟨some a', (List.range len).map q, cap, by simp, ?_, ?_, fun h => by cases h⟩
    · intro i hi
      have hi' : i < len := by simpa using hi
      obtain ⟨c0, c1, _, _⟩ := hc i (by omega)
      obtain ⟨b, off, spot⟩ := a'
      have hspot : spot = none := by
        obtain ⟨c00, _, _, _⟩ := hc 0 (by omega)
        simpa [Addr.add] using World.cell?_spot c00
      subst hspot
      rw [Go.WideShapes.add_plain] at c0 c1
      refine ⟨b, off, rfl, ?_, ?_⟩
      · rw [c0, (hq i hi').1]; simp
      · rw [show off + i * 2 + 1 = off + (i * 2 + 1) from by omega, c1, (hq i hi').2.1]; simp
    · refine ⟨fun z hz => ?_, by simp; omega⟩
      simp only [List.mem_map, List.mem_range] at hz
      obtain ⟨i, hi, rfl⟩ := hz
      exact (hq i hi).2.2

theorem sArg_ints (h : DataW.Trod enc Try.prog W 0 (fun _ => true) true 50 v d p)
    (hv : Value.okWide Try.prog W .any base 50 v)
    (hw : ∀ es sp, d = .slice es sp → (es.length + sp.length) * Try.prog.bytesOf 3 ≤ reachBytes) : ∃ ao zs cap, v = .slice ao zs.length cap ∧ Nums W ao zs ∧ FitsI zs ∧ (ao = none → zs = [] ∧ cap = 0) := by
  obtain ⟨a, len, cap, rfl⟩ := okWide_slice Try.underlying50 hv
  obtain ⟨fuel, hf⟩ := h
  rcases open_ints Try.underlying50 Try.underlying3 (by kernel_rfl) hf with ⟨hcs, _⟩ | ⟨x, l, c, zs, hcs, _, hl, hm, hz, hx, hcell, hwz⟩
  · simp [Value.cells] at hcs
    obtain ⟨rfl, rfl, rfl⟩ := hcs
    exact ⟨none, [], 0, rfl, fun i hi => by simp at hi, ⟨fun q hq => (by cases hq), by simp⟩, fun _ => ⟨rfl, rfl⟩⟩
  · simp [Value.cells] at hcs
    obtain ⟨rfl, rfl, rfl⟩ := hcs
    have hlz : len ≤ zs.length := by rw [hz]; split <;> omega
    simp only [Prod.mk.injEq] at hx
    have hwt := hw _ _ hx.1
    simp only [lits, List.length_map, List.length_take, List.length_drop] at hwt
    have hb8 : Try.prog.bytesOf 3 = 8 := by kernel_rfl
    rw [hb8] at hwt
    unfold reachBytes at hwt
    refine ⟨some x, zs.take len, cap, by simp; omega, ?_, ?_, fun h => by cases h⟩
    · intro i hi
      have hi' : i < len := by simp at hi; omega
      have hp : 0 < zs.length := by omega
      obtain ⟨b, off, rfl, hc⟩ := ints_at hcell hp
      refine ⟨b, off, rfl, ?_⟩
      rw [hc i (by omega)]
      simp only [List.getElem_take]
      rw [List.getD_eq_getElem?_getD, List.getElem?_eq_getElem (by omega)]
      rfl
    · refine ⟨fun z hz' => sWf_i64 (hwz z (List.mem_of_mem_take hz')), by simp; omega⟩
end
end Go.Proofs.Ytlbglcmajbhflaa
