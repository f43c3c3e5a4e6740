/- span.Count, Has, List, Join and Cut answer for any sets as their plain functions do. -/
import Derived.Test.YtlbglcmajbhflaaSpanM
namespace Go.Proofs.Ytlbglcmajbhflaa
open Go.ChangeShapes Go.WideShapes Go.ChangeAt Go.RowKit Go.Shelf
attribute [local go_sem] Oper.semAt_some
set_option linter.unusedVariables false
set_option maxRecDepth 20000

theorem stays_push {W w1 : World} {n₀ B : Nat} {e : TypeId} {v : Value} {k : Nat} {xs : List Value} {tmp : Obj} (hrow : W.ownsRow n₀ e 1 v k xs) (hgrow : (W.alloc tmp).grownBy w1 v.ownBlock) : Stays (fun k T => k = B ∨ (T = e ∧ n₀ ≤ k)) W w1 := by
  refine (Stays.alloc _ W tmp).trans (Stays.grown hgrow fun k cs T fr hk e => ?_)
  rcases (hrow.alloc tmp).2 with ⟨rfl, _⟩ | ⟨g, cap, cur, rfl, hbg, hg, _⟩
  · simp [Value.ownBlock] at hk
  · simp [Value.ownBlock] at hk
    subst hk
    rw [hg] at e
    cases e
    exact .inr ⟨rfl, hbg⟩

set_option maxRecDepth 100000 in
set_option maxHeartbeats 2000000 in
theorem AppendSeq_any (ao : Option Addr) (cap Bs : Nat) (xs : List (Int × Int)) (w : World) (hx : Spans w ao xs) (hf : Fits xs) (hr : rightFrom 0 xs = true) (hBs : w.cell? ⟨Bs, 0, none⟩ = some (.slice ao xs.length cap)) :
    Calls Try.prog 47 #[.slice none 0 0, .func (.func 48) #[] #[.pointer (some ⟨Bs, 0, none⟩)]] w fun e w' => ∃ v, e = .returned v ∧ OwnI w' w.heap.size v ((upTo (maskS xs) 4096).map fun x => (x.val : Int)) ∧ Below w.heap.size w w' := by
  have hBw := cell_lt hBs
  simp only at hBw
  refine (callsIn_wide (n := 5)).1 ?_
  refine callsIn_of_wp_marks Try.func47 rfl trivial ?_ rfl
  simp only [Try.ntmps47, List.size_toArray, List.length_cons, List.length_nil, Nat.reduceAdd, Nat.reduceSub, Array.replicate_succ, Array.replicate_zero, List.push_toArray, List.append_toArray, List.nil_append, List.cons_append]
  have hA := Lib.hid hx.lt
  have hx := Lib.hid hx
  have hf := Lib.hid hf
  have hr := Lib.hid hr
  have hBs := Lib.hid hBs
  obtain ⟨i0, hi, hz0, hz1, hz2⟩ := info_parts sInfoInt
  gi_wp2
  obtain ⟨w1, hw1⟩ : ∃ w1 : World, w1 = (w.alloc (.cells #[.slice none 0 0] 50)) := ⟨_, rfl⟩
  have hsz : w1.heap.size = w.heap.size + 1 := by rw [hw1]; simp
  have hB1 : Below w.heap.size w w1 := by rw [hw1]; exact (Below.refl _ _).alloc (Nat.le_refl _) _
  have hbox : Boxed w1 w.heap.size 50 (.slice none 0 0) := by rw [hw1]; exact Boxed.new _ _ _
  rw [← hw1]
  refine wpIn_rangeFunc_ownF rfl (by omega) (gf := 48) (lb := #[.pointer (some ⟨Bs, 0, none⟩)]) rfl trivial (enters_of Try.func48 (by kernel_rfl) rfl)
    (numbers_stops 4 (by omega) (fun k T => k = w.heap.size ∨ (T = 3 ∧ w.heap.size ≤ k)) Bs ao cap xs hr.out hf.out w1 (by omega) (hx.out.below hB1) (fun hne a e T h => by have := hA.out hne a e; omega) (fun k hk e => by exact e.elim (fun e => by omega) (fun e => absurd e.1 (by decide))) ((hB1.cell hBw).trans hBs.out))
    Stays.t (fun W l o o' h1 h2 h3 h4 => Stays.b _ W l o o' h1 h2 h3 h4) (Below.refl _ _) (fun _ => rfl)
    (fun pre W => (∃ v, Boxed W w.heap.size 50 v ∧ W.ownsRow w.heap.size 3 1 v pre.length (pre.map fun x : Fin 4096 => Value.int .i64 (x.val : Int)) ∧ True) ∧ Below w.heap.size w W)
    (fun _ _ _ => False)
    (OwnFrom.and (Own.from (holdsRow_own w.heap.size w.heap.size 50 3 1 (fun (pre : List (Fin 4096)) => pre.length) (fun (pre : List (Fin 4096)) => pre.map fun x : Fin 4096 => Value.int .i64 (x.val : Int)) (fun _ _ => True)) _) (ownFrom_below (by omega) (by omega)))
    (fun _ _ _ _ _ hs _ _ => hs)
    ⟨⟨_, hbox, World.ownsRow_nil _ _ _ _, trivial⟩, hB1⟩
    (fun x => { tmps := #[.slice none 0 0, .func (.func 48) #[] #[.pointer (some ⟨Bs, 0, none⟩)], .pointer (some ⟨w.heap.size, 0, none⟩), undef, .slice none 0 0, .int .i64 (x.val : Int), .func (.func 48) #[] #[.pointer (some ⟨Bs, 0, none⟩)], .int .i64 (x.val : Int), undef, undef, undef, undef, undef], defers := [] }) ?assign ?body ?done ?stop
  case assign =>
    intro l x W K hK
    gi_wp2
    exact hK
  case body =>
    rintro l pre x W ⟨⟨v, hv, hrow, _⟩, hB⟩ hlen
    have hvc := hv.cell
    have hsB := hB.size
    gi_wp2_with (gi_at_builtin; refine wpListIn_append_own _ rfl _ _ 50 rfl w.heap.size 3 i0 (.int .i64 0) 1 8 Try.underlying50 hi hz0 hz1 hz2 rfl (by decide) _ _ _ rfl (hrow.alloc _) ⟨W.heap.size, 0, none⟩ 1 1 [.int .i64 (x.val : Int)] rfl rfl (cell_one_new _ _ _) (by simp [Value.oneCell']) (by unfold maxLen; omega) (by omega) (by have := hB.size; simp; omega) ?_; intro v' w1 hown' hgrow _; obtain ⟨g', cap', rfl⟩ := ownsRow_succ hown'; obtain ⟨hv1, hv2, hr2, hk2, hb2⟩ := hv.appended (by decide) hrow hB.size (Nat.le_refl _) hown' hgrow; have hc1 := hv1.cell; have hf1 := hv1.frozen; have hst : Hid (Stays (fun k T => k = w.heap.size ∨ (T = 3 ∧ w.heap.size ≤ k)) W w1) := ?hst)
    case hst =>
      exact Lib.hid (stays_push hrow hgrow)
    exact ⟨hk2, hst.out.trans (Stays.setCell _ _ (fun _ => .inl rfl)), ⟨_, hv2, by simpa using hr2, trivial⟩, hB.trans hb2⟩
  case done =>
    rintro D ys W hD rfl ⟨⟨v, hv, hrow, _⟩, hB⟩ hK
    have hvc := hv.cell
    gi_wp2
    refine ⟨by simp, .inl ⟨_, _, rfl, run_takeDeferred hK, ?_⟩⟩
    exact ⟨_, results_tmp rfl _ _ _, _, rfl, (by have := ownsRow_putObj (l := D) hrow (.deferred none) hK rfl; unfold OwnI; rw [List.length_map, List.map_map]; exact this), hB.trans (belowK_b (w := w) (Nat.le_refl _) W D _ _ (by omega) hK rfl rfl)⟩
  case stop =>
    rintro D c pre W _ _ h _
    exact h.elim

theorem upTo_nums (f : Nat → Bool) : (upTo f 4096).map (fun x => (x.val : Int)) = numsL f 4096 := by
  unfold upTo numsL
  have h1 : (List.range 4096).filter f = ((List.finRange 4096).filter fun j => f j.val).map (fun j => j.val) := by
    have h0 : List.range 4096 = (List.finRange 4096).map fun j => j.val := by
      apply List.ext_getElem
      · simp
      · intro i h1 h2; simp
    rw [h0, List.filter_map]
    rfl
  rw [h1, List.map_map]
  have h2 : (List.finRange 4096).filter (fun j => decide (j.val < 4096) && f j.val) = (List.finRange 4096).filter fun j => f j.val := List.filter_congr fun j _ => by simp
  rw [h2]
  rfl

set_option maxHeartbeats 1000000 in
theorem Collect_any (ao : Option Addr) (cap Bs : Nat) (xs : List (Int × Int)) (w : World) (hx : Spans w ao xs) (hf : Fits xs) (hr : rightFrom 0 xs = true) (hBs : w.cell? ⟨Bs, 0, none⟩ = some (.slice ao xs.length cap)) :
    Calls Try.prog 39 #[.func (.func 48) #[] #[.pointer (some ⟨Bs, 0, none⟩)]] w fun e w' => ∃ v, e = .returned v ∧ OwnI w' w.heap.size v (numsL (maskS xs) 4096) ∧ Below w.heap.size w w' := by
  rw [← upTo_nums]
  have hA := Lib.hid hx.lt
  have hx := Lib.hid hx
  have hf := Lib.hid hf
  have hr := Lib.hid hr
  have hBs := Lib.hid hBs
  go_enter Try.func39, Try.ntmps39
  go_wp2_with (go_at_call 47; refine (AppendSeq_any ao cap Bs xs _ hx.out hf.out hr.out hBs.out).mono ?_; rintro e w' ⟨v, rfl, ho, hb'⟩)
  go_ret
  exact ⟨_, rfl, ho, hb'⟩

set_option maxHeartbeats 1000000 in
theorem List_any (ao : Option Addr) (cap : Nat) (xs : List (Int × Int)) (w : World) (hx : Spans w ao xs) (hf : Fits xs) (hr : rightFrom 0 xs = true) :
    Calls Try.prog 24 #[.slice ao xs.length cap] w fun e w' => ∃ v, e = .returned v ∧ OwnI w' w.heap.size v (numsL (maskS xs) 4096) ∧ Below w.heap.size w w' := by
  have hA := Lib.hid hx.lt
  have hx := Lib.hid hx
  have hf := Lib.hid hf
  have hr := Lib.hid hr
  have hB1 : Below w.heap.size w (w.alloc (.cells #[.slice ao xs.length cap] 22)) := (Below.refl _ _).alloc (Nat.le_refl _) _
  have hB1 := Lib.hid hB1
  go_enter Try.func24, Try.ntmps24
  go_wp2_with fail
  refine (callsIn_wide.1 (numbers_in 5 _ _ _ _)).mono ?_
  rintro e w' ⟨rfl, rfl⟩
  go_wp2_with fail
  refine (Collect_any ao cap w.heap.size xs _ (hx.out.below hB1.out) hf.out hr.out (by simp)).mono ?_
  rintro e w' ⟨v, rfl, ho, hb'⟩
  have hsz : w.heap.size ≤ (w.alloc (.cells #[.slice ao xs.length cap] 22)).heap.size := by simp
  have ho := Lib.hid (ho.le hsz)
  have hb' := Lib.hid (hb'.mono hsz)
  go_wp2
  go_ret
  exact ⟨_, rfl, ho.out, hB1.out.trans hb'.out⟩

/-- the marks of either of two, of the first alone, of both -/
theorem OwnS.lt {w : World} {base : Nat} {v : Value} {xs : List (Int × Int)} (h : OwnS w base v xs) : ∃ ao cap, v = .slice ao xs.length cap ∧ Spans w ao xs ∧ (∀ a, ao = some a → a.block < w.heap.size) := by
  obtain ⟨ao, cap, h1, h2, h3⟩ := h.shape
  exact ⟨ao, cap, h1, h2, fun a e => (h3 a e).2⟩

set_option maxHeartbeats 1000000 in
set_option maxRecDepth 20000 in
theorem Cut_any (ao bo : Option Addr) (cap cap' : Nat) (xs ys : List (Int × Int)) (w : World) (hx : Spans w ao xs) (hf : Fits xs) (hr : rightFrom 0 xs = true)
    (hy : Spans w bo ys) (hf' : Fits ys) (hr' : rightFrom 0 ys = true) :
    Calls Try.prog 31 #[.slice ao xs.length cap, .slice bo ys.length cap'] w fun e w' => ∃ v, e = .returned v ∧ OwnS w' w.heap.size v (runs (fun j => maskS xs j && !maskS ys j) 4096) ∧ Below w.heap.size w w' := by
  have hz := zero48
  have hB0 : Below w.heap.size w (w.alloc (.cells (bools fun _ => false) 76)) := (Below.refl _ _).alloc (Nat.le_refl _) _
  have hB0 := Lib.hid hB0
  have hA := Lib.hid hx.lt
  have hA' := Lib.hid hy.lt
  have hx := Lib.hid hx
  have hy := Lib.hid hy
  go_enter Try.func31, Try.ntmps31
  go_wp2_with fail
  refine (sPut_any w.heap.size 76 _ ao cap xs true _ (Marked.new _ _ _) (hx.out.below hB0.out) hf hr hA.out).mono ?_
  rintro e w1 ⟨rfl, hm1, hb1⟩
  go_wp2_with fail
  refine (sPut_any w.heap.size 76 _ bo cap' ys false _ hm1 (hy.out.below (hB0.out.trans hb1)) hf' hr' hA'.out).mono ?_
  rintro e w2 ⟨rfl, hm2, hb2⟩
  have hm3 := hm2.congr (g := fun j => maskS xs j && !maskS ys j) (fun j _ => by cases maskS xs j <;> cases maskS ys j <;> rfl)
  have hb3 := Lib.hid (hB0.out.trans (hb1.trans hb2))
  have hm3 := Lib.hid hm3
  have hs3 := hb3.out.size
  clear hb1 hb2 hm1 hm2
  go_wp2_with fail
  refine (spans_any _ _ _ _ hm3.out).mono ?_
  rintro e w' ⟨v, rfl, ho, hb'⟩
  have ho := Lib.hid (ho.le hs3)
  have hb' := Lib.hid (hb'.mono hs3)
  go_wp2
  go_ret
  exact ⟨_, rfl, ho.out, hb3.out.trans hb'.out⟩
end Go.Proofs.Ytlbglcmajbhflaa
