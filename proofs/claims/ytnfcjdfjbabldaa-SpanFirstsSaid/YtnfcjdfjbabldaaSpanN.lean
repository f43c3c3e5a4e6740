/- span.Count, Has, List, Join and Cut answer for any sets as their plain functions do. -/
import Derived.Test.YtnfcjdfjbabldaaSpanM
namespace Go.Proofs.Ytnfcjdfjbabldaa
open Go.ChangeShapes Go.WideShapes Go.ChangeAt Go.RowKit Go.Shelf
attribute [local go_sem] Oper.semAt_some
set_option linter.unusedVariables false

set_option maxRecDepth 100000 in
set_option maxHeartbeats 2000000 in
theorem Count_any (ao : Option Addr) (cap : Nat) (xs : List (Int × Int)) (w : World) (hx : Spans w ao xs) (hf : Fits xs) (hr : rightFrom 0 xs = true) :
    Calls Try.prog 13 #[.slice ao xs.length cap] w fun e w' => e = .returned (.int .i64 ((upTo (maskS xs) 4096).length : Int)) ∧ Below w.heap.size w w' := by
  refine (callsIn_wide (n := 5)).1 ?_
  refine callsIn_of_wp_marks Try.func13 rfl trivial ?_ rfl
  simp only [Try.ntmps13, List.size_toArray, List.length_cons, List.length_nil, Nat.reduceAdd, Nat.reduceSub, Array.replicate_succ, Array.replicate_zero, List.push_toArray, List.append_toArray, List.nil_append, List.cons_append]
  have hA := Lib.hid hx.lt
  have hx := Lib.hid hx
  have hf := Lib.hid hf
  have hr := Lib.hid hr
  gi_wp2_with (refine ⟨trivial, ?_⟩; gi_at_call 30; refine (numbers_in _ _ _ _ _).mono ?_; rintro e w' ⟨rfl, rfl⟩)
  obtain ⟨w2, hw2⟩ : ∃ w2 : World, w2 = ((w.alloc (.cells #[.int .i64 0] 3)).alloc (.cells #[.slice ao xs.length cap] 27)) := ⟨_, rfl⟩
  have hsz : w2.heap.size = w.heap.size + 2 := by rw [hw2]; simp
  have hB2 : Below w.heap.size w w2 := by rw [hw2]; exact ((Below.refl _ _).alloc (Nat.le_refl _) _).alloc (by simp) _
  have c1 : w2.cell? ⟨w.heap.size, 0, none⟩ = some (.int .i64 0) := by rw [hw2]; simp [go_sem]
  have f1 : w2.frozen? ⟨w.heap.size, 0, none⟩ = false := by rw [hw2]; simp [go_sem]
  have c3 : w2.cell? ⟨w.heap.size + 1, 0, none⟩ = some (.slice ao xs.length cap) := by rw [hw2]; simp [go_sem]
  rw [← hw2]
  refine wpIn_rangeFunc_ownF rfl (by omega) (gf := 36) (lb := #[.pointer (some ⟨w.heap.size + 1, 0, none⟩)]) rfl trivial (enters_of Try.func36 (by kernel_rfl) rfl)
    (numbers_stops 4 (by omega) (fun k _ => k = w.heap.size) (w.heap.size + 1) ao cap xs hr.out hf.out w2 (by omega) (hx.out.below hB2) (fun hne a e T h => by have := hA.out hne a e; omega) (fun k hk e => by omega) c3)
    Stays.t (fun W l o o' h1 h2 h3 h4 => Stays.b _ W l o o' h1 h2 h3 h4) (Below.refl _ _) (fun _ => rfl)
    (fun pre W => (W.cell? ⟨w.heap.size, 0, none⟩ = some (.int .i64 (pre.length : Int)) ∧ W.frozen? ⟨w.heap.size, 0, none⟩ = false) ∧ Below w.heap.size w W)
    (fun _ _ _ => False)
    (OwnFrom.and (Own.from (fun s A B row hs hg hr => ⟨cell_kept hs.1 hg hr, (frozen_kept hs.1 hg hr).trans hs.2⟩) _) (ownFrom_below (by omega) (by omega)))
    (fun _ _ _ _ _ hs _ _ => hs)
    ⟨⟨c1, f1⟩, hB2⟩
    (fun x => { tmps := #[.slice ao xs.length cap, undef, .int .i64 0, .pointer (some ⟨w.heap.size, 0, none⟩), .slice ao xs.length cap, .func (.func 36) #[] #[.pointer (some ⟨w.heap.size + 1, 0, none⟩)], .int .i64 (x.val : Int), undef, undef, undef], defers := [] }) ?assign ?body ?done ?stop
  case assign =>
    intro l x W K hK
    gi_wp2
    simpa using hK
  case body =>
    rintro l pre x W ⟨⟨d1, d2⟩, hB⟩ hlen
    have hB := Lib.hid hB
    gi_wp2
    exact ⟨KeepsOthers.setCell _ _ _, Stays.setCell _ _ (fun _ => rfl), ⟨by rw [List.length_append]; exact World.cell?_setCell_same' _ _ _ (by rw [d1]; rfl), by rw [World.frozen?_setCell]; exact d2⟩, hB.out.setCell (Nat.le_refl _) _⟩
  case done =>
    rintro D ys W hD rfl ⟨⟨d1, _⟩, hB⟩ hK
    gi_wp2
    refine ⟨by simp, .inl ⟨_, _, rfl, run_takeDeferred hK, ?_⟩⟩
    exact ⟨_, results_tmp rfl _ _ _, rfl, hB.trans (belowK_b (w := w) (Nat.le_refl _) W D _ _ (by omega) hK rfl rfl)⟩
  case stop =>
    rintro D c pre W _ _ h _
    exact h.elim

set_option maxRecDepth 100000 in
set_option maxHeartbeats 2000000 in
theorem Has_any (ao : Option Addr) (cap : Nat) (xs : List (Int × Int)) (q : Int) (w : World) (hx : Spans w ao xs) (hf : Fits xs) (hr : rightFrom 0 xs = true) :
    Calls Try.prog 23 #[.slice ao xs.length cap, .int .i64 q] w fun e w' => e = .returned (.bool (hasL xs q)) ∧ Below w.heap.size w w' := by
  refine (callsIn_wide (n := 5)).1 ?_
  refine callsIn_of_wp_marks Try.func23 rfl trivial ?_ rfl
  simp only [Try.ntmps23, List.size_toArray, List.length_cons, List.length_nil, Nat.reduceAdd, Nat.reduceSub, Array.replicate_succ, Array.replicate_zero, List.push_toArray, List.append_toArray, List.nil_append, List.cons_append]
  have hA := Lib.hid hx.lt
  have hx := Lib.hid hx
  have hf := Lib.hid hf
  have hr := Lib.hid hr
  gi_wp2_with (refine ⟨trivial, ?_⟩; gi_at_call 30; refine (numbers_in _ _ _ _ _).mono ?_; rintro e w' ⟨rfl, rfl⟩)
  obtain ⟨w3, hw3⟩ : ∃ w3 : World, w3 = (((w.alloc (.cells #[.int .i64 q] 3)).alloc (.cells #[.bool false] 4)).alloc (.cells #[.slice ao xs.length cap] 27)) := ⟨_, rfl⟩
  have hsz : w3.heap.size = w.heap.size + 3 := by rw [hw3]; simp
  have hB3 : Below w.heap.size w w3 := by rw [hw3]; exact (((Below.refl _ _).alloc (Nat.le_refl _) _).alloc (by simp) _).alloc (by simp; omega) _
  have c1 : w3.cell? ⟨w.heap.size, 0, none⟩ = some (.int .i64 q) := by rw [hw3]; simp [go_sem]
  have c2 : w3.cell? ⟨w.heap.size + 1, 0, none⟩ = some (.bool false) := by rw [hw3]; simp [go_sem]
  have f2 : w3.frozen? ⟨w.heap.size + 1, 0, none⟩ = false := by rw [hw3]; simp [go_sem]
  have c3 : w3.cell? ⟨w.heap.size + 1 + 1, 0, none⟩ = some (.slice ao xs.length cap) := by rw [hw3]; simp [go_sem]
  rw [← hw3]
  refine wpIn_rangeFunc_ownF rfl (by omega) (gf := 36) (lb := #[.pointer (some ⟨w.heap.size + 1 + 1, 0, none⟩)]) rfl trivial (enters_of Try.func36 (by kernel_rfl) rfl)
    (numbers_stops 4 (by omega) (fun k _ => k = w.heap.size + 1) (w.heap.size + 1 + 1) ao cap xs hr.out hf.out w3 (by omega) (hx.out.below hB3) (fun hne a e T h => by have := hA.out hne a e; omega) (fun k hk e => by omega) c3)
    Stays.t (fun W l o o' h1 h2 h3 h4 => Stays.b _ W l o o' h1 h2 h3 h4) (Below.refl _ _) (fun _ => rfl)
    (fun pre W => (Hid (∀ y ∈ pre, ((y : Fin 4096).val : Int) < q) ∧ W.cell? ⟨w.heap.size, 0, none⟩ = some (.int .i64 q) ∧ W.cell? ⟨w.heap.size + 1, 0, none⟩ = some (.bool false) ∧ W.frozen? ⟨w.heap.size + 1, 0, none⟩ = false) ∧ Below w.heap.size w W)
    (fun c pre W => (c = .ret ∧ (∃ pr x, pre = pr ++ [x] ∧ (∀ y ∈ pr, ((y : Fin 4096).val : Int) < q) ∧ q ≤ ((x : Fin 4096).val : Int) ∧ W.cell? ⟨w.heap.size + 1, 0, none⟩ = some (.bool ((x.val : Int) == q)))) ∧ Below w.heap.size w W)
    (OwnFrom.and (Own.from (fun s A B row hs hg hr => ⟨hs.1, cell_kept hs.2.1 hg hr, cell_kept hs.2.2.1 hg hr, (frozen_kept hs.2.2.1 hg hr).trans hs.2.2.2⟩) _) (ownFrom_below (by omega) (by omega)))
    (fun c => OwnFrom.and (Own.from (fun s A B row hs hg hr => ⟨hs.1, by obtain ⟨pr, x, e, h1, h2, h3⟩ := hs.2; exact ⟨pr, x, e, h1, h2, cell_kept h3 hg hr⟩⟩) _) (ownFrom_below (by omega) (by omega)))
    ⟨⟨Lib.hid (fun y hy => by cases hy), c1, c2, f2⟩, hB3⟩
    (fun x => { tmps := #[.slice ao xs.length cap, .int .i64 q, undef, .pointer (some ⟨w.heap.size, 0, none⟩), .pointer (some ⟨w.heap.size + 1, 0, none⟩), .int .i64 (x.val : Int), .slice ao xs.length cap, .func (.func 36) #[] #[.pointer (some ⟨w.heap.size + 1 + 1, 0, none⟩)], .int .i64 (x.val : Int), undef, undef, undef, undef, undef, undef], defers := [] }) ?assign ?body ?done ?stop
  case assign =>
    intro l x W K hK
    gi_wp2
    exact hK
  case body =>
    rintro l pre x W ⟨⟨hall, d1, d2, d3⟩, hB⟩ hlen
    have hB := Lib.hid hB
    by_cases hq : q ≤ (x.val : Int)
    · gi_wp2
      exact ⟨KeepsOthers.setCell _ _ _, ⟨rfl, pre, x, rfl, hall.out, hq, World.cell?_setCell_same' _ _ _ (by rw [d2]; rfl)⟩, hB.out.setCell (by simp) _⟩
    · gi_wp2
      exact ⟨KeepsOthers.refl _, Stays.refl _ _, ⟨Lib.hid (fun y hy => (List.mem_append.1 hy).elim (hall.out y) (fun e => by simp at e; subst e; omega)), d1, d2, d3⟩, hB.out⟩
  case done =>
    rintro D ys W hD rfl ⟨⟨hall, _, hcr, hfr⟩, hB⟩ hK
    have hno : hasL xs q = false := by
      by_cases h1 : q < 0
      · exact right_low hr.out h1
      · obtain ⟨m, rfl⟩ := Int.eq_ofNat_of_zero_le (show 0 ≤ q from by omega)
        cases hm : hasL xs m
        · rfl
        · exfalso
          have hm4 : m < 4096 := by
            have hg := right_good hr.out
            simp only [hasL, List.any_eq_true] at hm
            obtain ⟨p, hp, hpq⟩ := hm
            have := hg p hp
            simp at hpq
            omega
          have := hall.out ⟨m, hm4⟩ (by simp [upTo, maskS, hm])
          simp at this
    have hno := Lib.hid hno
    gi_wp2
    have hK' := (KeepsOthers.setCell W ⟨w.heap.size + 1, 0, none⟩ (.bool false)).same D _ hK rfl
    refine ⟨by simp, .inl ⟨_, _, rfl, run_takeDeferred hK', ?_⟩⟩
    have hc5 := cell_kept (World.cell?_setCell_same' W ⟨w.heap.size + 1, 0, none⟩ (.bool false) (by rw [hcr]; rfl)) (grownBy_putObj' _ D (.deferred none)) (fun r e => by cases e; exact ⟨_, hK', rfl⟩)
    refine ⟨.bool false, ?_, by rw [hno.out], (hB.setCell (p := ⟨w.heap.size + 1, 0, none⟩) (by simp) _).trans (belowK_b (w := w) (Nat.le_refl _) _ D _ _ (by omega) hK' rfl rfl)⟩
    simp [results, Try.f23, go_sem, hc5]
  case stop =>
    rintro D c pre W hD ⟨m, hm4, hmask, hpre⟩ ⟨⟨rfl, pr, x, hpx, hall, hqx, hcr⟩, hB⟩ hK
    rw [upTo_in hm4 hmask] at hpre
    rw [hpx] at hpre
    obtain ⟨e1, e2⟩ := List.append_inj' hpre rfl
    simp at e2
    have hval : ((x.val : Int) == q) = hasL xs q := by
      by_cases he : (x.val : Int) = q
      · rw [beq_iff_eq.2 he, ← he, e2]; exact hmask.symm
      · rw [beq_eq_false_iff_ne.2 he]
        symm
        by_cases h1 : q < 0
        · exact right_low hr.out h1
        · obtain ⟨p, rfl⟩ := Int.eq_ofNat_of_zero_le (show 0 ≤ q from by omega)
          cases hp : hasL xs p
          · rfl
          · exfalso
            have hpm : p < m := by rw [e2] at he hqx; simp at he hqx; omega
            have := hall ⟨p, by omega⟩ (by rw [e1]; simp [upTo, maskS, hp, hpm])
            simp at this
    rw [hval] at hcr
    gi_wp2
    refine ⟨by simp, .inl ⟨_, _, rfl, run_takeDeferred hK, ?_⟩⟩
    have hc5 := cell_kept hcr (grownBy_putObj' _ D (.deferred none)) (fun r e => by cases e; exact ⟨_, hK, rfl⟩)
    refine ⟨.bool (hasL xs q), ?_, rfl, hB.trans (belowK_b (w := w) (Nat.le_refl _) W D _ _ (by omega) hK rfl rfl)⟩
    simp [results, Try.f23, go_sem, hc5]

theorem stays_push {W w1 : World} {n₀ B : Nat} {e : TypeId} {v : Value} {k : Nat} {xs : List Value} {tmp : Obj} (hrow : W.ownsRow n₀ e 1 v k xs) (hgrow : (W.alloc tmp).grownBy w1 v.ownBlock) : Stays (fun k T => k = B ∨ (T = e ∧ n₀ ≤ k)) W w1 := by
  refine (Stays.alloc _ W tmp).trans (Stays.grown hgrow fun k cs T fr hk e => ?_)
  rcases (hrow.alloc tmp).2 with ⟨rfl, _⟩ | ⟨g, cap, cur, rfl, hbg, hg, _⟩
  · simp [Value.ownBlock] at hk
  · simp [Value.ownBlock] at hk
    subst hk
    rw [hg] at e
    cases e
    exact .inr ⟨rfl, hbg⟩

set_option maxRecDepth 100000 in
set_option maxHeartbeats 2000000 in
theorem AppendSeq_any (ao : Option Addr) (cap Bs : Nat) (xs : List (Int × Int)) (w : World) (hx : Spans w ao xs) (hf : Fits xs) (hr : rightFrom 0 xs = true) (hBs : w.cell? ⟨Bs, 0, none⟩ = some (.slice ao xs.length cap)) :
    Calls Try.prog 37 #[.slice none 0 0, .func (.func 36) #[] #[.pointer (some ⟨Bs, 0, none⟩)]] w fun e w' => ∃ v, e = .returned v ∧ OwnI w' w.heap.size v ((upTo (maskS xs) 4096).map fun x => (x.val : Int)) ∧ Below w.heap.size w w' := by
  have hBw := cell_lt hBs
  simp only at hBw
  refine (callsIn_wide (n := 5)).1 ?_
  refine callsIn_of_wp_marks Try.func37 rfl trivial ?_ rfl
  simp only [Try.ntmps37, List.size_toArray, List.length_cons, List.length_nil, Nat.reduceAdd, Nat.reduceSub, Array.replicate_succ, Array.replicate_zero, List.push_toArray, List.append_toArray, List.nil_append, List.cons_append]
  have hA := Lib.hid hx.lt
  have hx := Lib.hid hx
  have hf := Lib.hid hf
  have hr := Lib.hid hr
  have hBs := Lib.hid hBs
  obtain ⟨i0, hi, hz0, hz1, hz2⟩ := info_parts infoInt
  gi_wp2
  obtain ⟨w1, hw1⟩ : ∃ w1 : World, w1 = (w.alloc (.cells #[.slice none 0 0] 25)) := ⟨_, rfl⟩
  have hsz : w1.heap.size = w.heap.size + 1 := by rw [hw1]; simp
  have hB1 : Below w.heap.size w w1 := by rw [hw1]; exact (Below.refl _ _).alloc (Nat.le_refl _) _
  have hbox : Boxed w1 w.heap.size 25 (.slice none 0 0) := by rw [hw1]; exact Boxed.new _ _ _
  rw [← hw1]
  refine wpIn_rangeFunc_ownF rfl (by omega) (gf := 36) (lb := #[.pointer (some ⟨Bs, 0, none⟩)]) rfl trivial (enters_of Try.func36 (by kernel_rfl) rfl)
    (numbers_stops 4 (by omega) (fun k T => k = w.heap.size ∨ (T = 3 ∧ w.heap.size ≤ k)) Bs ao cap xs hr.out hf.out w1 (by omega) (hx.out.below hB1) (fun hne a e T h => by have := hA.out hne a e; omega) (fun k hk e => by exact e.elim (fun e => by omega) (fun e => absurd e.1 (by decide))) ((hB1.cell hBw).trans hBs.out))
    Stays.t (fun W l o o' h1 h2 h3 h4 => Stays.b _ W l o o' h1 h2 h3 h4) (Below.refl _ _) (fun _ => rfl)
    (fun pre W => (∃ v, Boxed W w.heap.size 25 v ∧ W.ownsRow w.heap.size 3 1 v pre.length (pre.map fun x : Fin 4096 => Value.int .i64 (x.val : Int)) ∧ True) ∧ Below w.heap.size w W)
    (fun _ _ _ => False)
    (OwnFrom.and (Own.from (holdsRow_own w.heap.size w.heap.size 25 3 1 (fun (pre : List (Fin 4096)) => pre.length) (fun (pre : List (Fin 4096)) => pre.map fun x : Fin 4096 => Value.int .i64 (x.val : Int)) (fun _ _ => True)) _) (ownFrom_below (by omega) (by omega)))
    (fun _ _ _ _ _ hs _ _ => hs)
    ⟨⟨_, hbox, World.ownsRow_nil _ _ _ _, trivial⟩, hB1⟩
    (fun x => { tmps := #[.slice none 0 0, .func (.func 36) #[] #[.pointer (some ⟨Bs, 0, none⟩)], .pointer (some ⟨w.heap.size, 0, none⟩), undef, .slice none 0 0, .int .i64 (x.val : Int), .func (.func 36) #[] #[.pointer (some ⟨Bs, 0, none⟩)], .int .i64 (x.val : Int), undef, undef, undef, undef, undef], defers := [] }) ?assign ?body ?done ?stop
  case assign =>
    intro l x W K hK
    gi_wp2
    exact hK
  case body =>
    rintro l pre x W ⟨⟨v, hv, hrow, _⟩, hB⟩ hlen
    have hvc := hv.cell
    have hsB := hB.size
    gi_wp2_with (gi_at_builtin; refine wpListIn_append_own _ rfl _ _ 25 rfl w.heap.size 3 i0 (.int .i64 0) 1 8 Try.underlying25 hi hz0 hz1 hz2 rfl (by decide) _ _ _ rfl (hrow.alloc _) ⟨W.heap.size, 0, none⟩ 1 1 [.int .i64 (x.val : Int)] rfl rfl (cell_one_new _ _ _) (by simp [Value.oneCell']) (by unfold maxLen; omega) (by omega) (by have := hB.size; simp; omega) ?_; intro v' w1 hown' hgrow _; obtain ⟨g', cap', rfl⟩ := ownsRow_succ hown'; obtain ⟨hv1, hv2, hr2, hk2, hb2⟩ := hv.appended (by decide) hrow hB.size (Nat.le_refl _) hown' hgrow; have hc1 := hv1.cell; have hf1 := hv1.frozen; have hst : Hid (Stays (fun k T => k = w.heap.size ∨ (T = 3 ∧ w.heap.size ≤ k)) W w1) := ?hst)
    case hst =>
      exact Lib.hid (stays_push hrow hgrow)
    exact ⟨hk2, hst.out.trans (Stays.setCell _ _ (fun _ => .inl rfl)), ⟨_, hv2, by simpa using hr2, trivial⟩, hB.trans hb2⟩
  case done =>
    rintro D ys W hD rfl ⟨⟨v, hv, hrow, _⟩, hB⟩ hK
    have hvc := hv.cell
    gi_wp2
    refine ⟨by simp, .inl ⟨_, _, rfl, run_takeDeferred hK, ?_⟩⟩
    exact ⟨_, results_tmp rfl _ _ _, _, rfl, (by have := ownsRow_putObj (l := D) hrow (.deferred none) hK rfl; unfold OwnI; rw [List.length_map, List.map_map]; exact this), hB.trans (belowK_b (w := w) (Nat.le_refl _) W D _ _ (by omega) hK rfl rfl)⟩
  case stop =>
    rintro D c pre W _ _ h _
    exact h.elim

theorem upTo_nums (f : Nat → Bool) : (upTo f 4096).map (fun x => (x.val : Int)) = numsL f 4096 := by
  unfold upTo numsL
  have h1 : (List.range 4096).filter f = ((List.finRange 4096).filter fun j => f j.val).map (fun j => j.val) := by
    have h0 : List.range 4096 = (List.finRange 4096).map fun j => j.val := by
      apply List.ext_getElem
      · simp
      · intro i h1 h2; simp
    rw [h0, List.filter_map]
    rfl
  rw [h1, List.map_map]
  have h2 : (List.finRange 4096).filter (fun j => decide (j.val < 4096) && f j.val) = (List.finRange 4096).filter fun j => f j.val := List.filter_congr fun j _ => by simp
  rw [h2]
  rfl

set_option maxHeartbeats 1000000 in
theorem Collect_any (ao : Option Addr) (cap Bs : Nat) (xs : List (Int × Int)) (w : World) (hx : Spans w ao xs) (hf : Fits xs) (hr : rightFrom 0 xs = true) (hBs : w.cell? ⟨Bs, 0, none⟩ = some (.slice ao xs.length cap)) :
    Calls Try.prog 31 #[.func (.func 36) #[] #[.pointer (some ⟨Bs, 0, none⟩)]] w fun e w' => ∃ v, e = .returned v ∧ OwnI w' w.heap.size v (numsL (maskS xs) 4096) ∧ Below w.heap.size w w' := by
  rw [← upTo_nums]
  have hA := Lib.hid hx.lt
  have hx := Lib.hid hx
  have hf := Lib.hid hf
  have hr := Lib.hid hr
  have hBs := Lib.hid hBs
  go_enter Try.func31, Try.ntmps31
  go_wp2_with (go_at_call 37; refine (AppendSeq_any ao cap Bs xs _ hx.out hf.out hr.out hBs.out).mono ?_; rintro e w' ⟨v, rfl, ho, hb'⟩)
  go_ret
  exact ⟨_, rfl, ho, hb'⟩

set_option maxHeartbeats 1000000 in
theorem List_any (ao : Option Addr) (cap : Nat) (xs : List (Int × Int)) (w : World) (hx : Spans w ao xs) (hf : Fits xs) (hr : rightFrom 0 xs = true) :
    Calls Try.prog 14 #[.slice ao xs.length cap] w fun e w' => ∃ v, e = .returned v ∧ OwnI w' w.heap.size v (numsL (maskS xs) 4096) ∧ Below w.heap.size w w' := by
  have hA := Lib.hid hx.lt
  have hx := Lib.hid hx
  have hf := Lib.hid hf
  have hr := Lib.hid hr
  have hB1 : Below w.heap.size w (w.alloc (.cells #[.slice ao xs.length cap] 27)) := (Below.refl _ _).alloc (Nat.le_refl _) _
  have hB1 := Lib.hid hB1
  go_enter Try.func14, Try.ntmps14
  go_wp2_with fail
  refine (callsIn_wide.1 (numbers_in 5 _ _ _ _)).mono ?_
  rintro e w' ⟨rfl, rfl⟩
  go_wp2_with fail
  refine (Collect_any ao cap w.heap.size xs _ (hx.out.below hB1.out) hf.out hr.out (by simp)).mono ?_
  rintro e w' ⟨v, rfl, ho, hb'⟩
  have hsz : w.heap.size ≤ (w.alloc (.cells #[.slice ao xs.length cap] 27)).heap.size := by simp
  have ho := Lib.hid (ho.le hsz)
  have hb' := Lib.hid (hb'.mono hsz)
  go_wp2
  go_ret
  exact ⟨_, rfl, ho.out, hB1.out.trans hb'.out⟩

/-- the marks of either of two, of the first alone, of both -/
theorem OwnS.lt {w : World} {base : Nat} {v : Value} {xs : List (Int × Int)} (h : OwnS w base v xs) : ∃ ao cap, v = .slice ao xs.length cap ∧ Spans w ao xs ∧ (∀ a, ao = some a → a.block < w.heap.size) := by
  obtain ⟨ao, cap, h1, h2, h3⟩ := h.shape
  exact ⟨ao, cap, h1, h2, fun a e => (h3 a e).2⟩

set_option maxHeartbeats 1000000 in
set_option maxRecDepth 20000 in
theorem Join_any (ao bo : Option Addr) (cap cap' : Nat) (xs ys : List (Int × Int)) (w : World) (hx : Spans w ao xs) (hf : Fits xs) (hr : rightFrom 0 xs = true)
    (hy : Spans w bo ys) (hf' : Fits ys) (hr' : rightFrom 0 ys = true) :
    Calls Try.prog 25 #[.slice ao xs.length cap, .slice bo ys.length cap'] w fun e w' => ∃ v, e = .returned v ∧ OwnS w' w.heap.size v (runs (fun j => maskS xs j || maskS ys j) 4096) ∧ Below w.heap.size w w' := by
  have hz := zero48
  have hB0 : Below w.heap.size w (w.alloc (.cells (bools fun _ => false) 48)) := (Below.refl _ _).alloc (Nat.le_refl _) _
  have hB0 := Lib.hid hB0
  have hA := Lib.hid hx.lt
  have hA' := Lib.hid hy.lt
  have hx := Lib.hid hx
  have hy := Lib.hid hy
  go_enter Try.func25, Try.ntmps25
  go_wp2_with fail
  refine (put_any w.heap.size 48 _ ao cap xs true _ (Marked.new _ _ _) (hx.out.below hB0.out) hf hr hA.out).mono ?_
  rintro e w1 ⟨rfl, hm1, hb1⟩
  go_wp2_with fail
  refine (put_any w.heap.size 48 _ bo cap' ys true _ hm1 (hy.out.below (hB0.out.trans hb1)) hf' hr' hA'.out).mono ?_
  rintro e w2 ⟨rfl, hm2, hb2⟩
  have hm3 := hm2.congr (g := fun j => maskS xs j || maskS ys j) (fun j _ => by cases maskS xs j <;> cases maskS ys j <;> rfl)
  have hb3 := Lib.hid (hB0.out.trans (hb1.trans hb2))
  have hm3 := Lib.hid hm3
  have hs3 := hb3.out.size
  clear hb1 hb2 hm1 hm2
  go_wp2_with fail
  refine (spans_any _ _ _ _ hm3.out).mono ?_
  rintro e w' ⟨v, rfl, ho, hb'⟩
  have ho := Lib.hid (ho.le hs3)
  have hb' := Lib.hid (hb'.mono hs3)
  go_wp2
  go_ret
  exact ⟨_, rfl, ho.out, hb3.out.trans hb'.out⟩

set_option maxHeartbeats 1000000 in
set_option maxRecDepth 20000 in
theorem Cut_any (ao bo : Option Addr) (cap cap' : Nat) (xs ys : List (Int × Int)) (w : World) (hx : Spans w ao xs) (hf : Fits xs) (hr : rightFrom 0 xs = true)
    (hy : Spans w bo ys) (hf' : Fits ys) (hr' : rightFrom 0 ys = true) :
    Calls Try.prog 26 #[.slice ao xs.length cap, .slice bo ys.length cap'] w fun e w' => ∃ v, e = .returned v ∧ OwnS w' w.heap.size v (runs (fun j => maskS xs j && !maskS ys j) 4096) ∧ Below w.heap.size w w' := by
  have hz := zero48
  have hB0 : Below w.heap.size w (w.alloc (.cells (bools fun _ => false) 48)) := (Below.refl _ _).alloc (Nat.le_refl _) _
  have hB0 := Lib.hid hB0
  have hA := Lib.hid hx.lt
  have hA' := Lib.hid hy.lt
  have hx := Lib.hid hx
  have hy := Lib.hid hy
  go_enter Try.func26, Try.ntmps26
  go_wp2_with fail
  refine (put_any w.heap.size 48 _ ao cap xs true _ (Marked.new _ _ _) (hx.out.below hB0.out) hf hr hA.out).mono ?_
  rintro e w1 ⟨rfl, hm1, hb1⟩
  go_wp2_with fail
  refine (put_any w.heap.size 48 _ bo cap' ys false _ hm1 (hy.out.below (hB0.out.trans hb1)) hf' hr' hA'.out).mono ?_
  rintro e w2 ⟨rfl, hm2, hb2⟩
  have hm3 := hm2.congr (g := fun j => maskS xs j && !maskS ys j) (fun j _ => by cases maskS xs j <;> cases maskS ys j <;> rfl)
  have hb3 := Lib.hid (hB0.out.trans (hb1.trans hb2))
  have hm3 := Lib.hid hm3
  have hs3 := hb3.out.size
  clear hb1 hb2 hm1 hm2
  go_wp2_with fail
  refine (spans_any _ _ _ _ hm3.out).mono ?_
  rintro e w' ⟨v, rfl, ho, hb'⟩
  have ho := Lib.hid (ho.le hs3)
  have hb' := Lib.hid (hb'.mono hs3)
  go_wp2
  go_ret
  exact ⟨_, rfl, ho.out, hb3.out.trans hb'.out⟩
end Go.Proofs.Ytnfcjdfjbabldaa
