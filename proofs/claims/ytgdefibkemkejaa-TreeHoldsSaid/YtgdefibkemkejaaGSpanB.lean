/- SpanB: the texts SpanP, SpanQ, SpanR, one behind the other. -/
import Derived.Test.YtgdefibkemkejaaGSpan
import Derived.Deep.SlicePairs
import Derived.SizedLaws
import Derived.Carry
/- Plain facts on sets as spans: a set is known by its numbers. -/
namespace Go.Proofs.Ytgdefibkemkejaa
open Go.ChangeShapes Go.WideShapes Go.ChangeAt Go.RowKit
set_option linter.unusedVariables false
set_option maxRecDepth 20000

/-- where the next span may begin -/
def endOf : Int → List (Int × Int) → Int
  | low, [] => low
  | _, (s, n) :: r => endOf (s + n + 1) r

theorem endOf_snoc (low : Int) (xs : List (Int × Int)) (s n : Int) : endOf low (xs ++ [(s, n)]) = s + n + 1 := by
  induction xs generalizing low with
  | nil => rfl
  | cons q r ih => obtain ⟨a, b⟩ := q; exact ih _

theorem right_snoc (low : Int) (xs : List (Int × Int)) (s n : Int) : rightFrom low (xs ++ [(s, n)]) = (rightFrom low xs && (withinB s n && decide (endOf low xs ≤ s))) := by
  induction xs generalizing low with
  | nil => simp [rightFrom, endOf]; rfl
  | cons q r ih =>
    obtain ⟨a, b⟩ := q
    simp only [List.cons_append, rightFrom, endOf, ih, Bool.and_assoc]; rfl

theorem hasL_append (xs ys : List (Int × Int)) (j : Int) : hasL (xs ++ ys) j = (hasL xs j || hasL ys j) := by simp [hasL]

theorem hasL_one (s n j : Int) : hasL [(s, n)] j = decide (s ≤ j ∧ j < s + n) := by simp [hasL]

/-- what the runs of marks are -/
theorem runs_inv (f : Nat → Bool) : ∀ k, k ≤ 4096 → rightFrom 0 (runs f k) = true ∧ (∀ j : Int, hasL (runs f k) j = true ↔ 0 ≤ j ∧ j < k ∧ f j.toNat = true) ∧ endOf 0 (runs f k) ≤ k + 1 ∧ ((k = 0 ∨ f (k - 1) = false) → endOf 0 (runs f k) ≤ k)
  | 0, _ => ⟨rfl, fun j => ⟨fun h => (by simp [runs, hasL] at h), fun h => by omega⟩, by simp [runs, endOf], fun _ => by simp [runs, endOf]⟩
  | k + 1, hk => by
    obtain ⟨i1, i2, i3, i4⟩ := runs_inv f k (by omega)
    cases hf : f k
    · have e : runs f (k + 1) = runs f k := by simp [runs, hf]
      rw [e]
      refine ⟨i1, fun j => ?_, by omega, fun _ => by omega⟩
      rw [i2]
      constructor
      · rintro ⟨h1, h2, h3⟩; exact ⟨h1, by omega, h3⟩
      · rintro ⟨h1, h2, h3⟩
        refine ⟨h1, ?_, h3⟩
        rcases Int.lt_or_eq_of_le (show j ≤ k from by omega) with h | h
        · exact h
        · subst h; simp at h3; rw [hf] at h3; cases h3
    · by_cases hp : k ≠ 0 ∧ f (k - 1) = true
      · obtain ⟨hk0, hp⟩ := hp
        obtain ⟨h1, h2, h3, h4⟩ := runs_last f k (by omega) hp
        obtain ⟨ys, s, n, e, el⟩ := last_split h1
        rw [el] at h2 h3 h4
        simp only at h2 h3 h4
        have e2 : runs f (k + 1) = ys ++ [(s, n + 1)] := by
          simp only [runs, hf, if_true]
          rw [if_pos ⟨hk0, hp⟩, e]
          simp [bump]
        rw [e] at i1 i2 i3
        rw [right_snoc] at i1
        simp only [Bool.and_eq_true, decide_eq_true_eq] at i1
        rw [e2]
        refine ⟨?_, fun j => ?_, by rw [endOf_snoc]; omega, fun h => ?_⟩
        · rw [right_snoc]
          simp only [Bool.and_eq_true, decide_eq_true_eq]
          exact ⟨i1.1, by simp [withinB]; omega, i1.2.2⟩
        · have := i2 j
          rw [hasL_append, hasL_one] at this ⊢
          simp only [Bool.or_eq_true, decide_eq_true_eq] at this ⊢
          constructor
          · rintro (h | h)
            · obtain ⟨a, b, c⟩ := this.1 (.inl h); exact ⟨a, by omega, c⟩
            · by_cases hj : j < s + n
              · obtain ⟨a, b, c⟩ := this.1 (.inr ⟨h.1, hj⟩); exact ⟨a, by omega, c⟩
              · have : j = k := by omega
                subst this
                exact ⟨by omega, by omega, by simpa using hf⟩
          · rintro ⟨a, b, c⟩
            by_cases hj : j < k
            · rcases this.2 ⟨a, hj, c⟩ with h | h
              · exact .inl h
              · exact .inr (by omega)
            · exact .inr (by omega)
        · rcases h with h | h
          · omega
          · simp [hf] at h
      · have e2 : runs f (k + 1) = runs f k ++ [((k : Int), 1)] := by simp only [runs, hf, if_true, if_neg hp]
        have h4 := i4 (by
          by_cases h0 : k = 0
          · exact .inl h0
          · right; cases h : f (k - 1)
            · rfl
            · exact absurd ⟨h0, h⟩ hp)
        rw [e2]
        refine ⟨?_, fun j => ?_, by rw [endOf_snoc]; omega, fun h => ?_⟩
        · rw [right_snoc]
          simp only [Bool.and_eq_true, decide_eq_true_eq]
          exact ⟨i1, by simp [withinB]; omega, h4⟩
        · rw [hasL_append, hasL_one]
          simp only [Bool.or_eq_true, decide_eq_true_eq]
          rw [i2]
          constructor
          · rintro (h | h)
            · exact ⟨h.1, by omega, h.2.2⟩
            · have : j = k := by omega
              subst this
              exact ⟨by omega, by omega, by simpa using hf⟩
          · rintro ⟨a, b, c⟩
            by_cases hj : j < k
            · exact .inl ⟨a, hj, c⟩
            · exact .inr (by omega)
        · rcases h with h | h
          · omega
          · simp [hf] at h

theorem runs_right (f : Nat → Bool) : rightFrom 0 (runs f 4096) = true := (runs_inv f 4096 (Nat.le_refl _)).1

theorem runs_mask (f : Nat → Bool) {j : Nat} (hj : j < 4096) : maskS (runs f 4096) j = f j := by
  rw [Bool.eq_iff_iff]
  unfold maskS
  rw [(runs_inv f 4096 (Nat.le_refl _)).2.1 (j : Int)]
  simp
  intro _; omega

theorem runs_fits (f : Nat → Bool) : Fits (runs f 4096) := by
  refine ⟨fun p hp => ?_, ?_⟩
  · have := right_good (runs_right f) p hp
    unfold I64; omega
  · have := runs_length f 4096; omega

theorem right_head {low s n : Int} {r : List (Int × Int)} (h : rightFrom low ((s, n) :: r) = true) : 0 ≤ s ∧ 1 ≤ n ∧ low ≤ s ∧ rightFrom (s + n + 1) r = true := by
  simp only [rightFrom, Bool.and_eq_true, decide_eq_true_eq] at h
  have := withinB_true h.1.1
  exact ⟨this.1, this.2.1, h.1.2, h.2⟩

theorem hasL_cons (s n : Int) (r : List (Int × Int)) (j : Int) : hasL ((s, n) :: r) j = (decide (s ≤ j ∧ j < s + n) || hasL r j) := by simp [hasL]

/-- a set is known by its numbers -/
theorem right_unique {low low' : Int} {xs ys : List (Int × Int)} (hx : rightFrom low xs = true) (hy : rightFrom low' ys = true) (h : ∀ j, hasL xs j = hasL ys j) : xs = ys := by
  induction xs generalizing low low' ys with
  | nil =>
    cases ys with
    | nil => rfl
    | cons q r =>
      obtain ⟨s, n⟩ := q
      have hh := right_head hy
      have := h s
      rw [hasL_cons] at this
      have e : decide (s ≤ s ∧ s < s + n) = true := by simp; omega
      rw [e] at this
      simp [hasL] at this
  | cons p r ih =>
    obtain ⟨s, n⟩ := p
    obtain ⟨a1, a2, a3, a4⟩ := right_head hx
    cases ys with
    | nil =>
      have := h s
      rw [hasL_cons] at this
      have e : decide (s ≤ s ∧ s < s + n) = true := by simp; omega
      rw [e] at this
      simp [hasL] at this
    | cons q r' =>
      obtain ⟨s', n'⟩ := q
      obtain ⟨b1, b2, b3, b4⟩ := right_head hy
      have low1 : ∀ j, j < s + n + 1 → hasL r j = false := fun j hj => right_low a4 hj
      have low2 : ∀ j, j < s' + n' + 1 → hasL r' j = false := fun j hj => right_low b4 hj
      have hss : s = s' := by
        rcases Int.lt_trichotomy s s' with c | c | c
        · have := h s
          rw [hasL_cons, hasL_cons, low2 s (by omega)] at this
          have e : decide (s ≤ s ∧ s < s + n) = true := by simp; omega
          have e' : decide (s' ≤ s ∧ s < s' + n') = false := by simp; omega
          rw [e, e'] at this; simp at this
        · exact c
        · have := h s'
          rw [hasL_cons, hasL_cons, low1 s' (by omega)] at this
          have e : decide (s ≤ s' ∧ s' < s + n) = false := by simp; omega
          have e' : decide (s' ≤ s' ∧ s' < s' + n') = true := by simp; omega
          rw [e, e'] at this; simp at this
      subst hss
      have hnn : n = n' := by
        rcases Int.lt_trichotomy n n' with c | c | c
        · have := h (s + n)
          rw [hasL_cons, hasL_cons, low1 (s + n) (by omega)] at this
          have e : decide (s ≤ s + n ∧ s + n < s + n) = false := by simp
          have e' : decide (s ≤ s + n ∧ s + n < s + n') = true := by simp; omega
          rw [e, e'] at this; simp at this
        · exact c
        · have := h (s + n')
          rw [hasL_cons, hasL_cons, low2 (s + n') (by omega)] at this
          have e : decide (s ≤ s + n' ∧ s + n' < s + n) = true := by simp; omega
          have e' : decide (s ≤ s + n' ∧ s + n' < s + n') = false := by simp
          rw [e, e'] at this; simp at this
      subst hnn
      have hr : r = r' := by
        refine ih a4 b4 fun j => ?_
        by_cases hj : j < s + n + 1
        · rw [low1 j hj, low2 j hj]
        · have := h j
          rw [hasL_cons, hasL_cons] at this
          have e : decide (s ≤ j ∧ j < s + n) = false := by simp; omega
          rw [e] at this
          simpa using this
      rw [hr]

theorem hasL_range {xs : List (Int × Int)} (hg : Good xs) {j : Int} (h : hasL xs j = true) : 0 ≤ j ∧ j < 4096 := by
  simp only [hasL, List.any_eq_true] at h
  obtain ⟨p, hp, hpq⟩ := h
  have := hg p hp
  simp at hpq
  omega

theorem right_of_masks {xs ys : List (Int × Int)} (hx : rightFrom 0 xs = true) (hy : rightFrom 0 ys = true) (h : ∀ j, j < 4096 → maskS xs j = maskS ys j) : xs = ys := by
  refine right_unique hx hy fun j => ?_
  by_cases hj : 0 ≤ j ∧ j < 4096
  · obtain ⟨m, rfl⟩ := Int.eq_ofNat_of_zero_le hj.1
    exact h m (by omega)
  · have h1 : hasL xs j = false := by
      cases e : hasL xs j
      · rfl
      · exact absurd (hasL_range (right_good hx) e) hj
    have h2 : hasL ys j = false := by
      cases e : hasL ys j
      · rfl
      · exact absurd (hasL_range (right_good hy) e) hj
    rw [h1, h2]

theorem runs_of_right {xs : List (Int × Int)} (hx : rightFrom 0 xs = true) : runs (maskS xs) 4096 = xs :=
  right_of_masks (runs_right _) hx fun j hj => runs_mask _ hj

theorem right_fits {xs : List (Int × Int)} (hx : rightFrom 0 xs = true) : Fits xs := by
  rw [← runs_of_right hx]; exact runs_fits _

theorem right_length {xs : List (Int × Int)} (hx : rightFrom 0 xs = true) : xs.length ≤ 4096 := by
  rw [← runs_of_right hx]; exact runs_length _ _

theorem runs_eq {f g : Nat → Bool} (h : ∀ j, j < 4096 → f j = g j) : runs f 4096 = runs g 4096 := runs_congr h

theorem numsL_map (f : Nat → Bool) (k : Nat) (hk : k ≤ 4096) : FitsI (numsL f k) := by
  refine ⟨fun z hz => ?_, by have := numsL_length f k; omega⟩
  unfold numsL at hz
  simp only [List.mem_map, List.mem_filter, List.mem_range] at hz
  obtain ⟨i, ⟨hi, _⟩, rfl⟩ := hz
  unfold I64
  simp only [Int.ofNat_eq_natCast]
  omega

end Go.Proofs.Ytgdefibkemkejaa

/- span.Both answers for any sets; the chapter's example holds. -/
namespace Go.Proofs.Ytgdefibkemkejaa
open Go.ChangeShapes Go.WideShapes Go.ChangeAt Go.RowKit
set_option linter.unusedVariables false
set_option maxRecDepth 20000

def exNums : List Int := [5, 3, 4, 9]
def exSpans : List (Int × Int) := [(3, 3), (9, 1)]

theorem ex_runs : runs (maskOf exNums) 4096 = exSpans := by
  refine right_of_masks (runs_right _) (by decide) fun j hj => ?_
  rw [runs_mask _ hj]
  rw [Bool.eq_iff_iff]
  simp [maskOf, exNums, maskS, hasL, exSpans]
  omega

theorem ex_first : firstL exSpans 2 = some (3, 2) := by decide

theorem ex_nums (w : World) : Nums (w.alloc (.cells #[.int .i64 5, .int .i64 3, .int .i64 4, .int .i64 9] 3)) (some ⟨w.heap.size, 0, none⟩) exNums := by
  intro i hi
  refine ⟨w.heap.size, 0, rfl, ?_⟩
  match i, hi with
  | 0, _ => simp [exNums]
  | 1, _ => simp [exNums]
  | 2, _ => simp [exNums]
  | 3, _ => simp [exNums]

theorem ex_spans (w : World) : Spans (w.alloc (.cells #[.int .i64 3, .int .i64 3, .int .i64 9, .int .i64 1] 87)) (some ⟨w.heap.size, 0, none⟩) exSpans := by
  intro i hi
  refine ⟨w.heap.size, 0, rfl, ?_, ?_⟩
  all_goals
    match i, hi with
    | 0, _ => simp [exSpans]
    | 1, _ => simp [exSpans]

theorem ex_fits : FitsI exNums := ⟨by intro z hz; simp [exNums] at hz; unfold I64; omega, by simp [exNums]⟩
theorem ex_fitsS : Fits exSpans := ⟨by intro z hz; simp [exSpans] at hz; unfold I64; rcases hz with rfl | rfl <;> simp, by simp [exSpans]⟩

end Go.Proofs.Ytgdefibkemkejaa

/- How arguments read; sets that calls answer; copies of spans. -/
namespace Go.Proofs.Ytgdefibkemkejaa
open Go.ChangeShapes Go.WideShapes Go.ChangeAt Go.RowKit Go.Deep
set_option linter.unusedVariables false
set_option maxRecDepth 20000

theorem sWf_i64 {z : Int} (h : (Lit.int .i64 z).wf = true) : I64 z := by
  simpa [Lit.wf, IntKind.min, IntKind.max, IntKind.signed, IntKind.bits, I64] using h

theorem STwo.below {w w' : World} {B T : Nat} {p q : Int} (h : STwo w B T p q) (hb : Below w.heap.size w w') : STwo w' B T p q := by
  unfold STwo at *
  rw [hb.block B (Array.getElem?_eq_some_iff.1 h).1, h]

theorem STwo.lt {w : World} {B T : Nat} {p q : Int} (h : STwo w B T p q) : B < w.heap.size := (Array.getElem?_eq_some_iff.1 h).1

theorem OwnI.nums {w : World} {base : Nat} {v : Value} {zs : List Int} (h : OwnI w base v zs) : ∃ ao cap, v = .slice ao zs.length cap ∧ Nums w ao zs := by
  obtain ⟨ao, cap, h1, h2, _⟩ := h.shape
  exact ⟨ao, cap, h1, h2⟩

theorem OwnS.spans {w : World} {base : Nat} {v : Value} {xs : List (Int × Int)} (h : OwnS w base v xs) : ∃ ao cap, v = .slice ao xs.length cap ∧ Spans w ao xs := by
  obtain ⟨ao, cap, h1, h2, _⟩ := h.shape
  exact ⟨ao, cap, h1, h2⟩

/-- the set of what f says -/
def IsSet (L : List (Int × Int)) (f : Nat → Bool) : Prop := rightFrom 0 L = true ∧ ∀ j, j < 4096 → maskS L j = f j

theorem IsSet.runs (f : Nat → Bool) : IsSet (Go.Proofs.Ytgdefibkemkejaa.runs f 4096) f := ⟨runs_right f, fun j hj => runs_mask f hj⟩

theorem IsSet.eq {L M : List (Int × Int)} {f g : Nat → Bool} (h : IsSet L f) (k : IsSet M g) (e : ∀ j, j < 4096 → f j = g j) : L = M :=
  right_of_masks h.1 k.1 fun j hj => by rw [h.2 j hj, k.2 j hj, e j hj]

theorem IsSet.fits {L : List (Int × Int)} {f : Nat → Bool} (h : IsSet L f) : Fits L := right_fits h.1

/-- 'append([]api.Span{}, xs...)' -/
theorem copy_spans {ops : Array Oper} {rest : List Oper} {o : Oper} {a : Act} {Q : Exit → Act → World → Prop} (hgd : o.guard = none) (s x : Operand)
    (ho : o.op = .call { callee := .builtin .append, args := #[s, x], argTypes := #[55, 55] }) (w0 : World) (hs : a.eval s = .slice (some ⟨w0.heap.size, 0, none⟩) 0 0)
    (ao : Option Addr) (cap : Nat) (xs : List (Int × Int)) (hx : a.eval x = .slice ao xs.length cap) (hn : ao = none → xs = [] ∧ cap = 0) (hsp : Spans w0 ao xs) (hf : Fits xs)
    (h : ∀ co cc w', Spans w' co xs → Below w0.heap.size w0 w' → wpList Try.prog ops Q rest (a.put o.dst (.slice co xs.length cc)) w') :
    wpList Try.prog ops Q (o :: rest) a (w0.alloc (.cells #[] 87)) := by
  obtain ⟨i0, hi, hz0, hz1, hz2⟩ := info_parts infoSpan
  have hb0 : Below w0.heap.size w0 (w0.alloc (.cells #[] 87)) := (Below.refl w0.heap.size w0).alloc (Nat.le_refl _) _
  refine wpList_append_src hgd s x 55 ho w0.heap.size 87 i0 _ 2 16 Try.underlying55 hi hz0 hz1 hz2 rfl (by decide) _ 0 [] _ hs (World.ownsRow_made w0 #[] 0 (Nat.le_refl _) (by decide) rfl)
    ao xs.length cap (flat xs) hx (fun h => by have := hn h; simp [this]) (flat_length xs) ?_ ?_ (by have := hf.2; omega) (by have := hf.2; omega) (by simp) ?_
  · intro ad e j u hu
    have hj : j < xs.length * 2 := by
      by_cases hj : j < xs.length * 2
      · exact hj
      · rw [List.getElem?_eq_none (by rw [flat_length]; omega)] at hu; cases hu
    obtain ⟨i, hij⟩ : ∃ i, j = i * 2 ∨ j = i * 2 + 1 := ⟨j / 2, by omega⟩
    obtain ⟨b, off, e', c1, c2⟩ := (hsp.below hb0) i (by omega)
    rw [e] at e'; cases e'
    rw [Go.WideShapes.add_plain]
    rcases hij with rfl | rfl
    · rw [flat_get1 xs i (by omega)] at hu
      cases hu
      exact c1
    · rw [flat_get2 xs i (by omega)] at hu
      cases hu
      rw [← Nat.add_assoc]
      exact c2
  · intro u hu
    simp only [flat, List.mem_flatMap] at hu
    obtain ⟨p, _, hp⟩ := hu
    simp at hp
    rcases hp with rfl | rfl <;> rfl
  · intro v' w' ho1 hg1
    have ho1 : OwnS w' w0.heap.size v' xs := by simpa [OwnS] using ho1
    obtain ⟨co, cc, rfl, hs1⟩ := ho1.spans
    exact h co cc w' hs1 (hb0.grown hg1 (by simp) (fun k e => by simp [Value.ownBlock] at e; omega))

section
variable {H : Type} {enc : TypeId × Value → H} {W : World} {base : Nat} {v : Value} {d : DataW H} {p : List MemPlace}

theorem arg_spans (h : DataW.Trod enc Try.prog W 0 (fun _ => true) true 55 v d p)
    (hv : Value.okWide Try.prog W .any base 55 v)
    (hw : ∀ es sp, d = .slice es sp → (es.length + sp.length) * Try.prog.bytesOf 87 ≤ reachBytes) : ∃ ao xs cap, v = .slice ao xs.length cap ∧ Spans W ao xs ∧ Fits xs ∧ (ao = none → xs = [] ∧ cap = 0) := by
  obtain ⟨a, len, cap, rfl⟩ := okWide_slice Try.underlying55 hv
  obtain ⟨fuel, hf⟩ := h
  rcases open_slice_pairs Try.underlying55 Try.underlying87 (by kernel_rfl) rfl rfl (by kernel_rfl) (by kernel_rfl) hf with ⟨hcs, _⟩ | ⟨a', len', cap', m, n, V0, V1, D0, D1, P0, P1, hcs, _, hl, hm, hmm, hx, hc⟩
  · simp [Value.cells] at hcs
    obtain ⟨rfl, rfl, rfl⟩ := hcs
    exact ⟨none, [], 0, rfl, fun i hi => by simp at hi, ⟨fun q hq => (by cases hq), by simp⟩, fun _ => ⟨rfl, rfl⟩⟩
  · simp [Value.cells] at hcs
    obtain ⟨rfl, rfl, rfl⟩ := hcs
    have hlm : len ≤ m := by rw [hmm]; split <;> omega
    simp only [Prod.mk.injEq] at hx
    have hwt := hw _ _ hx.1
    simp only [List.length_map, List.length_range] at hwt
    have hb16 : Try.prog.bytesOf 87 = 16 := by kernel_rfl
    rw [hb16] at hwt
    unfold reachBytes at hwt
    have each : ∀ i, i < len → ∃ q : Int × Int, V0 i = .int .i64 q.1 ∧ V1 i = .int .i64 q.2 ∧ I64 q.1 ∧ I64 q.2 := by
      intro i hi
      obtain ⟨_, _, h0, h1⟩ := hc i (by omega)
      obtain ⟨z0, e0, _, w0⟩ := DataW.trod_int Try.underlying3 h0
      obtain ⟨z1, e1, _, w1⟩ := DataW.trod_int Try.underlying3 h1
      simp at e0 e1
      exact ⟨(z0, z1), e0, e1, sWf_i64 w0, sWf_i64 w1⟩
    obtain ⟨q, hq⟩ := choose_lt each
    refine ⟨some a', (List.range len).map q, cap, by simp, ?_, ?_, fun h => by cases h⟩
    · intro i hi
      have hi' : i < len := by simpa using hi
      obtain ⟨c0, c1, _, _⟩ := hc i (by omega)
      obtain ⟨b, off, spot⟩ := a'
      have hspot : spot = none := by
        obtain ⟨c00, _, _, _⟩ := hc 0 (by omega)
        simpa [Addr.add] using World.cell?_spot c00
      subst hspot
      rw [Go.WideShapes.add_plain] at c0 c1
      refine ⟨b, off, rfl, ?_, ?_⟩
      · rw [c0, (hq i hi').1]; simp
      · rw [show off + i * 2 + 1 = off + (i * 2 + 1) from by omega, c1, (hq i hi').2.1]; simp
    · refine ⟨fun z hz => ?_, by simp; omega⟩
      simp only [List.mem_map, List.mem_range] at hz
      obtain ⟨i, hi, rfl⟩ := hz
      exact (hq i hi).2.2

theorem sArg_ints (h : DataW.Trod enc Try.prog W 0 (fun _ => true) true 46 v d p)
    (hv : Value.okWide Try.prog W .any base 46 v)
    (hw : ∀ es sp, d = .slice es sp → (es.length + sp.length) * Try.prog.bytesOf 3 ≤ reachBytes) : ∃ ao zs cap, v = .slice ao zs.length cap ∧ Nums W ao zs ∧ FitsI zs ∧ (ao = none → zs = [] ∧ cap = 0) := by
  obtain ⟨a, len, cap, rfl⟩ := okWide_slice Try.underlying46 hv
  obtain ⟨fuel, hf⟩ := h
  rcases open_ints Try.underlying46 Try.underlying3 (by kernel_rfl) hf with ⟨hcs, _⟩ | ⟨x, l, c, zs, hcs, _, hl, hm, hz, hx, hcell, hwz⟩
  · simp [Value.cells] at hcs
    obtain ⟨rfl, rfl, rfl⟩ := hcs
    exact ⟨none, [], 0, rfl, fun i hi => by simp at hi, ⟨fun q hq => (by cases hq), by simp⟩, fun _ => ⟨rfl, rfl⟩⟩
  · simp [Value.cells] at hcs
    obtain ⟨rfl, rfl, rfl⟩ := hcs
    have hlz : len ≤ zs.length := by rw [hz]; split <;> omega
    simp only [Prod.mk.injEq] at hx
    have hwt := hw _ _ hx.1
    simp only [lits, List.length_map, List.length_take, List.length_drop] at hwt
    have hb8 : Try.prog.bytesOf 3 = 8 := by kernel_rfl
    rw [hb8] at hwt
    unfold reachBytes at hwt
    refine ⟨some x, zs.take len, cap, by simp; omega, ?_, ?_, fun h => by cases h⟩
    · intro i hi
      have hi' : i < len := by simp at hi; omega
      have hp : 0 < zs.length := by omega
      obtain ⟨b, off, rfl, hc⟩ := ints_at hcell hp
      refine ⟨b, off, rfl, ?_⟩
      rw [hc i (by omega)]
      simp only [List.getElem_take]
      rw [List.getD_eq_getElem?_getD, List.getElem?_eq_getElem (by omega)]
      rfl
    · refine ⟨fun z hz' => sWf_i64 (hwz z (List.mem_of_mem_take hz')), by simp; omega⟩
end
end Go.Proofs.Ytgdefibkemkejaa
