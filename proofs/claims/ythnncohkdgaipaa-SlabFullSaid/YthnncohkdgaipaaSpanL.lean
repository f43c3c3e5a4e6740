/- The iterator over a set's numbers yields them rising, for every set and every loop body that keeps its memory. -/
import Derived.Test.YthnncohkdgaipaaSpanK
import Derived.RangeFuncNested
import Derived.RangeFuncBound
import Derived.RangeFuncCalls
import Derived.RangeFuncLeaves
import Derived.RangeFuncWrites
import Derived.Shelf.Abstract
import Derived.Shelf.RegionOpen
import Derived.OwnWalkIn
import Derived.TacticsInMore
import Derived.LoopNIn
import Derived.LoopIn
namespace Go.Proofs.Ythnncohkdgaipaa
open Go.ChangeShapes Go.WideShapes Go.ChangeAt Go.RowKit Go.Shelf
attribute [local go_sem] Oper.semAt_some
set_option linter.unusedVariables false
set_option maxRecDepth 20000

/-- cells of the blocks and types that A does not name lie as they lay -/
structure Stays (A : Nat → TypeId → Prop) (W W' : World) : Prop where
  size : W.heap.size ≤ W'.heap.size
  same : ∀ k cs T fr, ¬ A k T → W.heap[k]? = some (.cells cs T fr) → W'.heap[k]? = some (.cells cs T fr)

theorem Stays.refl (A : Nat → TypeId → Prop) (W : World) : Stays A W W := ⟨Nat.le_refl _, fun _ _ _ _ _ h => h⟩
theorem Stays.trans {A : Nat → TypeId → Prop} {X Y Z : World} (h : Stays A X Y) (k : Stays A Y Z) : Stays A X Z := ⟨Nat.le_trans h.size k.size, fun i cs T fr hi e => k.same i cs T fr hi (h.same i cs T fr hi e)⟩
theorem Stays.grown {A : Nat → TypeId → Prop} {W W' : World} {row : Option Nat} (hg : W.grownBy W' row) (hr : ∀ k cs T fr, row = some k → W.heap[k]? = some (.cells cs T fr) → A k T) : Stays A W W' :=
  ⟨hg.size, fun k cs T fr hk e => by rw [hg.block k (Array.getElem?_eq_some_iff.1 e).1 (fun e' => hk (hr k cs T fr e'.symm e)), e]⟩
theorem Stays.alloc (A : Nat → TypeId → Prop) (W : World) (o : Obj) : Stays A W (W.alloc o) := ⟨by simp, fun k cs T fr _ e => by
  rw [Below.heap_alloc W o k (Array.getElem?_eq_some_iff.1 e).1, e]⟩
theorem Stays.setCell {A : Nat → TypeId → Prop} (W : World) {a : Addr} (v : Value) (h : ∀ T, A a.block T) : Stays A W (W.setCell a v) := ⟨by simp, fun k cs T fr hk e => by
  rw [heap_setCell_other W a k v (fun e => hk (e ▸ h T)), e]⟩
theorem Stays.drew (A : Nat → TypeId → Prop) (W : World) : Stays A W W.drew := ⟨Nat.le_refl _, fun _ _ _ _ _ h => h⟩
theorem Stays.cell {A : Nat → TypeId → Prop} {W W' : World} (h : Stays A W W') {a : Addr} {v : Value} (ha : ∀ T, ¬ A a.block T) (hc : W.cell? a = some v) : W'.cell? a = some v := by
  unfold World.cell? at hc ⊢
  cases e : W.heap[a.block]? with
  | none => rw [e] at hc; simp at hc
  | some o =>
    cases o with
    | cells cs T fr => rw [h.same _ _ _ _ (ha T) e]; rw [e] at hc; exact hc
    | _ => rw [e] at hc; simp at hc
theorem Stays.t {A : Nat → TypeId → Prop} {X Y Z : World} (h : Stays A X Y) (k : Stays A Y Z) : Stays A X Z := h.trans k
theorem Stays.b {A : Nat → TypeId → Prop} (n : Nat) (W : World) (l : Nat) (o o' : Obj) (_ : n ≤ l) (h : W.heap[l]? = some o) (ho : o.isCells = false) (_ : o.isWalk = false) : Stays A W (W.putObj l o') :=
  ⟨by simp, fun k cs T fr _ e => by
    rw [World.putObj_heap_other (fun (e' : k = l) => by subst e'; rw [h] at e; cases e; cases ho)]; exact e⟩

/-- the block of a pair of numbers of the call's own -/
def STwo (W : World) (B T : Nat) (p q : Int) : Prop := W.heap[B]? = some (.cells #[.int .i64 p, .int .i64 q] T (0, 0))
theorem STwo.stays {A : Nat → TypeId → Prop} {W W' : World} {B T : Nat} {p q : Int} (h : STwo W B T p q) (hs : Stays A W W') (hA : ¬ A B T) : STwo W' B T p q := hs.same _ _ _ _ hA h
theorem STwo.c0 {W : World} {B T : Nat} {p q : Int} (h : STwo W B T p q) : W.cell? ⟨B, 0, none⟩ = some (.int .i64 p) := by rw [cell_of_row W B 0 _ _ _ h]; rfl
theorem STwo.c1 {W : World} {B T : Nat} {p q : Int} (h : STwo W B T p q) : W.cell? ⟨B, 1, none⟩ = some (.int .i64 q) := by rw [cell_of_row W B 1 _ _ _ h]; rfl
theorem STwo.new (W : World) (T : Nat) (p q : Int) : STwo (W.alloc (.cells #[.int .i64 p, .int .i64 q] T)) W.heap.size T p q := heap_alloc_new W _
theorem STwo.alloc {W : World} {B T : Nat} {p q : Int} (h : STwo W B T p q) (o : Obj) : STwo (W.alloc o) B T p q := by
  unfold STwo at *
  rw [Below.heap_alloc W o B (Array.getElem?_eq_some_iff.1 h).1, h]

theorem Spans.stays {A : Nat → TypeId → Prop} {w w' : World} {ao : Option Addr} {xs : List (Int × Int)} (h : Spans w ao xs) (hs : Stays A w w') (hA : xs ≠ [] → ∀ a, ao = some a → ∀ T, ¬ A a.block T) : Spans w' ao xs := by
  intro i hi
  have hne : xs ≠ [] := by rintro rfl; simp at hi
  obtain ⟨b, off, e, c1, c2⟩ := h i hi
  exact ⟨b, off, e, hs.cell (by have := hA hne _ e; exact this) c1, hs.cell (by have := hA hne _ e; exact this) c2⟩

theorem Spans.lt {w : World} {ao : Option Addr} {xs : List (Int × Int)} (h : Spans w ao xs) : xs ≠ [] → ∀ a, ao = some a → a.block < w.heap.size := by
  intro hne a e
  have hl : 0 < xs.length := by
    rcases Nat.eq_zero_or_pos xs.length with h | h
    · exact absurd (List.eq_nil_of_length_eq_zero h) hne
    · exact h
  obtain ⟨b, off, e', c1, _⟩ := h 0 hl
  rw [e] at e'; cases e'
  exact cell_lt c1

/-- the members below m, rising -/
def upTo (f : Nat → Bool) (m : Nat) : List (Fin 4096) := (List.finRange 4096).filter fun j => decide (j.val < m) && f j.val

theorem filter_rise {n : Nat} (p q : Fin n → Bool) (m : Nat) (hm : m < n) (h : ∀ j : Fin n, q j = (p j || decide (j.val = m))) (hp : ∀ j : Fin n, p j = true → j.val < m) : (List.finRange n).filter q = (List.finRange n).filter p ++ [⟨m, hm⟩] := by
  have key : ∀ l : List (Fin n), l.Pairwise (fun a b => a.val < b.val) → (⟨m, hm⟩ : Fin n) ∈ l → l.filter q = l.filter p ++ [⟨m, hm⟩] := by
    intro l
    induction l with
    | nil => intro _ h; cases h
    | cons a r ih =>
      intro hpw hmem
      obtain ⟨h1, h2⟩ := List.pairwise_cons.1 hpw
      by_cases e : a.val = m
      · have ea : a = ⟨m, hm⟩ := Fin.ext e
        have hr1 : r.filter p = [] := by
          rw [List.filter_eq_nil_iff]
          intro x hx hpx
          have := h1 x hx
          have := hp x hpx
          omega
        have hr2 : r.filter q = [] := by
          rw [List.filter_eq_nil_iff]
          intro x hx hqx
          rw [h x] at hqx
          have := h1 x hx
          simp at hqx
          rcases hqx with hqx | hqx
          · have := hp x hqx; omega
          · omega
        have hpa : p a = false := by
          cases hpa : p a
          · rfl
          · have := hp a hpa; omega
        have hqa : q a = true := by rw [h a]; simp [e]
        rw [List.filter_cons, List.filter_cons, hr1, hr2, hpa, hqa, ea]
        simp
      · have hmem' : (⟨m, hm⟩ : Fin n) ∈ r := by
          rcases List.mem_cons.1 hmem with h | h
          · exact absurd (congrArg Fin.val h).symm e
          · exact h
        have hqa : q a = p a := by rw [h a]; simp [e]
        rw [List.filter_cons, List.filter_cons, ih h2 hmem', hqa]
        cases p a <;> simp
  refine key _ ?_ (List.mem_finRange _)
  rw [List.pairwise_iff_getElem]
  intro i j hi hj hij
  simp
  exact hij

theorem upTo_in {f : Nat → Bool} {m : Nat} (hm : m < 4096) (hf : f m = true) : upTo f (m + 1) = upTo f m ++ [⟨m, hm⟩] := by
  refine filter_rise _ _ m hm (fun j => ?_) (fun j hj => by simp at hj; exact hj.1)
  by_cases e : j.val = m
  · simp [e, hf]
  · have : decide (j.val < m + 1) = decide (j.val < m) := by congr 1; apply propext; omega
    simp [e, this]

theorem upTo_gap {f : Nat → Bool} {a b : Nat} (hab : a ≤ b) (h : ∀ j, a ≤ j → j < b → f j = false) : upTo f a = upTo f b := by
  unfold upTo
  apply List.filter_congr
  intro j _
  by_cases h1 : j.val < a
  · have h2 : j.val < b := by omega
    simp [h1, h2]
  · by_cases h2 : j.val < b
    · simp [h1, h2, h j.val (by omega) h2]
    · simp [h1, h2]

theorem upTo_zero (f : Nat → Bool) : upTo f 0 = [] := by simp [upTo]

theorem upTo_length (f : Nat → Bool) : ∀ m, (upTo f m).length ≤ m
  | 0 => by simp [upTo_zero]
  | m + 1 => by
    by_cases hm : m < 4096
    · cases hf : f m
      · rw [← upTo_gap (a := m) (b := m + 1) (by omega) (fun j h1 h2 => by rw [show j = m from by omega]; exact hf)]
        have := upTo_length f m
        omega
      · rw [upTo_in hm hf]
        have := upTo_length f m
        simp; omega
    · have : (upTo f (m + 1)).length ≤ (List.finRange 4096).length := List.length_filter_le _ _
      simp at this; omega

theorem right_low {low : Int} {xs : List (Int × Int)} (h : rightFrom low xs = true) {j : Int} (hj : j < low) : hasL xs j = false := by
  induction xs generalizing low with
  | nil => rfl
  | cons q r ih =>
    obtain ⟨s, n⟩ := q
    simp only [rightFrom, Bool.and_eq_true, decide_eq_true_eq] at h
    obtain ⟨⟨h1, h2⟩, h3⟩ := h
    obtain ⟨g0, g1, g2⟩ := withinB_true h1
    have := ih h3 (by omega)
    simp only [hasL, List.any_cons] at this ⊢
    rw [this]
    simp; omega

end Go.Proofs.Ythnncohkdgaipaa
