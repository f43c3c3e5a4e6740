/- The iterator over a set's numbers yields them rising, for every set and every loop body that keeps its memory. -/
import Derived.Test.YtlbglcmajbhflaaSpanK
import Derived.RangeFuncNested
import Derived.RangeFuncBound
import Derived.RangeFuncCalls
import Derived.RangeFuncLeaves
import Derived.RangeFuncWrites
import Derived.Shelf.Abstract
import Derived.Shelf.RegionOpen
import Derived.OwnWalkIn
import Derived.TacticsInMore
import Derived.LoopNIn
import Derived.LoopIn
namespace Go.Proofs.Ytlbglcmajbhflaa
open Go.ChangeShapes Go.WideShapes Go.ChangeAt Go.RowKit Go.Shelf
attribute [local go_sem] Oper.semAt_some
set_option linter.unusedVariables false
set_option maxRecDepth 20000

/-- cells of the blocks and types that A does not name lie as they lay -/
structure Stays (A : Nat → TypeId → Prop) (W W' : World) : Prop where
  size : W.heap.size ≤ W'.heap.size
  same : ∀ k cs T fr, ¬ A k T → W.heap[k]? = some (.cells cs T fr) → W'.heap[k]? = some (.cells cs T fr)

theorem Stays.refl (A : Nat → TypeId → Prop) (W : World) : Stays A W W := ⟨Nat.le_refl _, fun _ _ _ _ _ h => h⟩
theorem Stays.trans {A : Nat → TypeId → Prop} {X Y Z : World} (h : Stays A X Y) (k : Stays A Y Z) : Stays A X Z := ⟨Nat.le_trans h.size k.size, fun i cs T fr hi e => k.same i cs T fr hi (h.same i cs T fr hi e)⟩
theorem Stays.grown {A : Nat → TypeId → Prop} {W W' : World} {row : Option Nat} (hg : W.grownBy W' row) (hr : ∀ k cs T fr, row = some k → W.heap[k]? = some (.cells cs T fr) → A k T) : Stays A W W' :=
  ⟨hg.size, fun k cs T fr hk e => by rw [hg.block k (Array.getElem?_eq_some_iff.1 e).1 (fun e' => hk (hr k cs T fr e'.symm e)), e]⟩
theorem Stays.alloc (A : Nat → TypeId → Prop) (W : World) (o : Obj) : Stays A W (W.alloc o) := ⟨by simp, fun k cs T fr _ e => by
  rw [Below.heap_alloc W o k (Array.getElem?_eq_some_iff.1 e).1, e]⟩
theorem Stays.setCell {A : Nat → TypeId → Prop} (W : World) {a : Addr} (v : Value) (h : ∀ T, A a.block T) : Stays A W (W.setCell a v) := ⟨by simp, fun k cs T fr hk e => by
  rw [heap_setCell_other W a k v (fun e => hk (e ▸ h T)), e]⟩
theorem Stays.drew (A : Nat → TypeId → Prop) (W : World) : Stays A W W.drew := ⟨Nat.le_refl _, fun _ _ _ _ _ h => h⟩
theorem Stays.cell {A : Nat → TypeId → Prop} {W W' : World} (h : Stays A W W') {a : Addr} {v : Value} (ha : ∀ T, ¬ A a.block T) (hc : W.cell? a = some v) : W'.cell? a = some v := by
  unfold World.cell? at hc ⊢
  cases e : W.heap[a.block]? with
  | none => rw [e] at hc; simp at hc
  | some o =>
    cases o with
    | cells cs T fr => rw [h.same _ _ _ _ (ha T) e]; rw [e] at hc; exact hc
    | _ => rw [e] at hc; simp at hc
theorem Stays.t {A : Nat → TypeId → Prop} {X Y Z : World} (h : Stays A X Y) (k : Stays A Y Z) : Stays A X Z := h.trans k
theorem Stays.b {A : Nat → TypeId → Prop} (n : Nat) (W : World) (l : Nat) (o o' : Obj) (_ : n ≤ l) (h : W.heap[l]? = some o) (ho : o.isCells = false) (_ : o.isWalk = false) : Stays A W (W.putObj l o') :=
  ⟨by simp, fun k cs T fr _ e => by
    rw [World.putObj_heap_other (fun (e' : k = l) => by subst e'; rw [h] at e; cases e; cases ho)]; exact e⟩

/-- the block of a pair of numbers of the call's own -/
def STwo (W : World) (B T : Nat) (p q : Int) : Prop := W.heap[B]? = some (.cells #[.int .i64 p, .int .i64 q] T (0, 0))
theorem STwo.stays {A : Nat → TypeId → Prop} {W W' : World} {B T : Nat} {p q : Int} (h : STwo W B T p q) (hs : Stays A W W') (hA : ¬ A B T) : STwo W' B T p q := hs.same _ _ _ _ hA h
theorem STwo.c0 {W : World} {B T : Nat} {p q : Int} (h : STwo W B T p q) : W.cell? ⟨B, 0, none⟩ = some (.int .i64 p) := by rw [cell_of_row W B 0 _ _ _ h]; rfl
theorem STwo.c1 {W : World} {B T : Nat} {p q : Int} (h : STwo W B T p q) : W.cell? ⟨B, 1, none⟩ = some (.int .i64 q) := by rw [cell_of_row W B 1 _ _ _ h]; rfl
theorem STwo.new (W : World) (T : Nat) (p q : Int) : STwo (W.alloc (.cells #[.int .i64 p, .int .i64 q] T)) W.heap.size T p q := heap_alloc_new W _
theorem STwo.alloc {W : World} {B T : Nat} {p q : Int} (h : STwo W B T p q) (o : Obj) : STwo (W.alloc o) B T p q := by
  unfold STwo at *
  rw [Below.heap_alloc W o B (Array.getElem?_eq_some_iff.1 h).1, h]

theorem Spans.stays {A : Nat → TypeId → Prop} {w w' : World} {ao : Option Addr} {xs : List (Int × Int)} (h : Spans w ao xs) (hs : Stays A w w') (hA : xs ≠ [] → ∀ a, ao = some a → ∀ T, ¬ A a.block T) : Spans w' ao xs := by
  intro i hi
  have hne : xs ≠ [] := by rintro rfl; simp at hi
  obtain ⟨b, off, e, c1, c2⟩ := h i hi
  exact ⟨b, off, e, hs.cell (by have := hA hne _ e; exact this) c1, hs.cell (by have := hA hne _ e; exact this) c2⟩

theorem Spans.lt {w : World} {ao : Option Addr} {xs : List (Int × Int)} (h : Spans w ao xs) : xs ≠ [] → ∀ a, ao = some a → a.block < w.heap.size := by
  intro hne a e
  have hl : 0 < xs.length := by
    rcases Nat.eq_zero_or_pos xs.length with h | h
    · exact absurd (List.eq_nil_of_length_eq_zero h) hne
    · exact h
  obtain ⟨b, off, e', c1, _⟩ := h 0 hl
  rw [e] at e'; cases e'
  exact cell_lt c1

/-- the members below m, rising -/
def upTo (f : Nat → Bool) (m : Nat) : List (Fin 4096) := (List.finRange 4096).filter fun j => decide (j.val < m) && f j.val

theorem filter_rise {n : Nat} (p q : Fin n → Bool) (m : Nat) (hm : m < n) (h : ∀ j : Fin n, q j = (p j || decide (j.val = m))) (hp : ∀ j : Fin n, p j = true → j.val < m) : (List.finRange n).filter q = (List.finRange n).filter p ++ [⟨m, hm⟩] := by
  have key : ∀ l : List (Fin n), l.Pairwise (fun a b => a.val < b.val) → (⟨m, hm⟩ : Fin n) ∈ l → l.filter q = l.filter p ++ [⟨m, hm⟩] := by
    intro l
    induction l with
    | nil => intro _ h; cases h
    | cons a r ih =>
      intro hpw hmem
      obtain ⟨h1, h2⟩ := List.pairwise_cons.1 hpw
      by_cases e : a.val = m
      · have ea : a = ⟨m, hm⟩ := Fin.ext e
        have hr1 : r.filter p = [] := by
          rw [List.filter_eq_nil_iff]
          intro x hx hpx
          have := h1 x hx
          have := hp x hpx
          omega
        have hr2 : r.filter q = [] := by
          rw [List.filter_eq_nil_iff]
          intro x hx hqx
          rw [h x] at hqx
          have := h1 x hx
          simp at hqx
          rcases hqx with hqx | hqx
          · have := hp x hqx; omega
          · omega
        have hpa : p a = false := by
          cases hpa : p a
          · rfl
          · have := hp a hpa; omega
        have hqa : q a = true := by rw [h a]; simp [e]
        rw [List.filter_cons, List.filter_cons, hr1, hr2, hpa, hqa, ea]
        simp
      · have hmem' : (⟨m, hm⟩ : Fin n) ∈ r := by
          rcases List.mem_cons.1 hmem with h | h
          · exact absurd (congrArg Fin.val h).symm e
          · exact h
        have hqa : q a = p a := by rw [h a]; simp [e]
        rw [List.filter_cons, List.filter_cons, ih h2 hmem', hqa]
        cases p a <;> simp
  refine key _ ?_ (List.mem_finRange _)
  rw [List.pairwise_iff_getElem]
  intro i j hi hj hij
  simp
  exact hij

theorem upTo_in {f : Nat → Bool} {m : Nat} (hm : m < 4096) (hf : f m = true) : upTo f (m + 1) = upTo f m ++ [⟨m, hm⟩] := by
  refine filter_rise _ _ m hm (fun j => ?_) (fun j hj => by simp at hj; exact hj.1)
  by_cases e : j.val = m
  · simp [e, hf]
  · have : decide (j.val < m + 1) = decide (j.val < m) := by congr 1; apply propext; omega
    simp [e, this]

theorem upTo_gap {f : Nat → Bool} {a b : Nat} (hab : a ≤ b) (h : ∀ j, a ≤ j → j < b → f j = false) : upTo f a = upTo f b := by
  unfold upTo
  apply List.filter_congr
  intro j _
  by_cases h1 : j.val < a
  · have h2 : j.val < b := by omega
    simp [h1, h2]
  · by_cases h2 : j.val < b
    · simp [h1, h2, h j.val (by omega) h2]
    · simp [h1, h2]

theorem upTo_zero (f : Nat → Bool) : upTo f 0 = [] := by simp [upTo]

theorem upTo_length (f : Nat → Bool) : ∀ m, (upTo f m).length ≤ m
  | 0 => by simp [upTo_zero]
  | m + 1 => by
    by_cases hm : m < 4096
    · cases hf : f m
      · rw [← upTo_gap (a := m) (b := m + 1) (by omega) (fun j h1 h2 => by rw [show j = m from by omega]; exact hf)]
        have := upTo_length f m
        omega
      · rw [upTo_in hm hf]
        have := upTo_length f m
        simp; omega
    · have : (upTo f (m + 1)).length ≤ (List.finRange 4096).length := List.length_filter_le _ _
      simp at this; omega

theorem right_low {low : Int} {xs : List (Int × Int)} (h : rightFrom low xs = true) {j : Int} (hj : j < low) : hasL xs j = false := by
  induction xs generalizing low with
  | nil => rfl
  | cons q r ih =>
    obtain ⟨s, n⟩ := q
    simp only [rightFrom, Bool.and_eq_true, decide_eq_true_eq] at h
    obtain ⟨⟨h1, h2⟩, h3⟩ := h
    obtain ⟨g0, g1, g2⟩ := withinB_true h1
    have := ih h3 (by omega)
    simp only [hasL, List.any_cons] at this ⊢
    rw [this]
    simp; omega

theorem within_exact (s n : Int) (w : World) (hs1 : -9223372036854775808 ≤ s) (hs2 : s ≤ 9223372036854775807) (hn1 : -9223372036854775808 ≤ n) (hn2 : n ≤ 9223372036854775807) (hw : withinB s n = true) :
    Calls Try.prog 38 #[.agg #[.int .i64 s, .int .i64 n]] w fun e w' => e = .returned (.bool true) ∧ w' = w.alloc (.cells #[.int .i64 s, .int .i64 n] 53) := by
  obtain ⟨h1, h2, h3⟩ := withinB_true hw
  go_enter Try.func38, Try.ntmps38
  go_wp2
  go_ret
  exact ⟨rfl, rfl⟩

set_option maxRecDepth 100000 in
set_option maxHeartbeats 2000000 in
theorem numbers1_in (n : Nat) (hn : 1 ≤ n) (A : Nat → TypeId → Prop) (l Bs : Nat) (ao : Option Addr) (cap : Nat) (xs : List (Int × Int)) (hr : rightFrom 0 xs = true) (hf : Fits xs) (J Jx : List (Fin 4096) → World → Prop)
    (W : World) (hJ : AbidesFrom W.heap.size J) (hx : Spans W ao xs) (hA : xs ≠ [] → ∀ a, ao = some a → ∀ T, ¬ A a.block T) (hAW : ∀ k, W.heap.size ≤ k → ¬ A k 53) (hBs : W.cell? ⟨Bs, 0, none⟩ = some (.slice ao xs.length cap))
    (hY : ∀ pre (x : Fin 4096) W1, J pre W1 → pre.length < 4096 → YieldAt Fence.wide (n - 1) Try.prog l #[.int .i64 (x.val : Int)] W1 fun e W' =>
      (e = .returned (.bool true) ∧ J (pre ++ [x]) W' ∧ Stays A W1 W') ∨ (e = .returned (.bool false) ∧ Jx (pre ++ [x]) W')) (h0 : J [] W) :
    CallsIn Fence.wide n Try.prog 48 #[.func (.yield l) #[] #[], .pointer (some ⟨Bs, 0, none⟩)] W fun e W' => (∃ v, e = .returned v) ∧
      ((∃ ys, ys = upTo (maskS xs) 4096 ∧ J ys W') ∨ (∃ pre, (∃ m, m < 4096 ∧ maskS xs m = true ∧ pre = upTo (maskS xs) (m + 1)) ∧ Jx pre W')) := by
  have hl := hf.2
  have hf := Lib.hid hf
  have hx := Lib.hid hx
  have hr := Lib.hid hr
  have hY := Lib.hid hY
  have hJ := Lib.hid hJ
  have hAW := Lib.hid hAW
  have hA := Lib.hid hA
  refine callsIn_of_wp Try.func48 rfl trivial ?_ rfl
  simp only [Try.ntmps48, List.size_toArray, List.length_cons, List.length_nil, Nat.reduceAdd, Nat.reduceSub, Array.replicate_succ, Array.replicate_zero, List.push_toArray, List.append_toArray, List.nil_append, List.cons_append]
  gi_wp2
  gi_loopw [3, 8] (fun nx i wr => ∃ (k next : Nat) (low : Int), k ≤ xs.length ∧ i = .int .i64 k ∧ nx = .int .i64 next ∧ next ≤ 4096 ∧ (next : Int) ≤ low ∧ Hid (rightFrom low (xs.drop k) = true) ∧ Hid (∀ j, next ≤ j → maskS xs j = maskS (xs.drop k) j) ∧ Hid (J (upTo (maskS xs) next) wr) ∧ Hid (Stays A W wr))
    (fun _ i _ => xs.length - (intOf i).toNat)
  case atStart => exact ⟨0, 0, 0, by omega, rfl, rfl, by omega, by omega, Lib.hid (by simpa using hr.out), Lib.hid (fun j _ => by simp), Lib.hid (by rw [upTo_zero]; exact h0), Lib.hid (Stays.refl _ _)⟩
  case round =>
    obtain ⟨k, next, low, hk, rfl, rfl, hnx, hlow, hro, hmask, hJs, hst⟩ := hrel
    by_cases hlt : k < xs.length
    · obtain ⟨b, off, s, m, rfl, hd, c1, c2, hbb, hs1, hs2, hn1, hn2⟩ := (hx.out.stays hst.out hA.out).get hf.out hlt
      have hro2 := hro.out
      rw [hd.out] at hro2
      simp only [rightFrom, Bool.and_eq_true, decide_eq_true_eq] at hro2
      obtain ⟨⟨hw, h2⟩, h3⟩ := hro2
      obtain ⟨g0, g1, g2⟩ := withinB_true hw
      have hw := Lib.hid hw
      have h3 := Lib.hid h3
      obtain ⟨s, rfl⟩ := Int.eq_ofNat_of_zero_le g0
      obtain ⟨m, rfl⟩ := Int.eq_ofNat_of_zero_le (show 0 ≤ m from by omega)
      have hDA : ¬ A wr.heap.size 53 := hAW.out _ hst.out.size
      have hDA := Lib.hid hDA
      have hf2 : ∀ j, next ≤ j → maskS xs j = maskS (((s : Int), (m : Int)) :: xs.drop (k + 1)) j := fun j hj => by rw [hmask.out j hj, hd.out]
      have hgap : ∀ j, next ≤ j → j < s → maskS xs j = false := fun j h1 h4 => by
        rw [hf2 j h1]
        have := right_low h3.out (j := (j : Int)) (by omega)
        simp only [maskS, hasL, List.any_cons] at this ⊢
        rw [this]; simp; omega
      have hin : ∀ j, s ≤ j → j < s + m → maskS xs j = true := fun j h1 h4 => by
        rw [hf2 j (by omega)]
        simp only [maskS, hasL, List.any_cons]
        have : decide ((s : Int) ≤ (j : Int) ∧ (j : Int) < (s : Int) + (m : Int)) = true := by simp; omega
        simp only [this, Bool.true_or]
      have hout : ∀ j, s + m ≤ j → maskS xs j = maskS (xs.drop (k + 1)) j := fun j h1 => by
        rw [hf2 j (by omega)]
        simp only [maskS, hasL, List.any_cons]
        have : decide ((s : Int) ≤ (j : Int) ∧ (j : Int) < (s : Int) + (m : Int)) = false := by simp; omega
        simp only [this, Bool.false_or]
      have hJ0 : J (upTo (maskS xs) s) ((wr.alloc (.cells #[.int .i64 s, .int .i64 m] 53)).alloc (.cells #[.int .i64 s, .int .i64 m] 53)) := by
        rw [← upTo_gap (a := next) (b := s) (by omega) hgap]
        exact hJ.out _ _ _ none (hJ.out _ _ _ none hJs.out (World.grownBy_alloc _ _ none) (fun r e => by cases e)) (World.grownBy_alloc _ _ none) (fun r e => by cases e)
      have hS0 : Stays A W ((wr.alloc (.cells #[.int .i64 s, .int .i64 m] 53)).alloc (.cells #[.int .i64 s, .int .i64 m] 53)) := (hst.out.trans (Stays.alloc _ _ _)).trans (Stays.alloc _ _ _)
      have hf2 := Lib.hid hf2
      have hgap := Lib.hid hgap
      have hin := Lib.hid hin
      have hout := Lib.hid hout
      have hJ0 := Lib.hid hJ0
      have hS0 := Lib.hid hS0
      have hns : next ≤ s := by omega
      obtain ⟨wo, hwo⟩ : ∃ wo : World, wo = wr := ⟨_, rfl⟩
      subst hwo
      rcases (Nat.lt_or_eq_of_le hns).imp_right Eq.symm with hns | rfl
      all_goals
        gi_wp2_with (refine ⟨trivial, ?_⟩; gi_at_call 38; refine (callsIn_wide.2 (within_exact _ _ _ hs1 hs2 hn1 hn2 hw.out)).mono ?_; rintro e w' ⟨rfl, rfl⟩)
        gi_loopw [3] (fun nx wi => ∃ p : Nat, nx = .int .i64 p ∧ s ≤ p ∧ p ≤ s + m ∧ Hid (J (upTo (maskS xs) p) wi) ∧ Hid (Stays A W wi) ∧ Hid (STwo wi wo.heap.size 53 s m))
          (fun nx _ => s + m - (intOf nx).toNat)
        case atStart => exact ⟨_, rfl, by omega, by omega, hJ0, hS0, Lib.hid ((STwo.new _ _ _ _).alloc _)⟩
        case round =>
          obtain ⟨p, rfl, hp1, hp2, hJp, hSp, htwo⟩ := hrel
          have d1 := htwo.out.c0
          have d2 := htwo.out.c1
          by_cases hpl : p < s + m
          · have hp4 : p < 4096 := by omega
            obtain ⟨fn, tmps, assign, body, hy, hR⟩ := hY.out _ ⟨p, hp4⟩ _ hJp.out (by have := upTo_length (maskS xs) p; omega)
            dsimp only at hy
            gi_wp2
            refine hR.mono ?_
            rintro e W3 (⟨rfl, hJ3, hk3⟩ | ⟨rfl, hJx3⟩)
            · have d1 := (htwo.out.stays hk3 hDA.out).c0
              have d2 := (htwo.out.stays hk3 hDA.out).c1
              gi_wp2
              go_roundw
              case rel => exact ⟨p + 1, by go_num, by omega, by omega, Lib.hid (by rw [upTo_in hp4 (hin.out p hp1 hpl)]; exact hJ3), Lib.hid (hSp.out.trans hk3), Lib.hid (htwo.out.stays hk3 hDA.out)⟩
              case measure => simp [intOf] <;> omega
            · gi_wp2
              refine bodyPost_ret (results_none rfl _ _ _) rfl ?_
              exact ⟨⟨_, rfl⟩, .inr ⟨_, ⟨p, hp4, hin.out p hp1 hpl, (upTo_in hp4 (hin.out p hp1 hpl)).symm⟩, hJx3⟩⟩
          · obtain rfl : p = s + m := by omega
            gi_wp2
            go_roundw
            case rel => exact ⟨k + 1, s + m, s + m + 1, by omega, by go_num, rfl, by omega, by omega, h3, hout, hJp, hSp⟩
            case measure => simp [intOf] <;> omega
    · gi_wp2
      go_end0
      have he : k = xs.length := by omega
      refine ⟨⟨_, rfl⟩, .inl ⟨_, (upTo_gap hnx fun j h1 h2 => ?_), hJs.out⟩⟩
      rw [hmask.out j h1, he, List.drop_length]; rfl
end Go.Proofs.Ytlbglcmajbhflaa
