/- A region that draws its order, walked operation by operation: what only reads is taken first, under facts that are owed as long as that operation may still come up; what writes comes up alone, and keeps the facts of those that may come behind it. What holds for every program. -/
import Derived.Test.YtkapdagmffbbhaaRow
import Derived.OrdersHeld
import Derived.Deep.RegionHeld3
namespace Go.Proofs.Ytkapdagmffbbhaa
open Go.ChangeShapes Go.WideShapes Go.ChangeAt Go.RowKit
set_option linter.unusedVariables false
set_option maxRecDepth 20000

/-- does operation j wait for i, at once or by others? -/
def reach (md : Region.Mode) (ops : Array Oper) : Nat → Nat → Nat → Bool
  | 0, _, _ => false
  | f + 1, j, i => match ops[j]? with
    | some oj => oj.after.any fun e => Region.binds md e && (e.on == i || reach md ops f e.on i)
    | none => false

/-- what is listed has all that it waits for listed -/
def Closed (md : Region.Mode) (ops : Array Oper) (l : Array Bool) : Prop := ∀ j oj, ops[j]? = some oj → l.getD j false = true → ∀ e ∈ oj.after, Region.binds md e = true → l.getD e.on false = true

theorem Closed.reach {md : Region.Mode} {ops : Array Oper} {l : Array Bool} (h : Closed md ops l) : ∀ (f j i : Nat), l.getD j false = true → reach md ops f j i = true → l.getD i false = true
  | 0, _, _, _, hr => by cases hr
  | f + 1, j, i, hj, hr => by
    unfold Go.Proofs.Ytkapdagmffbbhaa.reach at hr
    split at hr
    · rename_i oj hoj
      obtain ⟨e, he, hb⟩ := Array.any_eq_true'.1 hr
      simp only [Bool.and_eq_true, Bool.or_eq_true, beq_iff_eq] at hb
      have h1 := h j oj hoj hj e he hb.1
      rcases hb.2 with rfl | h2
      · exact h1
      · exact h.reach f _ i h1 h2
    · cases hr
theorem Closed.ready {md : Region.Mode} {ops : Array Oper} {l : Array Bool} (h : Closed md ops l) (f : Nat) {j i : Nat} (hj : j ∈ Region.ready md ops l) (hi : l.getD i true = false) : Go.Proofs.Ytkapdagmffbbhaa.reach md ops f j i = false := by
  cases hr : Go.Proofs.Ytkapdagmffbbhaa.reach md ops f j i
  · rfl
  · exfalso
    have hif : l.getD i false = true := by
      obtain ⟨_, oj, hoj, hall⟩ := mem_ready.1 hj
      cases f with
      | zero => cases hr
      | succ f =>
        unfold Go.Proofs.Ytkapdagmffbbhaa.reach at hr
        simp only [hoj] at hr
        obtain ⟨e, he, hb⟩ := Array.any_eq_true'.1 hr
        simp only [Bool.and_eq_true, Bool.or_eq_true, beq_iff_eq] at hb
        have h1 := hall e he hb.1
        rcases hb.2 with rfl | h2
        · exact h1
        · exact h.reach f _ i h1 h2
    by_cases hlt : i < l.size
    · simp [hlt] at hif hi
      rw [hi] at hif
      cases hif
    · simp [Array.getElem?_eq_none (Nat.le_of_not_lt hlt)] at hi
theorem Closed.set {md : Region.Mode} {ops : Array Oper} {l : Array Bool} (h : Closed md ops l) {i : Nat} (hi : i ∈ Region.ready md ops l) : Closed md ops (l.setIfInBounds i true) := by
  intro j oj hoj hl e he hb
  by_cases e1 : i = j
  · subst e1
    obtain ⟨_, oi, hoi, hall⟩ := mem_ready.1 hi
    obtain rfl : oj = oi := Option.some.inj (hoj.symm.trans hoi)
    exact getD_set_true (hall e he hb)
  · rw [getD_set_ne false e1] at hl
    exact getD_set_true (h j oj hoj hl e he hb)
theorem getD_none_listed (m j : Nat) : (Array.replicate m false).getD j false = false := by
  rcases Nat.lt_or_ge j m with h | h
  · simp [h]
  · simp [h]
theorem Closed.start (md : Region.Mode) (ops : Array Oper) (n : Nat) : Closed md ops (Array.replicate n false) := fun j oj _ hl => by
  rw [getD_none_listed] at hl
  cases hl
theorem getD_self_listed (l : Array Bool) (i : Nat) : (l.setIfInBounds i true).getD i true = true := by
  by_cases hb : i < l.size
  · simp [Array.getD, hb]
  · simp [Array.getD, hb]

/-- each fact holds as long as its operation has not come up -/
def Owed (fs : List (Nat × (World → Prop))) (l : Array Bool) (w : World) : Prop := ∀ x, x ∈ fs → l.getD x.1 true = false → x.2 w
theorem Owed.nil (l : Array Bool) (w : World) : Owed [] l w := fun x hx => by cases hx
theorem Owed.cons {fs : List (Nat × (World → Prop))} {l : Array Bool} {w : World} {x : Nat × (World → Prop)} (h : x.2 w) (k : Owed fs l w) : Owed (x :: fs) l w := fun y hy hl => by
  rcases List.mem_cons.1 hy with rfl | hy
  · exact h
  · exact k y hy hl
theorem Owed.set {fs : List (Nat × (World → Prop))} {l : Array Bool} {w : World} (h : Owed fs l w) (i : Nat) : Owed fs (l.setIfInBounds i true) w := fun x hx hl => by
  refine h x hx ?_
  by_cases e : i = x.1
  · rw [e, getD_self_listed] at hl; cases hl
  · rwa [getD_set_ne true e] at hl

section
variable {P : Program} {ops : Array Oper} {Q : Exit → Act → World → Prop} {md : Region.Mode} {fs : List (Nat × (World → Prop))}

/-- behind operation j the facts hold that held, but those of what j waits for -/
def Keeps (md : Region.Mode) (ops : Array Oper) (fs : List (Nat × (World → Prop))) (j : Nat) (w w' : World) : Prop := ∀ x, x ∈ fs → reach md ops ops.size j x.1 = false → x.2 w → x.2 w'
theorem Keeps.nil (j : Nat) (w w' : World) : Keeps md ops [] j w w' := fun x hx => by cases hx
theorem Keeps.late {j : Nat} {w w' : World} {x : Nat × (World → Prop)} (h : reach md ops ops.size j x.1 = true) (k : Keeps md ops fs j w w') : Keeps md ops (x :: fs) j w w' := fun y hy hr hw => by
  rcases List.mem_cons.1 hy with rfl | hy
  · rw [h] at hr; cases hr
  · exact k y hy hr hw
theorem Keeps.cons {j : Nat} {w w' : World} {x : Nat × (World → Prop)} (h : x.2 w → x.2 w') (k : Keeps md ops fs j w w') : Keeps md ops (x :: fs) j w w' := fun y hy hr hw => by
  rcases List.mem_cons.1 hy with rfl | hy
  · exact h hw
  · exact k y hy hr hw
theorem Owed.keeps {l : Array Bool} {j : Nat} {w w' : World} (h : Owed fs l w) (hc : Closed md ops l) (hj : j ∈ Region.ready md ops l) (k : Keeps md ops fs j w w') : Owed fs (l.setIfInBounds j true) w' := fun x hx hl => by
  have hl' : l.getD x.1 true = false := by
    by_cases e : j = x.1
    · rw [e, getD_self_listed] at hl; cases hl
    · rwa [getD_set_ne true e] at hl
  exact k x hx (hc.ready _ hj hl') (h x hx hl')

def wpO (P : Program) (md : Region.Mode) (ops : Array Oper) (Q : Exit → Act → World → Prop) (fs : List (Nat × (World → Prop))) : Nat → Array Bool → Act → World → Prop
  | 0, l, a, w => Region.ready md ops l = [] ∧ Q .normal a w
  | n + 1, l, a, w => (Region.ready md ops l = [] → Q .normal a w) ∧
      ∀ i ∈ Region.ready md ops l, wpOp P ops Q i (fun a' w' => Keeps md ops fs i w w' ∧ wpO P md ops Q fs n (l.setIfInBounds i true) a' w') a w

theorem wpAny_of_wpO : ∀ (n : Nat) (l : Array Bool) (a : Act) (w : World), wpO P md ops Q fs n l a w → wpAny P md ops Q n l a w
  | 0, _, _, _, h => h
  | n + 1, _, _, _, h => ⟨h.1, fun i hi => wpOp_mono (fun a' w' h' => wpAny_of_wpO n _ a' w' h'.2) (h.2 i hi)⟩

/-- where a walk of a region stands -/
structure InO (P : Program) (md : Region.Mode) (ops : Array Oper) (Q : Exit → Act → World → Prop) (fs : List (Nat × (World → Prop))) (n : Nat) (l : Array Bool) (a : Act) (w : World) : Prop where
  run : Closed md ops l → Owed fs l w → wpO P md ops Q fs n l a w

theorem inO_region {id : Nat} {a : Act} {w : World} (fs : List (Nat × (World → Prop))) (hm : P.follows .mixedOrders = true) (h0 : Owed fs (Array.replicate ops.size false) w.drew)
    (h : InO P .any ops Q fs ops.size (Array.replicate ops.size false) a w.drew) : (Code.region id ops true).wp P Q a w :=
  wp_region_any hm (wpAny_of_wpO _ _ _ _ (h.run (Closed.start _ _ _) h0))

theorem wpO_first {i : Nat} {oi : Oper} {v : Value} (hi : ops[i]? = some oi) (hsel : ∀ (j : Nat) (o : Oper) cs b, ops[j]? = some o → o.op ≠ .select cs b)
    (hQ : ∀ c a w, Q (.panic c) (a.put oi.dst v) w → Q (.panic c) a w) : ∀ (n : Nat) (l : Array Bool) (a : Act) (w : World),
      (∀ j oj, ops[j]? = some oj → j ≠ i → l.getD j true = false → (∀ e ∈ oj.after, Region.binds md e = true → e.on ≠ i) → oi.apart ops oj = true) →
      i ∈ Region.ready md ops l → YieldsIf P ops (fun w => ∃ l' : Array Bool, l'.getD i true = false ∧ Owed fs l' w) oi v a → Closed md ops l → Owed fs l w →
      wpO P md ops Q fs n (l.setIfInBounds i true) (a.put oi.dst v) w → wpO P md ops Q fs (n + 1) l a w := by
  intro n
  induction n with
  | zero =>
    intro l a w _ hr hy hc hS H
    refine ⟨fun h => (by rw [h] at hr; cases hr), fun j hj => ?_⟩
    by_cases e : j = i
    · subst e
      exact hy.wpOp hi ⟨l, (mem_ready.1 hr).1, hS⟩ ⟨fun _ _ _ h => h, H⟩
    · have hj' := ready_mono hj e
      rw [H.1] at hj'
      cases hj'
  | succ n ih =>
    intro l a w hfree hr hy hc hS H
    refine ⟨fun h => (by rw [h] at hr; cases hr), fun j hj => ?_⟩
    by_cases e : j = i
    · subst e
      exact hy.wpOp hi ⟨l, (mem_ready.1 hr).1, hS⟩ ⟨fun _ _ _ h => h, H⟩
    · have g1 := H.2 j (ready_mono hj e)
      obtain ⟨hjl, oj, hoj, hall⟩ := mem_ready.1 hj
      have hil := (mem_ready.1 hr).1
      have hno : ∀ e ∈ oj.after, Region.binds md e = true → e.on ≠ i := fun e he hb heq => by
        have q := hall e he hb
        rw [heq] at q
        by_cases hlt : i < l.size
        · simp [hlt] at q hil
          rw [hil] at q
          cases q
        · simp [Array.getElem?_eq_none (Nat.le_of_not_lt hlt)] at q
      have g2 := wpOp_putIf hoj (hfree j oj hoj e hjl hno) (fun cs b => hsel i oi cs b hi) (fun cs b => hsel j oj cs b hoj) hQ hy g1
      refine wpOp_mono (fun a' w' g3 => ⟨g3.2.1, ih (l.setIfInBounds j true) a' w' ?_ (ready_mono hr (Ne.symm e)) g3.1 (hc.set hj) (hS.keeps hc hj g3.2.1) ?_⟩) g2
      · intro k ok hk hki hun hnk
        refine hfree k ok hk hki ?_ hnk
        by_cases hjk : j = k
        · subst hjk; exact hjl
        · rwa [getD_set_ne true hjk] at hun
      · rw [Array.setIfInBounds_comm _ _ e]
        exact g3.2.2

/-- an operation that only reads is taken first -/
theorem inO_take (i : Nat) (oi : Oper) (v : Value) {n : Nat} {l : Array Bool} {a : Act} {w : World} (hi : ops[i]? = some oi)
    (hs : Region.noSelect ops = true) (hf : Region.free md ops l i = true) (hr : (Region.ready md ops l).contains i = true) (hQ : ∀ c a w, Q (.panic c) (a.put oi.dst v) w → Q (.panic c) a w)
    (hw : Region.wanted oi (yielded ops a.tmps) = true) (hy : ∀ w, (execOp a.eval oi).run P w = .ok (.value v) w) (h : InO P md ops Q fs n (l.setIfInBounds i true) (a.put oi.dst v) w) : InO P md ops Q fs (n + 1) l a w :=
  ⟨fun hc hS => wpO_first hi (Region.noSelect_spec hs) hQ n l a w (Region.free_spec hi hf) (by simpa using hr) (.inl ⟨hw, fun w _ => hy w⟩) hc hS (h.run (hc.set (by simpa using hr)) (hS.set i))⟩

/-- one whose guard is false -/
theorem inO_pass (i : Nat) (oi : Oper) {n : Nat} {l : Array Bool} {a : Act} {w : World} (hi : ops[i]? = some oi)
    (hs : Region.noSelect ops = true) (hf : Region.free md ops l i = true) (hr : (Region.ready md ops l).contains i = true) (hQ : ∀ c a w, Q (.panic c) (a.put oi.dst undef) w → Q (.panic c) a w)
    (hw : Region.wanted oi (yielded ops a.tmps) = false) (h : InO P md ops Q fs n (l.setIfInBounds i true) (a.put oi.dst undef) w) : InO P md ops Q fs (n + 1) l a w :=
  ⟨fun hc hS => wpO_first hi (Region.noSelect_spec hs) hQ n l a w (Region.free_spec hi hf) (by simpa using hr) (.inr ⟨hw, rfl⟩) hc hS (h.run (hc.set (by simpa using hr)) (hS.set i))⟩

/-- one that reads what a fact tells -/
theorem inO_load (i : Nat) (oi : Oper) (v : Value) (φ : World → Prop) {n : Nat} {l : Array Bool} {a : Act} {w : World} (hi : ops[i]? = some oi)
    (hs : Region.noSelect ops = true) (hf : Region.free md ops l i = true) (hr : (Region.ready md ops l).contains i = true) (hQ : ∀ c a w, Q (.panic c) (a.put oi.dst v) w → Q (.panic c) a w)
    (hw : Region.wanted oi (yielded ops a.tmps) = true) (hφ : (i, φ) ∈ fs) (hy : ∀ w, φ w → (execOp a.eval oi).run P w = .ok (.value v) w) (h : InO P md ops Q fs n (l.setIfInBounds i true) (a.put oi.dst v) w) : InO P md ops Q fs (n + 1) l a w :=
  ⟨fun hc hS => wpO_first hi (Region.noSelect_spec hs) hQ n l a w (Region.free_spec hi hf) (by simpa using hr) (.inl ⟨hw, fun w ⟨l', hl', hO⟩ => hy w (hO _ hφ hl')⟩) hc hS (h.run (hc.set (by simpa using hr)) (hS.set i))⟩

/-- one that comes up alone, whatever it does -/
theorem inO_step (i : Nat) (oi : Oper) {n : Nat} {l : Array Bool} {a : Act} {w : World} (hi : ops[i]? = some oi) (hr : Region.ready md ops l = [i]) (hw : Region.wanted oi (yielded ops a.tmps) = true)
    (h : ∀ K : Act → World → Prop, (∀ a' w', Keeps md ops fs i w w' → InO P md ops Q fs n (l.setIfInBounds i true) a' w' → K a' w') → oi.wp P a w K Q) : InO P md ops Q fs (n + 1) l a w :=
  ⟨fun hc hS => ⟨fun h0 => (by rw [hr] at h0; cases h0), fun j hj => by
    obtain rfl : j = i := by rw [hr] at hj; simpa using hj
    unfold wpOp
    simp only [hi, hw, if_true]
    refine .inl (h _ fun a' w' hk hrun => ⟨hk, hrun.run (hc.set hj) (hS.keeps hc hj hk)⟩)⟩⟩

/-- all have come up -/
theorem inO_done {n : Nat} {l : Array Bool} {a : Act} {w : World} (hr : Region.ready md ops l = []) (h : Q .normal a w) : InO P md ops Q fs n l a w :=
  ⟨fun _ _ => match n with
    | 0 => ⟨hr, h⟩
    | n + 1 => ⟨fun _ => h, fun j hj => (by rw [hr] at hj; cases hj)⟩⟩
end
end Go.Proofs.Ytkapdagmffbbhaa
