/- What is had, what waits and what is free: plain facts; the document's Set with its slice written out. -/
import Derived.Test.YthnncohkdgaipaaSlabJ
import Derived.Test.YthnncohkdgaipaaCall
import Derived.Deep.CutRange
import Derived.Deep.RegionWith
namespace Go.Proofs.Ythnncohkdgaipaa
open Go.ChangeShapes Go.WideShapes Go.ChangeAt Go.RowKit
set_option linter.unusedVariables false
set_option maxRecDepth 20000

/-- a map of T sectors, what was given of it, and what waits -/
structure Apart7 (T : Nat) (f : Nat → Nat) (h v : Nat → Bool) : Prop where
  kind : ∀ j, j < 1024 → 4 ≤ j ∧ j < T ∧ (f j = 1 ∨ f j = 2 ∨ f j = 3) ∨ ¬ (4 ≤ j ∧ j < T) ∧ f j = 0
  had : ∀ j, j < 4096 → h j = (decide (j < 1024) && (f j == 2))
  wait : ∀ j, j < 4096 → v j = (decide (j < 1024) && (f j == 3))

def setB (h : Nat → Bool) (i : Nat) (b : Bool) : Nat → Bool := fun j => if j = i then b else h j

section
variable {T : Nat} {f : Nat → Nat} {h v : Nat → Bool}

theorem Apart7.start (h4 : 4 ≤ T) : Apart7 T (newS (T : Int)) (fun _ => false) (fun _ => false) := by
  refine ⟨fun j hj => ?_, fun j hj => ?_, fun j hj => ?_⟩
  · unfold newS
    by_cases c : 4 ≤ j ∧ (j : Int) < T ∧ j < 1024
    · rw [if_pos c]; exact .inl ⟨c.1, by omega, .inl rfl⟩
    · rw [if_neg c]; exact .inr ⟨fun c' => c ⟨c'.1, by omega, hj⟩, rfl⟩
  · have : newS (T : Int) j ≠ 2 := by unfold newS; split <;> omega
    simp [this]
  · have : newS (T : Int) j ≠ 3 := by unfold newS; split <;> omega
    simp [this]

theorem Apart7.free (a : Apart7 T f h v) {i : Nat} (hi : i < 1024) (hf : f i = 1) : 4 ≤ i ∧ i < T ∧ h i = false ∧ v i = false := by
  have h1 := a.kind i hi
  refine ⟨by omega, by omega, ?_, ?_⟩
  · rw [a.had i (by omega), hf]; simp
  · rw [a.wait i (by omega), hf]; simp

theorem Apart7.turned (a : Apart7 T f h v) {i n : Nat} {b c : Bool} (hi : i < 1024) (hf : f i ≠ 0) (hn : n = 1 ∨ n = 2 ∨ n = 3) (hb : b = (n == 2)) (hc : c = (n == 3)) : Apart7 T (upd f i n) (setB h i b) (setB v i c) := by
  refine ⟨fun j hj => ?_, fun j hj => ?_, fun j hj => ?_⟩
  · have h1 := a.kind j hj
    unfold upd
    by_cases e : j = i
    · subst e
      rw [if_pos rfl]
      exact .inl ⟨by omega, by omega, hn⟩
    · rw [if_neg e]; exact h1
  · unfold setB upd
    by_cases e : j = i
    · subst e; simp [hi, hb]
    · rw [if_neg e, if_neg e]; exact a.had j hj
  · unfold setB upd
    by_cases e : j = i
    · subst e; simp [hi, hc]
    · rw [if_neg e, if_neg e]; exact a.wait j hj

theorem setB_same {i : Nat} {b : Bool} (hb : h i = b) : setB h i b = h := by
  funext j
  unfold setB
  by_cases e : j = i
  · subst e; rw [if_pos rfl, hb]
  · rw [if_neg e]

theorem Apart7.give (a : Apart7 T f h v) {i : Nat} (hi : i < 1024) (hf : f i = 1) : Apart7 T (upd f i 2) (setB h i true) v := by
  have := a.turned (n := 2) (b := true) (c := false) hi (by omega) (by omega) rfl rfl
  rwa [setB_same (a.free hi hf).2.2.2] at this
theorem Apart7.back (a : Apart7 T f h v) {i : Nat} (hi : i < 1024) (hf : f i = 2) : h i = true ∧ v i = false ∧ Apart7 T (upd f i 1) (setB h i false) v ∧ Apart7 T (upd f i 3) (setB h i false) (setB v i true) := by
  have h1 : h i = true := by rw [a.had i (by omega), hf]; simp [hi]
  have h2 : v i = false := by rw [a.wait i (by omega), hf]; simp
  refine ⟨h1, h2, ?_, a.turned (n := 3) (b := false) (c := true) hi (by omega) (by omega) rfl rfl⟩
  have := a.turned (n := 1) (b := false) (c := false) hi (by omega) (by omega) rfl rfl
  rwa [setB_same h2] at this
theorem Apart7.not (a : Apart7 T f h v) {i : Nat} (hi : i < 1024) (hf : f i ≠ 2) : h i = false ∧ setB h i false = h := by
  have h1 : h i = false := by rw [a.had i (by omega)]; simp [hf]
  exact ⟨h1, setB_same h1⟩
theorem Apart7.commit (a : Apart7 T f h v) : Apart7 T (commitF f) h (fun _ => false) := by
  refine ⟨fun j hj => ?_, fun j hj => ?_, fun j hj => ?_⟩
  · have h1 := a.kind j hj
    unfold commitF
    split
    · exact .inl ⟨by omega, by omega, .inl rfl⟩
    · exact h1
  · rw [a.had j hj]
    unfold commitF
    by_cases e : f j = 3
    · rw [if_pos e, e]; simp
    · rw [if_neg e]
  · unfold commitF
    by_cases e : f j = 3
    · rw [if_pos e]; simp
    · rw [if_neg e]; simp [e]

theorem Apart7.sets (a : Apart7 T f h v) : setS f 2 = runs h 4096 ∧ setS f 3 = runs v 4096 := by
  rw [setS_eq, setS_eq]
  exact ⟨runs_eq fun j hj => (a.had j hj).symm, runs_eq fun j hj => (a.wait j hj).symm⟩

theorem nums_cnt (g : Nat → Bool) (k : Nat) : (numsL g k).length = cntF g k := by
  induction k with
  | zero => rfl
  | succ k ih =>
    rw [numsL_succ]
    simp only [cntF]
    cases hg : g k
    · simp [ih]
    · simp [ih]

theorem cnt_low {g : Nat → Bool} (hg : ∀ j, 1024 ≤ j → j < 4096 → g j = false) : cntF g 4096 = cntF g 1024 := by
  rw [show (4096 : Nat) = 1024 + 3072 from rfl, cntF_add]
  have : cntF (fun j => g (1024 + j)) 3072 = 0 := cntF_zero.2 fun j hj => hg _ (by omega) (by omega)
  rw [this, Nat.add_zero]

theorem cnt_range (T k : Nat) : cntF (fun j => decide (4 ≤ j ∧ j < T)) k = min k T - 4 := by
  induction k with
  | zero => simp [cntF]
  | succ k ih =>
    simp only [cntF, ih]
    by_cases c : 4 ≤ k ∧ k < T
    · rw [if_pos (by simpa using c)]; omega
    · rw [if_neg (by simpa using c)]; omega

theorem Apart7.count (a : Apart7 T f h v) (hT : T ≤ 1024) : (numsL (maskS (runs h 4096)) 4096).length + (numsL (maskS (runs v 4096)) 4096).length + countN f = T - 4 := by
  rw [nums_cnt, nums_cnt, cntF_congr (fun j hj => runs_mask h hj), cntF_congr (fun j hj => runs_mask v hj)]
  rw [cnt_low fun j h1 h2 => by rw [a.had j h2]; simp; omega, cnt_low fun j h1 h2 => by rw [a.wait j h2]; simp; omega, countN_eq]
  rw [cntF_three (t := fun j => decide (4 ≤ j ∧ j < T)), cnt_range]
  · omega
  · intro j hj
    have h1 := a.kind j hj
    rw [a.had j (by omega), a.wait j (by omega)]
    have e : decide (j < 1024) = true := by simpa using hj
    rw [e]
    simp only [Bool.true_and]
    rcases h1 with ⟨c1, c2, c3⟩ | ⟨c1, c2⟩
    · rw [if_pos (c := decide (4 ≤ j ∧ j < T) = true) (by simp; omega)]
      rcases c3 with e | e | e <;> rw [e] <;> rfl
    · rw [if_neg (c := decide (4 ≤ j ∧ j < T) = true) (by simp; omega), c2]; rfl
end

theorem Marked.kept7 {w w' : World} {B T : Nat} {f : Nat → Bool} {F : Nat → Prop} (h : Marked w B T f) (k : Kept F w w') (hn : ¬ F B) : Marked w' B T f := (k.block B h.lt hn).trans h

theorem manyL_get (f : Nat → Nat) {t : Nat} : ∀ N, t < N → (manyL f N)[t]? = some ((allocO (manyF f t)).getD 0) := by
  intro N
  induction N with
  | zero => intro h; omega
  | succ N ih =>
    intro h
    rw [manyL_succ]
    by_cases e : t = N
    · subst e
      rw [List.getElem?_append_right (by rw [manyL_length]; omega), manyL_length]
      simp
    · rw [List.getElem?_append_left (by rw [manyL_length]; omega)]
      exact ih (by omega)

/-- the sector that is given as the t-th of many -/
theorem many_at {f : Nat → Nat} {N t : Nat} (hN : N ≤ countN f) (ht : t < N) : ∃ i, i < 1024 ∧ manyF f t i = 1 ∧ manyF f (t + 1) = upd (manyF f t) i 2 ∧ ((manyL f N).map Int.ofNat)[t]? = some (i : Int) := by
  have h1 := many_count (f := f) t (by omega)
  obtain ⟨i, h2, h3, _⟩ := many_step (f := f) (n := t) (by omega)
  obtain ⟨h4, h5, _, _⟩ := allocO_some h2
  refine ⟨i, h4, h5, h3, ?_⟩
  rw [List.getElem?_map, manyL_get f N ht, h2]
  rfl

theorem Many_got (B : Nat) (f : Nat → Nat) (z : Int) (w : World) (hm : MapAt w B f) (hz : I64 z) : Calls Try.prog 12 #[.pointer (some ⟨B, 0, none⟩), .int .i64 z] w fun e w' =>
    (∃ N ao cap, N ≤ countN f ∧ e = .returned (.tuple #[.slice ao N cap, .int .i64 0]) ∧ Nums w' ao ((manyL f N).map Int.ofNat) ∧ (∀ a, ao = some a → w.heap.size ≤ a.block) ∧ MapAt w' B (manyF f N) ∧ Kept (· = B) w w') ∨
    (∃ ao cap, e = .returned (.tuple #[.slice ao 0 cap, .int .i64 71]) ∧ MapAt w' B f ∧ Kept (· = B) w w') :=
  (Many_nums B f w hm z hz).mono fun e w' ⟨ao, cap, he, hn, hl, hm', hk⟩ => by
    by_cases h : z ≤ (countN f : Int)
    · left
      unfold manyE manyI manyM at *
      rw [if_pos h] at he hn hm'
      rw [if_pos h] at he
      have hlen : ((manyL f z.toNat).map Int.ofNat).length = z.toNat := by rw [List.length_map, manyL_length]
      rw [hlen] at he
      exact ⟨z.toNat, ao, cap, by omega, he, hn, fun a ha => (hl a ha).1, hm', hk⟩
    · right
      unfold manyE manyI manyM at *
      rw [if_neg h] at he hn hm'
      rw [if_neg h] at he
      exact ⟨ao, cap, he, hm', hk⟩

theorem refSet_spans (f : Nat → Bool) (w : World) : Calls Try.prog 16 #[.agg (bools f)] w fun e w' => ∃ ao cap, e = .returned (.slice ao (runs f 4096).length cap) ∧ Spans w' ao (runs f 4096) ∧ Below w.heap.size w w' :=
  (refSet_any f w).mono fun e w' ⟨v, he, ho, hb⟩ => by
    obtain ⟨ao, cap, rfl, hs⟩ := ho.spans
    exact ⟨ao, cap, he, hs, hb⟩

theorem exec_load_arr {P : Program} {op : Oper} {a : Act} {w : World} (ty : TypeId) (x : Operand) (ho : op.op = .load ty x) (b : Nat) (hx : a.eval x = .pointer (some ⟨b, 0, none⟩)) (f : Nat → Bool) (T : TypeId) (d : TypeDesc) (hm : Marked w b T f)
    (hu : P.underlying ty = some d) (hd : d.isRow = true) (hi : (P.info? ty).map (·.size) = some (bools f).size) : (execOp a.eval op).run P w = .ok (.value (.agg (bools f))) w := by
  have hr : w.rangeAt b 0 (bools f).toList := fun j v hv => by
    rw [Nat.zero_add, cell_of_row w b j _ T (0, 0) hm]
    simpa using hv
  have := exec_load_mid (P := P) (op := op) (a := a) (w := w) ty x ho b 0 hx (bools f).toList d hr hu hd (by rw [hi]; simp)
  rwa [Array.toArray_toList] at this

theorem info_bools (f : Nat → Bool) : (Try.prog.info? 29).map (·.size) = some (bools f).size := by rw [bools_size]; kernel_rfl

end Go.Proofs.Ythnncohkdgaipaa
