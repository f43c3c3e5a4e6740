/- SlabB: the texts SlabH, SlabI, SlabJ, SlabK, one behind the other. -/
import Derived.Test.YtgdefibkemkejaaGSlab
import Derived.Test.YtgdefibkemkejaaGBase
import Derived.Deep.CutRange
import Derived.Deep.RegionWith
/- How a list of acts reads; what slabAlive answers; what is told of all sectors that are this. -/
namespace Go.Proofs.Ytgdefibkemkejaa
open Go.ChangeShapes Go.WideShapes Go.ChangeAt Go.RowKit Go.Deep
set_option linter.unusedVariables false
set_option maxRecDepth 20000

section
variable {H : Type} {enc : TypeId × Value → H} {W : World} {base : Nat} {v : Value} {d : DataW H} {p : List MemPlace}

end

theorem runs_none {f : Nat → Bool} (h : ∀ j, j < 4096 → f j = false) : runs f 4096 = [] := by
  have : ∀ k, k ≤ 4096 → runs f k = [] := by
    intro k
    induction k with
    | zero => intro _; rfl
    | succ k ih =>
      intro hk
      simp only [runs, h k (by omega)]
      simpa using ih (by omega)
  exact this 4096 (Nat.le_refl _)

/-- the mask of the sectors that are this -/
theorem maskOf_all (f : Nat → Nat) (s j : Nat) : maskOf (allL f s) j = (decide (j < 1024) && (f j == s)) := by
  unfold maskOf
  rw [Bool.eq_iff_iff]
  simp only [decide_eq_true_eq, Bool.and_eq_true, beq_iff_eq, allL_mem]
  constructor
  · rintro ⟨k, e, h1, h2⟩
    have : j = k := by omega
    subst this; exact ⟨h1, h2⟩
  · rintro ⟨h1, h2⟩; exact ⟨j, rfl, h1, h2⟩

/-- the set of the sectors that are this -/
def setS (f : Nat → Nat) (s : Nat) : List (Int × Int) := runs (maskOf (allL f s)) 4096
theorem setS_eq (f : Nat → Nat) (s : Nat) : setS f s = runs (fun j => decide (j < 1024) && (f j == s)) 4096 := runs_eq fun j _ => maskOf_all f s j
theorem setS_congr {f g : Nat → Nat} {s : Nat} (h : ∀ j, j < 1024 → (f j == s) = (g j == s)) : setS f s = setS g s := by
  rw [setS_eq, setS_eq]
  refine runs_eq fun j _ => ?_
  by_cases hj : j < 1024
  · rw [h j hj]
  · simp [hj]
theorem setS_none {f : Nat → Nat} {s : Nat} (h : ∀ j, j < 1024 → f j ≠ s) : setS f s = [] := by
  rw [setS_eq]
  refine runs_none fun j _ => ?_
  by_cases hj : j < 1024
  · simp [h j hj]
  · simp [hj]
theorem setS_fits (f : Nat → Nat) (s : Nat) : Fits (setS f s) := runs_fits _
theorem setS_len (f : Nat → Nat) (s : Nat) : (setS f s).length ≤ 4096 := runs_length _ _

theorem alive1 : allocO (newS 128) = some 64 := by decide +kernel
theorem alive2 : manyL (upd (newS 128) 64 2) 4 = [65, 66, 67, 4] := by decide +kernel
theorem alive3 : countN (upd (newS 128) 64 2) = 123 := by decide +kernel
theorem alive4 : countN (manyF (upd (newS 128) 64 2) 4) = 119 := by decide +kernel
theorem names1 : countN (newS 5000) = 1020 := by decide +kernel
theorem names2 : countN (newS 3) = 0 := by decide +kernel

end Go.Proofs.Ytgdefibkemkejaa

/- What laws ask of a map: contracts with slices written out; slabAlive. -/
namespace Go.Proofs.Ytgdefibkemkejaa
open Go.ChangeShapes Go.WideShapes Go.ChangeAt Go.RowKit
set_option linter.unusedVariables false
set_option maxRecDepth 20000

theorem Taken_set (B : Nat) (f : Nat → Nat) (w : World) (hm : MapAt w B f) : Calls Try.prog 20 #[.pointer (some ⟨B, 0, none⟩)] w fun e w' => ∃ ao cap, e = .returned (.slice ao (setS f 2).length cap) ∧ Spans w' ao (setS f 2) ∧ (∀ a, ao = some a → w.heap.size ≤ a.block) ∧ Below w.heap.size w w' :=
  (Taken_any B f w hm).mono fun e w' ⟨v, he, ho, hb⟩ => by
    obtain ⟨ao, cap, rfl, hs, hl⟩ := ho.shape
    exact ⟨ao, cap, he, hs, fun a ha => (hl a ha).1, hb⟩
theorem Spans.kept {w w' : World} {ao : Option Addr} {xs : List (Int × Int)} {F : Nat → Prop} (h : Spans w ao xs) (k : Kept F w w') (hF : ∀ a, ao = some a → ¬ F a.block) : Spans w' ao xs := by
  intro i hi
  obtain ⟨b, off, e, c1, c2⟩ := h i hi
  have hb := hF _ e
  exact ⟨b, off, e, (k.cell (cell_lt c1) hb).trans c1, (k.cell (cell_lt c2) hb).trans c2⟩

theorem New_at (total : Int) (w : World) (ht : I64 total) :
    Calls Try.prog 31 #[.int .i64 total] w fun e w' => ∃ B, e = .returned (.pointer (some ⟨B, 0, none⟩)) ∧ w.heap.size ≤ B ∧ MapAt w' B (newS total) ∧ Below w.heap.size w w' :=
  (New_map total w ht).mono fun e w' ⟨he, hm, hb⟩ => ⟨_, he, Nat.le_refl _, hm, hb⟩
theorem manyI_len (f : Nat → Nat) (n : Int) : (manyI f n).length ≤ 1024 := by
  unfold manyI
  split
  · rw [List.length_map, manyL_length]
    have := countN_le f
    omega
  · simp

theorem manyI_fits (f : Nat → Nat) (n : Int) : FitsI (manyI f n) := by
  refine ⟨?_, by have := manyI_len f n; omega⟩
  unfold manyI
  split
  · rename_i hle
    intro z hz
    have key : ∀ k, k ≤ countN f → ∀ i ∈ manyL f k, i < 1024 := by
      intro k
      induction k with
      | zero => intro _ i hi; rw [manyL_zero] at hi; cases hi
      | succ k ih =>
        intro hk i hi
        have hc := many_count k (Nat.le_of_succ_le hk)
        obtain ⟨j, h1, _, h3⟩ := many_step (f := f) (n := k) (by omega)
        rw [h3] at hi
        rcases List.mem_append.1 hi with h | h
        · exact ih (by omega) i h
        · simp at h; subst h; exact (allocO_some h1).1
    obtain ⟨i, hi, rfl⟩ := List.mem_map.1 hz
    have hlt := key n.toNat (by have := countN_le f; omega) i hi
    unfold I64
    have : (Int.ofNat i) = (i : Int) := rfl
    omega
  · intro z hz; cases hz

def aliveL : List Int := [65, 66, 67, 4]

theorem alive_nums (w : World) : Nums (w.alloc (.cells #[.int .i64 65, .int .i64 66, .int .i64 67, .int .i64 4] 3)) (some ⟨w.heap.size, 0, none⟩) aliveL := by
  intro i hi
  refine ⟨w.heap.size, 0, rfl, ?_⟩
  rw [Nat.zero_add, World.cell?_alloc_new]
  rcases i with _ | _ | _ | _ | i
  all_goals first | rfl | (simp [aliveL] at hi; omega)

end Go.Proofs.Ytgdefibkemkejaa

/- Plain facts that the laws about one sector need. -/
namespace Go.Proofs.Ytgdefibkemkejaa
open Go.ChangeShapes Go.WideShapes Go.ChangeAt Go.RowKit
set_option linter.unusedVariables false
set_option maxRecDepth 20000

/-- none waits -/
def Calm7 (f : Nat → Nat) : Prop := ∀ j, f j ≠ 3

theorem newS_calm (t : Int) : Calm7 (newS t) := by
  intro j h
  unfold newS at h
  split at h <;> omega

theorem upd_calm {f : Nat → Nat} (h : Calm7 f) {i v : Nat} (hv : v ≠ 3) : Calm7 (upd f i v) := by
  intro j
  unfold upd
  split
  · exact hv
  · exact h j

theorem take_calm {f : Nat → Nat} (h : Calm7 f) (i : Int) : Calm7 (turnF f i 1 2) := by
  unfold turnF
  split
  · exact upd_calm h (by omega)
  · exact h

theorem canTurn_yes {f : Nat → Nat} {i : Int} {a : Nat} (h : canTurn f i a = true) : ∃ n : Nat, i = n ∧ n < 1024 ∧ f n = a := by
  unfold canTurn at h
  simp only [Bool.and_eq_true, decide_eq_true_eq, beq_iff_eq] at h
  exact ⟨i.toNat, by omega, by omega, h.2⟩

theorem turn_yes {f : Nat → Nat} {n a : Nat} (b : Nat) (hn : n < 1024) (hf : f n = a) : turnE f (n : Int) a = 0 ∧ turnF f (n : Int) a b = upd f n b := by
  have h : canTurn f (n : Int) a = true := by rw [canTurn_nat f hn]; simp [hf]
  unfold turnE turnF
  rw [h]
  exact ⟨rfl, rfl⟩
theorem turn_no {f : Nat → Nat} {i : Int} {a : Nat} (b : Nat) (h : canTurn f i a = false) : turnE f i a = 72 ∧ turnF f i a b = f := by
  unfold turnE turnF
  rw [h]
  exact ⟨rfl, rfl⟩

theorem upd_back {f : Nat → Nat} {i a : Nat} (h : f i = a) (v : Nat) : upd (upd f i v) i a = f := by
  funext j
  unfold upd
  by_cases e : j = i
  · subst e; simp [h]
  · simp [e]
theorem upd_upd (f : Nat → Nat) (i v u : Nat) : upd (upd f i v) i u = upd f i u := by
  funext j
  unfold upd
  by_cases e : j = i <;> simp [e]

theorem commit_back {f : Nat → Nat} (h : Calm7 f) {i : Nat} (hf : f i = 1) : commitF (upd f i 3) = f := by
  funext j
  unfold commitF upd
  by_cases e : j = i
  · subst e; simp [hf]
  · have := h j
    simp [e, this]

theorem set_one {f : Nat → Nat} (h : Calm7 f) {i : Nat} (hi : i < 1024) : setS (upd f i 3) 3 = [((i : Int), 1)] := by
  rw [setS_eq]
  refine right_of_masks (runs_right _) ?_ fun j hj => ?_
  · simp [rightFrom, withinB]; omega
  · rw [runs_mask _ hj]
    unfold maskS
    rw [hasL_one]
    unfold upd
    rw [Bool.eq_iff_iff]
    simp only [Bool.and_eq_true, decide_eq_true_eq, beq_iff_eq]
    have := h j
    by_cases e : j = i
    · subst e; simp [hi]; omega
    · rw [if_neg e]
      constructor
      · rintro ⟨_, h3⟩; exact absurd h3 this
      · intro h3; omega

end Go.Proofs.Ytgdefibkemkejaa

/- What is had, what waits and what is free: plain facts; the document's Set with its slice written out. -/
namespace Go.Proofs.Ytgdefibkemkejaa
open Go.ChangeShapes Go.WideShapes Go.ChangeAt Go.RowKit
set_option linter.unusedVariables false
set_option maxRecDepth 20000

/-- a map of T sectors, what was given of it, and what waits -/
structure Apart7 (T : Nat) (f : Nat → Nat) (h v : Nat → Bool) : Prop where
  kind : ∀ j, j < 1024 → 4 ≤ j ∧ j < T ∧ (f j = 1 ∨ f j = 2 ∨ f j = 3) ∨ ¬ (4 ≤ j ∧ j < T) ∧ f j = 0
  had : ∀ j, j < 4096 → h j = (decide (j < 1024) && (f j == 2))
  wait : ∀ j, j < 4096 → v j = (decide (j < 1024) && (f j == 3))

def setB (h : Nat → Bool) (i : Nat) (b : Bool) : Nat → Bool := fun j => if j = i then b else h j

section
variable {T : Nat} {f : Nat → Nat} {h v : Nat → Bool}

theorem Apart7.start (h4 : 4 ≤ T) : Apart7 T (newS (T : Int)) (fun _ => false) (fun _ => false) := by
  refine ⟨fun j hj => ?_, fun j hj => ?_, fun j hj => ?_⟩
  · unfold newS
    by_cases c : 4 ≤ j ∧ (j : Int) < T ∧ j < 1024
    · rw [if_pos c]; exact .inl ⟨c.1, by omega, .inl rfl⟩
    · rw [if_neg c]; exact .inr ⟨fun c' => c ⟨c'.1, by omega, hj⟩, rfl⟩
  · have : newS (T : Int) j ≠ 2 := by unfold newS; split <;> omega
    simp [this]
  · have : newS (T : Int) j ≠ 3 := by unfold newS; split <;> omega
    simp [this]

theorem Apart7.free (a : Apart7 T f h v) {i : Nat} (hi : i < 1024) (hf : f i = 1) : 4 ≤ i ∧ i < T ∧ h i = false ∧ v i = false := by
  have h1 := a.kind i hi
  refine ⟨by omega, by omega, ?_, ?_⟩
  · rw [a.had i (by omega), hf]; simp
  · rw [a.wait i (by omega), hf]; simp

theorem Apart7.turned (a : Apart7 T f h v) {i n : Nat} {b c : Bool} (hi : i < 1024) (hf : f i ≠ 0) (hn : n = 1 ∨ n = 2 ∨ n = 3) (hb : b = (n == 2)) (hc : c = (n == 3)) : Apart7 T (upd f i n) (setB h i b) (setB v i c) := by
  refine ⟨fun j hj => ?_, fun j hj => ?_, fun j hj => ?_⟩
  · have h1 := a.kind j hj
    unfold upd
    by_cases e : j = i
    · subst e
      rw [if_pos rfl]
      exact .inl ⟨by omega, by omega, hn⟩
    · rw [if_neg e]; exact h1
  · unfold setB upd
    by_cases e : j = i
    · subst e; simp [hi, hb]
    · rw [if_neg e, if_neg e]; exact a.had j hj
  · unfold setB upd
    by_cases e : j = i
    · subst e; simp [hi, hc]
    · rw [if_neg e, if_neg e]; exact a.wait j hj

theorem setB_same {i : Nat} {b : Bool} (hb : h i = b) : setB h i b = h := by
  funext j
  unfold setB
  by_cases e : j = i
  · subst e; rw [if_pos rfl, hb]
  · rw [if_neg e]

theorem Apart7.give (a : Apart7 T f h v) {i : Nat} (hi : i < 1024) (hf : f i = 1) : Apart7 T (upd f i 2) (setB h i true) v := by
  have := a.turned (n := 2) (b := true) (c := false) hi (by omega) (by omega) rfl rfl
  rwa [setB_same (a.free hi hf).2.2.2] at this
theorem Apart7.back (a : Apart7 T f h v) {i : Nat} (hi : i < 1024) (hf : f i = 2) : h i = true ∧ v i = false ∧ Apart7 T (upd f i 1) (setB h i false) v ∧ Apart7 T (upd f i 3) (setB h i false) (setB v i true) := by
  have h1 : h i = true := by rw [a.had i (by omega), hf]; simp [hi]
  have h2 : v i = false := by rw [a.wait i (by omega), hf]; simp
  refine ⟨h1, h2, ?_, a.turned (n := 3) (b := false) (c := true) hi (by omega) (by omega) rfl rfl⟩
  have := a.turned (n := 1) (b := false) (c := false) hi (by omega) (by omega) rfl rfl
  rwa [setB_same h2] at this
theorem Apart7.not (a : Apart7 T f h v) {i : Nat} (hi : i < 1024) (hf : f i ≠ 2) : h i = false ∧ setB h i false = h := by
  have h1 : h i = false := by rw [a.had i (by omega)]; simp [hf]
  exact ⟨h1, setB_same h1⟩
theorem Apart7.commit (a : Apart7 T f h v) : Apart7 T (commitF f) h (fun _ => false) := by
  refine ⟨fun j hj => ?_, fun j hj => ?_, fun j hj => ?_⟩
  · have h1 := a.kind j hj
    unfold commitF
    split
    · exact .inl ⟨by omega, by omega, .inl rfl⟩
    · exact h1
  · rw [a.had j hj]
    unfold commitF
    by_cases e : f j = 3
    · rw [if_pos e, e]; simp
    · rw [if_neg e]
  · unfold commitF
    by_cases e : f j = 3
    · rw [if_pos e]; simp
    · rw [if_neg e]; simp [e]

theorem Apart7.sets (a : Apart7 T f h v) : setS f 2 = runs h 4096 ∧ setS f 3 = runs v 4096 := by
  rw [setS_eq, setS_eq]
  exact ⟨runs_eq fun j hj => (a.had j hj).symm, runs_eq fun j hj => (a.wait j hj).symm⟩

theorem nums_cnt (g : Nat → Bool) (k : Nat) : (numsL g k).length = cntF g k := by
  induction k with
  | zero => rfl
  | succ k ih =>
    rw [numsL_succ]
    simp only [cntF]
    cases hg : g k
    · simp [ih]
    · simp [ih]

theorem cnt_low {g : Nat → Bool} (hg : ∀ j, 1024 ≤ j → j < 4096 → g j = false) : cntF g 4096 = cntF g 1024 := by
  rw [show (4096 : Nat) = 1024 + 3072 from rfl, cntF_add]
  have : cntF (fun j => g (1024 + j)) 3072 = 0 := cntF_zero.2 fun j hj => hg _ (by omega) (by omega)
  rw [this, Nat.add_zero]

theorem cnt_range (T k : Nat) : cntF (fun j => decide (4 ≤ j ∧ j < T)) k = min k T - 4 := by
  induction k with
  | zero => simp [cntF]
  | succ k ih =>
    simp only [cntF, ih]
    by_cases c : 4 ≤ k ∧ k < T
    · rw [if_pos (by simpa using c)]; omega
    · rw [if_neg (by simpa using c)]; omega

theorem Apart7.count (a : Apart7 T f h v) (hT : T ≤ 1024) : (numsL (maskS (runs h 4096)) 4096).length + (numsL (maskS (runs v 4096)) 4096).length + countN f = T - 4 := by
  rw [nums_cnt, nums_cnt, cntF_congr (fun j hj => runs_mask h hj), cntF_congr (fun j hj => runs_mask v hj)]
  rw [cnt_low fun j h1 h2 => by rw [a.had j h2]; simp; omega, cnt_low fun j h1 h2 => by rw [a.wait j h2]; simp; omega, countN_eq]
  rw [cntF_three (t := fun j => decide (4 ≤ j ∧ j < T)), cnt_range]
  · omega
  · intro j hj
    have h1 := a.kind j hj
    rw [a.had j (by omega), a.wait j (by omega)]
    have e : decide (j < 1024) = true := by simpa using hj
    rw [e]
    simp only [Bool.true_and]
    rcases h1 with ⟨c1, c2, c3⟩ | ⟨c1, c2⟩
    · rw [if_pos (c := decide (4 ≤ j ∧ j < T) = true) (by simp; omega)]
      rcases c3 with e | e | e <;> rw [e] <;> rfl
    · rw [if_neg (c := decide (4 ≤ j ∧ j < T) = true) (by simp; omega), c2]; rfl
end

theorem Marked.kept7 {w w' : World} {B T : Nat} {f : Nat → Bool} {F : Nat → Prop} (h : Marked w B T f) (k : Kept F w w') (hn : ¬ F B) : Marked w' B T f := (k.block B h.lt hn).trans h

theorem manyL_get (f : Nat → Nat) {t : Nat} : ∀ N, t < N → (manyL f N)[t]? = some ((allocO (manyF f t)).getD 0) := by
  intro N
  induction N with
  | zero => intro h; omega
  | succ N ih =>
    intro h
    rw [manyL_succ]
    by_cases e : t = N
    · subst e
      rw [List.getElem?_append_right (by rw [manyL_length]; omega), manyL_length]
      simp
    · rw [List.getElem?_append_left (by rw [manyL_length]; omega)]
      exact ih (by omega)

/-- the sector that is given as the t-th of many -/
theorem many_at {f : Nat → Nat} {N t : Nat} (hN : N ≤ countN f) (ht : t < N) : ∃ i, i < 1024 ∧ manyF f t i = 1 ∧ manyF f (t + 1) = upd (manyF f t) i 2 ∧ ((manyL f N).map Int.ofNat)[t]? = some (i : Int) := by
  have h1 := many_count (f := f) t (by omega)
  obtain ⟨i, h2, h3, _⟩ := many_step (f := f) (n := t) (by omega)
  obtain ⟨h4, h5, _, _⟩ := allocO_some h2
  refine ⟨i, h4, h5, h3, ?_⟩
  rw [List.getElem?_map, manyL_get f N ht, h2]
  rfl

theorem refSet_spans (f : Nat → Bool) (w : World) : Calls Try.prog 21 #[.agg (bools f)] w fun e w' => ∃ ao cap, e = .returned (.slice ao (runs f 4096).length cap) ∧ Spans w' ao (runs f 4096) ∧ Below w.heap.size w w' :=
  (refSet_any f w).mono fun e w' ⟨v, he, ho, hb⟩ => by
    obtain ⟨ao, cap, rfl, hs⟩ := ho.spans
    exact ⟨ao, cap, he, hs, hb⟩

theorem exec_load_arr {P : Program} {op : Oper} {a : Act} {w : World} (ty : TypeId) (x : Operand) (ho : op.op = .load ty x) (b : Nat) (hx : a.eval x = .pointer (some ⟨b, 0, none⟩)) (f : Nat → Bool) (T : TypeId) (d : TypeDesc) (hm : Marked w b T f)
    (hu : P.underlying ty = some d) (hd : d.isRow = true) (hi : (P.info? ty).map (·.size) = some (bools f).size) : (execOp a.eval op).run P w = .ok (.value (.agg (bools f))) w := by
  have hr : w.rangeAt b 0 (bools f).toList := fun j v hv => by
    rw [Nat.zero_add, cell_of_row w b j _ T (0, 0) hm]
    simpa using hv
  have := exec_load_mid (P := P) (op := op) (a := a) (w := w) ty x ho b 0 hx (bools f).toList d hr hu hd (by rw [hi]; simp)
  rwa [Array.toArray_toList] at this

theorem info_bools (f : Nat → Bool) : (Try.prog.info? 53).map (·.size) = some (bools f).size := by rw [bools_size]; kernel_rfl

end Go.Proofs.Ytgdefibkemkejaa
