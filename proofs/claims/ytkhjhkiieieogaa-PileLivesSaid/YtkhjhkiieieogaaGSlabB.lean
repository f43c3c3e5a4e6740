/- SlabB: the texts SlabH, SlabI, one behind the other. -/
import Derived.Test.YtkhjhkiieieogaaGSlab
import Derived.Test.YtkhjhkiieieogaaGBase
/- How a list of acts reads; what slabAlive answers; what is told of all sectors that are this. -/
namespace Go.Proofs.Ytkhjhkiieieogaa
open Go.ChangeShapes Go.WideShapes Go.ChangeAt Go.RowKit Go.Deep
set_option linter.unusedVariables false
set_option maxRecDepth 20000

section
variable {H : Type} {enc : TypeId × Value → H} {W : World} {base : Nat} {v : Value} {d : DataW H} {p : List MemPlace}

end

theorem runs_none {f : Nat → Bool} (h : ∀ j, j < 4096 → f j = false) : runs f 4096 = [] := by
  have : ∀ k, k ≤ 4096 → runs f k = [] := by
    intro k
    induction k with
    | zero => intro _; rfl
    | succ k ih =>
      intro hk
      simp only [runs, h k (by omega)]
      simpa using ih (by omega)
  exact this 4096 (Nat.le_refl _)

/-- the mask of the sectors that are this -/
theorem maskOf_all (f : Nat → Nat) (s j : Nat) : maskOf (allL f s) j = (decide (j < 1024) && (f j == s)) := by
  unfold maskOf
  rw [Bool.eq_iff_iff]
  simp only [decide_eq_true_eq, Bool.and_eq_true, beq_iff_eq, allL_mem]
  constructor
  · rintro ⟨k, e, h1, h2⟩
    have : j = k := by omega
    subst this; exact ⟨h1, h2⟩
  · rintro ⟨h1, h2⟩; exact ⟨j, rfl, h1, h2⟩

/-- the set of the sectors that are this -/
def setS (f : Nat → Nat) (s : Nat) : List (Int × Int) := runs (maskOf (allL f s)) 4096
theorem setS_eq (f : Nat → Nat) (s : Nat) : setS f s = runs (fun j => decide (j < 1024) && (f j == s)) 4096 := runs_eq fun j _ => maskOf_all f s j
theorem setS_congr {f g : Nat → Nat} {s : Nat} (h : ∀ j, j < 1024 → (f j == s) = (g j == s)) : setS f s = setS g s := by
  rw [setS_eq, setS_eq]
  refine runs_eq fun j _ => ?_
  by_cases hj : j < 1024
  · rw [h j hj]
  · simp [hj]
theorem setS_none {f : Nat → Nat} {s : Nat} (h : ∀ j, j < 1024 → f j ≠ s) : setS f s = [] := by
  rw [setS_eq]
  refine runs_none fun j _ => ?_
  by_cases hj : j < 1024
  · simp [h j hj]
  · simp [hj]
theorem setS_fits (f : Nat → Nat) (s : Nat) : Fits (setS f s) := runs_fits _
theorem setS_len (f : Nat → Nat) (s : Nat) : (setS f s).length ≤ 4096 := runs_length _ _

theorem alive1 : allocO (newS 128) = some 64 := by decide +kernel
theorem alive2 : manyL (upd (newS 128) 64 2) 4 = [65, 66, 67, 4] := by decide +kernel
theorem alive3 : countN (upd (newS 128) 64 2) = 123 := by decide +kernel
theorem alive4 : countN (manyF (upd (newS 128) 64 2) 4) = 119 := by decide +kernel
theorem names1 : countN (newS 5000) = 1020 := by decide +kernel
theorem names2 : countN (newS 3) = 0 := by decide +kernel

end Go.Proofs.Ytkhjhkiieieogaa

/- What laws ask of a map: contracts with slices written out; slabAlive. -/
namespace Go.Proofs.Ytkhjhkiieieogaa
open Go.ChangeShapes Go.WideShapes Go.ChangeAt Go.RowKit
set_option linter.unusedVariables false
set_option maxRecDepth 20000

theorem Taken_set (B : Nat) (f : Nat → Nat) (w : World) (hm : MapAt w B f) : Calls Try.prog 36 #[.pointer (some ⟨B, 0, none⟩)] w fun e w' => ∃ ao cap, e = .returned (.slice ao (setS f 2).length cap) ∧ Spans w' ao (setS f 2) ∧ (∀ a, ao = some a → w.heap.size ≤ a.block) ∧ Below w.heap.size w w' :=
  (Taken_any B f w hm).mono fun e w' ⟨v, he, ho, hb⟩ => by
    obtain ⟨ao, cap, rfl, hs, hl⟩ := ho.shape
    exact ⟨ao, cap, he, hs, fun a ha => (hl a ha).1, hb⟩
theorem Spans.kept {w w' : World} {ao : Option Addr} {xs : List (Int × Int)} {F : Nat → Prop} (h : Spans w ao xs) (k : Kept F w w') (hF : ∀ a, ao = some a → ¬ F a.block) : Spans w' ao xs := by
  intro i hi
  obtain ⟨b, off, e, c1, c2⟩ := h i hi
  have hb := hF _ e
  exact ⟨b, off, e, (k.cell (cell_lt c1) hb).trans c1, (k.cell (cell_lt c2) hb).trans c2⟩

theorem New_at (total : Int) (w : World) (ht : I64 total) :
    Calls Try.prog 23 #[.int .i64 total] w fun e w' => ∃ B, e = .returned (.pointer (some ⟨B, 0, none⟩)) ∧ w.heap.size ≤ B ∧ MapAt w' B (newS total) ∧ Below w.heap.size w w' :=
  (New_map total w ht).mono fun e w' ⟨he, hm, hb⟩ => ⟨_, he, Nat.le_refl _, hm, hb⟩
theorem manyI_len (f : Nat → Nat) (n : Int) : (manyI f n).length ≤ 1024 := by
  unfold manyI
  split
  · rw [List.length_map, manyL_length]
    have := countN_le f
    omega
  · simp

theorem manyI_fits (f : Nat → Nat) (n : Int) : FitsI (manyI f n) := by
  refine ⟨?_, by have := manyI_len f n; omega⟩
  unfold manyI
  split
  · rename_i hle
    intro z hz
    have key : ∀ k, k ≤ countN f → ∀ i ∈ manyL f k, i < 1024 := by
      intro k
      induction k with
      | zero => intro _ i hi; rw [manyL_zero] at hi; cases hi
      | succ k ih =>
        intro hk i hi
        have hc := many_count k (Nat.le_of_succ_le hk)
        obtain ⟨j, h1, _, h3⟩ := many_step (f := f) (n := k) (by omega)
        rw [h3] at hi
        rcases List.mem_append.1 hi with h | h
        · exact ih (by omega) i h
        · simp at h; subst h; exact (allocO_some h1).1
    obtain ⟨i, hi, rfl⟩ := List.mem_map.1 hz
    have hlt := key n.toNat (by have := countN_le f; omega) i hi
    unfold I64
    have : (Int.ofNat i) = (i : Int) := rfl
    omega
  · intro z hz; cases hz

def aliveL : List Int := [65, 66, 67, 4]

theorem alive_nums (w : World) : Nums (w.alloc (.cells #[.int .i64 65, .int .i64 66, .int .i64 67, .int .i64 4] 3)) (some ⟨w.heap.size, 0, none⟩) aliveL := by
  intro i hi
  refine ⟨w.heap.size, 0, rfl, ?_⟩
  rw [Nat.zero_add, World.cell?_alloc_new]
  rcases i with _ | _ | _ | _ | i
  all_goals first | rfl | (simp [aliveL] at hi; omega)

end Go.Proofs.Ytkhjhkiieieogaa
