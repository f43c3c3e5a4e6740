/- How a list of acts reads; what slabAlive answers; what is told of all sectors that are this. -/
import Derived.Test.YthnncohkdgaipaaSlabE
import Derived.Test.YthnncohkdgaipaaSlabG
import Derived.Test.YthnncohkdgaipaaArgs
namespace Go.Proofs.Ythnncohkdgaipaa
open Go.ChangeShapes Go.WideShapes Go.ChangeAt Go.RowKit Go.Deep
set_option linter.unusedVariables false
set_option maxRecDepth 20000

section
variable {H : Type} {enc : TypeId × Value → H} {W : World} {base : Nat} {v : Value} {d : DataW H} {p : List MemPlace}

theorem arg_acts7 (h : DataW.Trod enc Try.prog W 0 (fun _ => true) true 28 v d p)
    (hv : Value.okWide Try.prog W .any base 28 v)
    (hw : ∀ es sp, d = .slice es sp → (es.length + sp.length) * Try.prog.bytesOf 31 ≤ reachBytes) : ∃ ao xs cap, v = .slice ao xs.length cap ∧ Spans W ao xs ∧ Fits xs ∧ (ao = none → xs = [] ∧ cap = 0) := by
  obtain ⟨a, len, cap, rfl⟩ := okWide_slice Try.underlying28 hv
  obtain ⟨fuel, hf⟩ := h
  rcases open_slice_pairs Try.underlying28 Try.underlying31 (by kernel_rfl) rfl rfl (by kernel_rfl) (by kernel_rfl) hf with ⟨hcs, _⟩ | ⟨a', len', cap', m, n, V0, V1, D0, D1, P0, P1, hcs, _, hl, hm, hmm, hx, hc⟩
  · simp [Value.cells] at hcs
    obtain ⟨rfl, rfl, rfl⟩ := hcs
    exact ⟨none, [], 0, rfl, fun i hi => by simp at hi, ⟨fun q hq => (by cases hq), by simp⟩, fun _ => ⟨rfl, rfl⟩⟩
  · simp [Value.cells] at hcs
    obtain ⟨rfl, rfl, rfl⟩ := hcs
    have hlm : len ≤ m := by rw [hmm]; split <;> omega
    simp only [Prod.mk.injEq] at hx
    have hwt := hw _ _ hx.1
    simp only [List.length_map, List.length_range] at hwt
    have hb16 : Try.prog.bytesOf 31 = 16 := by kernel_rfl
    rw [hb16] at hwt
    unfold reachBytes at hwt
    have each : ∀ i, i < len → ∃ q : Int × Int, V0 i = .int .i64 q.1 ∧ V1 i = .int .i64 q.2 ∧ I64 q.1 ∧ I64 q.2 := by
      intro i hi
      obtain ⟨_, _, h0, h1⟩ := hc i (by omega)
      obtain ⟨z0, e0, _, w0⟩ := DataW.trod_int Try.underlying3 h0
      obtain ⟨z1, e1, _, w1⟩ := DataW.trod_int Try.underlying3 h1
      simp at e0 e1
      exact ⟨(z0, z1), e0, e1, sWf_i64 w0, sWf_i64 w1⟩
    obtain ⟨q, hq⟩ := choose_lt each
    refine ⟨some a', (List.range len).map q, cap, by simp, ?_, ?_, fun h => by cases h⟩
    · intro i hi
      have hi' : i < len := by simpa using hi
      obtain ⟨c0, c1, _, _⟩ := hc i (by omega)
      obtain ⟨b, off, spot⟩ := a'
      have hspot : spot = none := by
        obtain ⟨c00, _, _, _⟩ := hc 0 (by omega)
        simpa [Addr.add] using World.cell?_spot c00
      subst hspot
      rw [Go.WideShapes.add_plain] at c0 c1
      refine ⟨b, off, rfl, ?_, ?_⟩
      · rw [c0, (hq i hi').1]; simp
      · rw [show off + i * 2 + 1 = off + (i * 2 + 1) from by omega, c1, (hq i hi').2.1]; simp
    · refine ⟨fun z hz => ?_, by simp; omega⟩
      simp only [List.mem_map, List.mem_range] at hz
      obtain ⟨i, hi, rfl⟩ := hz
      exact (hq i hi).2.2

end

theorem runs_none {f : Nat → Bool} (h : ∀ j, j < 4096 → f j = false) : runs f 4096 = [] := by
  have : ∀ k, k ≤ 4096 → runs f k = [] := by
    intro k
    induction k with
    | zero => intro _; rfl
    | succ k ih =>
      intro hk
      simp only [runs, h k (by omega)]
      simpa using ih (by omega)
  exact this 4096 (Nat.le_refl _)

/-- the mask of the sectors that are this -/
theorem maskOf_all (f : Nat → Nat) (s j : Nat) : maskOf (allL f s) j = (decide (j < 1024) && (f j == s)) := by
  unfold maskOf
  rw [Bool.eq_iff_iff]
  simp only [decide_eq_true_eq, Bool.and_eq_true, beq_iff_eq, allL_mem]
  constructor
  · rintro ⟨k, e, h1, h2⟩
    have : j = k := by omega
    subst this; exact ⟨h1, h2⟩
  · rintro ⟨h1, h2⟩; exact ⟨j, rfl, h1, h2⟩

/-- the set of the sectors that are this -/
def setS (f : Nat → Nat) (s : Nat) : List (Int × Int) := runs (maskOf (allL f s)) 4096
theorem setS_eq (f : Nat → Nat) (s : Nat) : setS f s = runs (fun j => decide (j < 1024) && (f j == s)) 4096 := runs_eq fun j _ => maskOf_all f s j
theorem setS_congr {f g : Nat → Nat} {s : Nat} (h : ∀ j, j < 1024 → (f j == s) = (g j == s)) : setS f s = setS g s := by
  rw [setS_eq, setS_eq]
  refine runs_eq fun j _ => ?_
  by_cases hj : j < 1024
  · rw [h j hj]
  · simp [hj]
theorem setS_none {f : Nat → Nat} {s : Nat} (h : ∀ j, j < 1024 → f j ≠ s) : setS f s = [] := by
  rw [setS_eq]
  refine runs_none fun j _ => ?_
  by_cases hj : j < 1024
  · simp [h j hj]
  · simp [hj]
theorem setS_fits (f : Nat → Nat) (s : Nat) : Fits (setS f s) := runs_fits _
theorem setS_len (f : Nat → Nat) (s : Nat) : (setS f s).length ≤ 4096 := runs_length _ _

theorem alive1 : allocO (newS 128) = some 64 := by decide +kernel
theorem alive2 : manyL (upd (newS 128) 64 2) 4 = [65, 66, 67, 4] := by decide +kernel
theorem alive3 : countN (upd (newS 128) 64 2) = 123 := by decide +kernel
theorem alive4 : countN (manyF (upd (newS 128) 64 2) 4) = 119 := by decide +kernel
theorem names1 : countN (newS 5000) = 1020 := by decide +kernel
theorem names2 : countN (newS 3) = 0 := by decide +kernel

end Go.Proofs.Ythnncohkdgaipaa
