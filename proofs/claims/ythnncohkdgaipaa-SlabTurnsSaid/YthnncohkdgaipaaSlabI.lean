/- What laws ask of a map: contracts with slices written out; slabAlive. -/
import Derived.Test.YthnncohkdgaipaaSlabH
namespace Go.Proofs.Ythnncohkdgaipaa
open Go.ChangeShapes Go.WideShapes Go.ChangeAt Go.RowKit
set_option linter.unusedVariables false
set_option maxRecDepth 20000

theorem Taken_set (B : Nat) (f : Nat → Nat) (w : World) (hm : MapAt w B f) : Calls Try.prog 11 #[.pointer (some ⟨B, 0, none⟩)] w fun e w' => ∃ ao cap, e = .returned (.slice ao (setS f 2).length cap) ∧ Spans w' ao (setS f 2) ∧ (∀ a, ao = some a → w.heap.size ≤ a.block) ∧ Below w.heap.size w w' :=
  (Taken_any B f w hm).mono fun e w' ⟨v, he, ho, hb⟩ => by
    obtain ⟨ao, cap, rfl, hs, hl⟩ := ho.shape
    exact ⟨ao, cap, he, hs, fun a ha => (hl a ha).1, hb⟩
theorem Waiting_set (B : Nat) (f : Nat → Nat) (w : World) (hm : MapAt w B f) : Calls Try.prog 18 #[.pointer (some ⟨B, 0, none⟩)] w fun e w' => ∃ ao cap, e = .returned (.slice ao (setS f 3).length cap) ∧ Spans w' ao (setS f 3) ∧ (∀ a, ao = some a → w.heap.size ≤ a.block) ∧ Below w.heap.size w w' :=
  (Waiting_any B f w hm).mono fun e w' ⟨v, he, ho, hb⟩ => by
    obtain ⟨ao, cap, rfl, hs, hl⟩ := ho.shape
    exact ⟨ao, cap, he, hs, fun a ha => (hl a ha).1, hb⟩
theorem Many_nums (B : Nat) (f : Nat → Nat) (w : World) (hm : MapAt w B f) (n : Int) (hn : I64 n) : Calls Try.prog 12 #[.pointer (some ⟨B, 0, none⟩), .int .i64 n] w fun e w' =>
    ∃ ao cap, e = .returned (.tuple #[.slice ao (manyI f n).length cap, .int .i64 (manyE f n)]) ∧ Nums w' ao (manyI f n) ∧ (∀ a, ao = some a → w.heap.size ≤ a.block ∧ a.block < w'.heap.size) ∧ MapAt w' B (manyM f n) ∧ Kept (· = B) w w' :=
  (Many_any B f n w hm hn).mono fun e w' ⟨v, he, ho, h1, h2⟩ => by
    obtain ⟨ao, cap, rfl, hs, hl⟩ := ho.shape
    exact ⟨ao, cap, he, hs, hl, h1, h2⟩

theorem Spans.kept {w w' : World} {ao : Option Addr} {xs : List (Int × Int)} {F : Nat → Prop} (h : Spans w ao xs) (k : Kept F w w') (hF : ∀ a, ao = some a → ¬ F a.block) : Spans w' ao xs := by
  intro i hi
  obtain ⟨b, off, e, c1, c2⟩ := h i hi
  have hb := hF _ e
  exact ⟨b, off, e, (k.cell (cell_lt c1) hb).trans c1, (k.cell (cell_lt c2) hb).trans c2⟩

theorem New_at (total : Int) (w : World) (ht : I64 total) :
    Calls Try.prog 9 #[.int .i64 total] w fun e w' => ∃ B, e = .returned (.pointer (some ⟨B, 0, none⟩)) ∧ w.heap.size ≤ B ∧ MapAt w' B (newS total) ∧ Below w.heap.size w w' :=
  (New_map total w ht).mono fun e w' ⟨he, hm, hb⟩ => ⟨_, he, Nat.le_refl _, hm, hb⟩
theorem Copy_at (B : Nat) (f : Nat → Nat) (w : World) (hm : MapAt w B f) :
    Calls Try.prog 22 #[.pointer (some ⟨B, 0, none⟩)] w fun e w' => ∃ C, e = .returned (.pointer (some ⟨C, 0, none⟩)) ∧ w.heap.size ≤ C ∧ MapAt w' C f ∧ Below w.heap.size w w' :=
  (Copy_any B f w hm).mono fun e w' ⟨he, hm, hb⟩ => ⟨_, he, Nat.le_refl _, hm, hb⟩

theorem manyI_len (f : Nat → Nat) (n : Int) : (manyI f n).length ≤ 1024 := by
  unfold manyI
  split
  · rw [List.length_map, manyL_length]
    have := countN_le f
    omega
  · simp

theorem manyI_fits (f : Nat → Nat) (n : Int) : FitsI (manyI f n) := by
  refine ⟨?_, by have := manyI_len f n; omega⟩
  unfold manyI
  split
  · rename_i hle
    intro z hz
    have key : ∀ k, k ≤ countN f → ∀ i ∈ manyL f k, i < 1024 := by
      intro k
      induction k with
      | zero => intro _ i hi; rw [manyL_zero] at hi; cases hi
      | succ k ih =>
        intro hk i hi
        have hc := many_count k (Nat.le_of_succ_le hk)
        obtain ⟨j, h1, _, h3⟩ := many_step (f := f) (n := k) (by omega)
        rw [h3] at hi
        rcases List.mem_append.1 hi with h | h
        · exact ih (by omega) i h
        · simp at h; subst h; exact (allocO_some h1).1
    obtain ⟨i, hi, rfl⟩ := List.mem_map.1 hz
    have hlt := key n.toNat (by have := countN_le f; omega) i hi
    unfold I64
    have : (Int.ofNat i) = (i : Int) := rfl
    omega
  · intro z hz; cases hz

def aliveL : List Int := [65, 66, 67, 4]

theorem alive_nums (w : World) : Nums (w.alloc (.cells #[.int .i64 65, .int .i64 66, .int .i64 67, .int .i64 4] 3)) (some ⟨w.heap.size, 0, none⟩) aliveL := by
  intro i hi
  refine ⟨w.heap.size, 0, rfl, ?_⟩
  rw [Nat.zero_add, World.cell?_alloc_new]
  rcases i with _ | _ | _ | _ | i
  all_goals first | rfl | (simp [aliveL] at hi; omega)

set_option maxHeartbeats 2000000 in
theorem slabAlive_any (w : World) : Calls Try.prog 8 #[] w fun e w' => e = .returned (.bool true) ∧ Below w.heap.size w w' := by
  obtain ⟨f0, hf0⟩ : ∃ f, f = newS 128 := ⟨_, rfl⟩
  have Hf0 := Lib.hid hf0
  have hN : Hid (Calls Try.prog 9 #[.int .i64 128] w fun e w' => e = .returned (.pointer (some ⟨w.heap.size, 0, none⟩)) ∧ MapAt w' w.heap.size f0 ∧ Below w.heap.size w w') := Lib.hid (by rw [hf0]; exact New_map 128 w (by unfold I64; omega))
  have ha : Hid (allocI f0 = 64 ∧ allocE f0 = 0 ∧ updO f0 (allocO f0) = upd f0 64 2) := Lib.hid (by rw [hf0]; unfold allocI allocE; rw [alive1]; exact ⟨rfl, rfl, rfl⟩)
  obtain ⟨f1, hf1⟩ : ∃ f, f = upd f0 64 2 := ⟨_, rfl⟩
  have hc : countN f1 = 123 := by rw [hf1, hf0]; exact alive3
  obtain ⟨x1, x2, x3⟩ := manyI_yes f1 (n := 4) (by omega)
  obtain ⟨f2, hf2⟩ : ∃ f, f = manyF f1 4 := ⟨_, rfl⟩
  have hc2 : Hid (countN f2 = 119) := Lib.hid (by rw [hf2, hf1, hf0]; exact alive4)
  have hm : Hid (manyE f1 4 = 0 ∧ manyI f1 4 = aliveL ∧ manyM f1 4 = f2) := Lib.hid ⟨x1, by
    have : manyI f1 4 = (manyL f1 4).map Int.ofNat := x2
    rw [this, hf1, hf0, alive2]; rfl, by rw [hf2]; exact x3⟩
  have Hf1 := Lib.hid hf1
  clear hf0 hf1 hf2 hc x1 x2 x3
  go_enter Try.func8, Try.ntmps8
  go_wp2_with fail
  refine hN.out.mono ?_
  rintro e w1 ⟨rfl, m1, b1⟩
  have b1 := Lib.hid b1
  have hlt1 := m1.lt
  have m1 := Lib.hid m1
  clear hN
  go_wp2_with fail
  refine (Alloc_any _ _ w1 m1.out).mono ?_
  rintro e w2 ⟨rfl, m2, k2⟩
  rw [ha.out.1, ha.out.2.1]
  rw [ha.out.2.2, ← Hf1.out] at m2
  have b2 : Hid (Below w.heap.size w w2) := Lib.hid (Kept.out b1.out k2 (fun i _ e => by omega) (by omega))
  have hs2 := k2.size
  have m2 := Lib.hid m2
  clear k2
  go_wp2_with fail
  refine (Many_nums _ _ w2 m2.out 4 (by unfold I64; omega)).mono ?_
  rintro e w3 ⟨ao, cap, rfl, hn, hl, m3, k3⟩
  rw [hm.out.1, hm.out.2.1]
  rw [hm.out.2.1] at hn
  rw [hm.out.2.2] at m3
  have b3 : Hid (Below w.heap.size w w3) := Lib.hid (Kept.out b2.out k3 (fun i _ e => by omega) (by omega))
  have hs3 := k3.size
  have m3 := Lib.hid m3
  have hn := Lib.hid hn
  clear k3 hl
  go_wp2_with fail
  have q := alive_nums w3
  refine (SameInts_any ao (some ⟨w3.heap.size, 0, none⟩) cap _ aliveL aliveL _ (hn.out.below ((Below.refl _ _).alloc (Nat.le_refl _) _)) q ⟨fun z hz => by simp [aliveL] at hz; unfold I64; omega, by simp [aliveL]⟩ ⟨fun z hz => by simp [aliveL] at hz; unfold I64; omega, by simp [aliveL]⟩).mono ?_
  rintro e w4 ⟨rfl, b4⟩
  rw [decide_eq_true rfl]
  have b4' : Below w3.heap.size w3 w4 := ((Below.refl _ _).alloc (Nat.le_refl _) _).trans (b4.mono (by simp))
  have m4 : MapAt w4 w.heap.size f2 := m3.out.below b4' m3.out.lt
  have b4 : Hid (Below w.heap.size w w4) := Lib.hid (b3.out.trans (b4'.mono (by omega)))
  have m4 := Lib.hid m4
  clear q b4'
  go_wp2_with fail
  refine (Count_map _ _ w4 m4.out).mono ?_
  rintro e w5 ⟨rfl, rfl⟩
  rw [hc2.out]
  go_wp2
  go_ret
  exact ⟨rfl, b4.out⟩
end Go.Proofs.Ythnncohkdgaipaa
