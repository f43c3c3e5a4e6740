/- What each sector of a map is, and what follows of it: plain facts about counts, rooms, the first free one. -/
import Derived.Test.YthnncohkdgaipaaKit
namespace Go.Proofs.Ythnncohkdgaipaa
set_option linter.unusedVariables false

/-- how many of the first k are so -/
def cntF (g : Nat → Bool) : Nat → Nat
  | 0 => 0
  | k + 1 => cntF g k + if g k then 1 else 0

theorem cntF_le (g : Nat → Bool) (k : Nat) : cntF g k ≤ k := by
  induction k with
  | zero => simp [cntF]
  | succ k ih => simp only [cntF]; split <;> omega

theorem cntF_congr {g h : Nat → Bool} {k : Nat} (e : ∀ j, j < k → g j = h j) : cntF g k = cntF h k := by
  induction k with
  | zero => rfl
  | succ k ih => simp only [cntF]; rw [ih fun j hj => e j (by omega), e k (by omega)]

theorem cntF_zero {g : Nat → Bool} {k : Nat} : cntF g k = 0 ↔ ∀ j, j < k → g j = false := by
  induction k with
  | zero => simp [cntF]
  | succ k ih =>
    simp only [cntF]
    constructor
    · intro h j hj
      have h1 : cntF g k = 0 := by omega
      have h2 : g k = false := by cases hg : g k <;> simp [hg] at h ⊢
      by_cases e : j = k
      · rw [e, h2]
      · exact ih.1 h1 j (by omega)
    · intro h
      rw [ih.2 fun j hj => h j (by omega), h k (by omega)]; simp

theorem cntF_add (g : Nat → Bool) (a b : Nat) : cntF g (a + b) = cntF g a + cntF (fun j => g (a + j)) b := by
  induction b with
  | zero => simp [cntF]
  | succ b ih => rw [← Nat.add_assoc]; simp only [cntF]; rw [ih]; omega

/-- one that was so isn't any more -/
theorem cntF_flip {g h : Nat → Bool} {i : Nat} (hg : g i = true) (hh : h i = false) (e : ∀ j, j ≠ i → g j = h j) : ∀ k, i < k → cntF g k = cntF h k + 1 := by
  intro k hk
  obtain ⟨m, rfl⟩ : ∃ m, k = i + 1 + m := ⟨k - (i + 1), by omega⟩
  rw [cntF_add g, cntF_add h]
  have e1 : cntF g i = cntF h i := cntF_congr fun j hj => e j (by omega)
  have e2 : cntF (fun j => g (i + 1 + j)) m = cntF (fun j => h (i + 1 + j)) m := cntF_congr fun j _ => e _ (by omega)
  simp only [cntF, hg, hh]
  simp; omega

/-- what is one of three things is counted thrice -/
theorem cntF_three {p q r t : Nat → Bool} {k : Nat} (h : ∀ j, j < k → (if p j then 1 else 0) + (if q j then 1 else 0) + (if r j then 1 else 0) = if t j then 1 else 0) : cntF p k + cntF q k + cntF r k = cntF t k := by
  induction k with
  | zero => simp [cntF]
  | succ k ih =>
    have h1 := ih fun j hj => h j (by omega)
    have h2 := h k (by omega)
    simp only [cntF]; omega

def sumF (g : Nat → Nat) : Nat → Nat
  | 0 => 0
  | k + 1 => sumF g k + g k

theorem sumF_zero {g : Nat → Nat} {k : Nat} : sumF g k = 0 ↔ ∀ j, j < k → g j = 0 := by
  induction k with
  | zero => simp [sumF]
  | succ k ih =>
    simp only [sumF]
    constructor
    · intro h j hj
      by_cases e : j = k
      · subst e; omega
      · exact ih.1 (by omega) j (by omega)
    · intro h
      rw [ih.2 fun j hj => h j (by omega), h k (by omega)]

/-- how many of a slab are free -/
def roomN (f : Nat → Nat) (s : Nat) : Nat := cntF (fun j => f (64 * s + j) == 1) 64
def roomI (f : Nat → Nat) (z : Int) : Nat := if 0 ≤ z ∧ z < 16 then roomN f z.toNat else 0
/-- how many are free -/
def countN (f : Nat → Nat) : Nat := sumF (roomN f) 16

theorem roomN_le (f : Nat → Nat) (s : Nat) : roomN f s ≤ 64 := cntF_le _ _
theorem roomI_le (f : Nat → Nat) (z : Int) : roomI f z ≤ 64 := by unfold roomI; split <;> first | exact roomN_le _ _ | omega
theorem roomI_nat (f : Nat → Nat) {s : Nat} (h : s < 16) : roomI f (s : Int) = roomN f s := by
  unfold roomI; rw [if_pos (by omega)]; simp

theorem sum_room (f : Nat → Nat) (k : Nat) : sumF (roomN f) k = cntF (fun i => f i == 1) (64 * k) := by
  induction k with
  | zero => simp [sumF, cntF]
  | succ k ih =>
    rw [show 64 * (k + 1) = 64 * k + 64 from by omega, cntF_add, ← ih]
    rfl

theorem countN_eq (f : Nat → Nat) : countN f = cntF (fun i => f i == 1) 1024 := sum_room f 16
theorem countN_le (f : Nat → Nat) : countN f ≤ 1024 := by rw [countN_eq]; exact cntF_le _ _
theorem sumF_room_le (f : Nat → Nat) (k : Nat) (hk : k ≤ 16) : sumF (roomN f) k ≤ 64 * k := by rw [sum_room]; exact cntF_le _ _

/-- the first of the first k that is so -/
def idxF (p : Nat → Bool) : Nat → Option Nat
  | 0 => none
  | n + 1 => match idxF p n with
    | some i => some i
    | none => if p n then some n else none

theorem idxF_none {p : Nat → Bool} {n : Nat} : idxF p n = none ↔ ∀ j, j < n → p j = false := by
  induction n with
  | zero => simp [idxF]
  | succ n ih =>
    simp only [idxF]
    cases h : idxF p n with
    | some i =>
      simp
      have : ¬ ∀ j, j < n → p j = false := fun e => by rw [ih.2 e] at h; cases h
      have h3 : ¬ ∀ j, j < n + 1 → p j = false := fun e => this fun j hj => e j (by omega)
      simpa using h3
    | none =>
      have h1 := ih.1 h
      constructor
      · intro hp j hj
        by_cases e : j = n
        · subst e; cases hq : p j <;> simp [hq] at hp ⊢
        · exact h1 j (by omega)
      · intro hp; simp [hp n (by omega)]

theorem idxF_some {p : Nat → Bool} {n i : Nat} (h : idxF p n = some i) : i < n ∧ p i = true ∧ ∀ j, j < i → p j = false := by
  induction n with
  | zero => simp [idxF] at h
  | succ n ih =>
    simp only [idxF] at h
    cases hq : idxF p n with
    | some k =>
      rw [hq] at h
      simp at h; subst h
      obtain ⟨a, b, c⟩ := ih hq
      exact ⟨by omega, b, c⟩
    | none =>
      rw [hq] at h
      have h1 := idxF_none.1 hq
      cases hp : p n with
      | false => simp [hp] at h
      | true =>
        simp [hp] at h; subst h
        exact ⟨by omega, hp, h1⟩

theorem idxF_eq {p : Nat → Bool} {n i : Nat} (hi : i < n) (hp : p i = true) (hl : ∀ j, j < i → p j = false) : idxF p n = some i := by
  cases h : idxF p n with
  | none => have := idxF_none.1 h i hi; rw [hp] at this; cases this
  | some k =>
    obtain ⟨a, b, c⟩ := idxF_some h
    rcases Nat.lt_trichotomy i k with h1 | h1 | h1
    · rw [c i h1] at hp; cases hp
    · rw [h1]
    · rw [hl k h1] at b; cases b

/-- the slab with the most room, and how much -/
def bestF (g : Nat → Nat) : Nat → Nat × Nat
  | 0 => (0, 0)
  | k + 1 => if (bestF g k).2 < g k then (k, g k) else bestF g k

theorem bestF_spec (g : Nat → Nat) (k : Nat) : ((bestF g k).1 = 0 ∨ (bestF g k).1 < k) ∧ (∀ j, j < k → g j ≤ (bestF g k).2) ∧ (0 < (bestF g k).2 → (bestF g k).1 < k ∧ g (bestF g k).1 = (bestF g k).2) ∧ ∀ j, j < (bestF g k).1 → g j < (bestF g k).2 := by
  induction k with
  | zero => simp [bestF]
  | succ k ih =>
    obtain ⟨h1, h2, h3, h4⟩ := ih
    simp only [bestF]
    split
    · rename_i h
      refine ⟨.inr (by simp), ?_, fun _ => ⟨by simp, rfl⟩, ?_⟩
      · intro j hj
        by_cases e : j = k
        · subst e; simp
        · have := h2 j (by omega); simp; omega
      · intro j hj
        have := h2 j (by simpa using hj); simp; omega
    · rename_i h
      refine ⟨by omega, ?_, fun hp => ⟨by have := (h3 hp).1; omega, (h3 hp).2⟩, h4⟩
      intro j hj
      by_cases e : j = k
      · subst e; omega
      · exact h2 j (by omega)

def bestS (f : Nat → Nat) : Nat := (bestF (roomN f) 16).1
theorem bestS_lt (f : Nat → Nat) : bestS f < 16 := by
  have := (bestF_spec (roomN f) 16).1
  unfold bestS; omega

def upd (f : Nat → Nat) (i v : Nat) : Nat → Nat := fun j => if j = i then v else f j
theorem upd_same (f : Nat → Nat) (i v : Nat) : upd f i v i = v := by simp [upd]
theorem upd_other (f : Nat → Nat) {i j : Nat} (v : Nat) (h : j ≠ i) : upd f i v j = f j := by simp [upd, h]

/-- which sector is given -/
def freeAt (f : Nat → Nat) (j : Nat) : Bool := f (64 * bestS f + j) == 1
def allocO (f : Nat → Nat) : Option Nat := (idxF (freeAt f) 64).map (64 * bestS f + ·)

theorem allocO_some {f : Nat → Nat} {i : Nat} (h : allocO f = some i) : i < 1024 ∧ f i = 1 ∧ i / 64 = bestS f ∧ ∀ j, i / 64 * 64 ≤ j → j < i → f j ≠ 1 := by
  unfold allocO at h
  cases hx : idxF (freeAt f) 64 with
  | none => rw [hx] at h; cases h
  | some k =>
    rw [hx] at h
    simp at h
    obtain ⟨h1, h2, h3⟩ := idxF_some hx
    have hb := bestS_lt f
    have hd : i / 64 = bestS f := by omega
    refine ⟨by omega, ?_, hd, ?_⟩
    · rw [← h]; simpa [freeAt] using h2
    · intro j hj1 hj2
      have := h3 (j - 64 * bestS f) (by omega)
      rw [freeAt, show 64 * bestS f + (j - 64 * bestS f) = j from by omega] at this
      simpa using this

theorem best_most {f : Nat → Nat} (h : countN f ≠ 0) : 0 < (bestF (roomN f) 16).2 := by
  obtain ⟨_, h2, _, _⟩ := bestF_spec (roomN f) 16
  refine Nat.pos_of_ne_zero fun e => h ?_
  exact sumF_zero.2 fun j hj => by have := h2 j hj; omega

theorem allocO_none {f : Nat → Nat} : allocO f = none ↔ countN f = 0 := by
  constructor
  · intro h
    by_cases hc : countN f = 0
    · exact hc
    · exfalso
      have hp := best_most hc
      obtain ⟨_, _, h3, _⟩ := bestF_spec (roomN f) 16
      obtain ⟨_, h5⟩ := h3 hp
      have h6 : idxF (freeAt f) 64 = none := by
        unfold allocO at h; simpa using h
      have h7 : roomN f (bestS f) = 0 := cntF_zero.2 (idxF_none.1 h6)
      unfold bestS at h7; omega
  · intro h
    unfold allocO
    have h1 := sumF_zero.1 h (bestS f) (bestS_lt f)
    have h2 : idxF (freeAt f) 64 = none := idxF_none.2 (cntF_zero.1 h1)
    rw [h2]; rfl

/-- the slab of what is given has the most room, and is the first such -/
theorem alloc_slab {f : Nat → Nat} {i : Nat} (h : allocO f = some i) {k : Nat} (hk : k < 16) : roomN f k ≤ roomN f (i / 64) ∧ (k < i / 64 → roomN f k < roomN f (i / 64)) := by
  obtain ⟨_, _, hd, _⟩ := allocO_some h
  have hc : countN f ≠ 0 := fun e => by rw [allocO_none.2 e] at h; cases h
  have hp := best_most hc
  obtain ⟨_, h2, h3, h4⟩ := bestF_spec (roomN f) 16
  obtain ⟨_, h6⟩ := h3 hp
  rw [hd]
  have e : roomN f (bestS f) = (bestF (roomN f) 16).2 := h6
  rw [e]
  exact ⟨h2 k hk, fun hl => h4 k hl⟩

theorem count_take {f : Nat → Nat} {i v : Nat} (hi : i < 1024) (hf : f i = 1) (hv : v ≠ 1) : countN f = countN (upd f i v) + 1 := by
  rw [countN_eq, countN_eq]
  exact cntF_flip (i := i) (by simp [hf]) (by simp [upd, hv]) (fun j hj => by simp [upd, hj]) 1024 hi

theorem count_give {f : Nat → Nat} {i v : Nat} (hi : i < 1024) (hf : v = 1) (hv : f i ≠ 1) : countN (upd f i v) = countN f + 1 := by
  rw [countN_eq, countN_eq]
  exact cntF_flip (i := i) (by simp [upd, hf]) (by simp [hv]) (fun j hj => by simp [upd, hj]) 1024 hi

theorem count_same {f g : Nat → Nat} (h : ∀ j, j < 1024 → (f j == 1) = (g j == 1)) : countN f = countN g := by
  rw [countN_eq, countN_eq]; exact cntF_congr h

/-- the map behind taking so many, and which they are -/
def updO (f : Nat → Nat) (o : Option Nat) : Nat → Nat := o.elim f fun i => upd f i 2
def manyF (f : Nat → Nat) (n : Nat) : Nat → Nat := Nat.rec (motive := fun _ => Nat → Nat) f (fun _ g => updO g (allocO g)) n
theorem manyF_zero (f : Nat → Nat) : manyF f 0 = f := rfl
theorem manyF_succ (f : Nat → Nat) (n : Nat) : manyF f (n + 1) = updO (manyF f n) (allocO (manyF f n)) := rfl
def manyL (f : Nat → Nat) (n : Nat) : List Nat := Nat.rec (motive := fun _ => List Nat) [] (fun k l => l ++ [(allocO (manyF f k)).getD 0]) n
theorem manyL_zero (f : Nat → Nat) : manyL f 0 = [] := rfl
theorem manyL_succ (f : Nat → Nat) (n : Nat) : manyL f (n + 1) = manyL f n ++ [(allocO (manyF f n)).getD 0] := rfl

theorem manyL_length (f : Nat → Nat) (n : Nat) : (manyL f n).length = n := by
  induction n with
  | zero => rw [manyL_zero]; rfl
  | succ n ih => rw [manyL_succ, List.length_append, ih]; rfl

theorem many_step {f : Nat → Nat} {n : Nat} (h : countN (manyF f n) ≠ 0) : ∃ i, allocO (manyF f n) = some i ∧ manyF f (n + 1) = upd (manyF f n) i 2 ∧ manyL f (n + 1) = manyL f n ++ [i] := by
  rw [manyF_succ, manyL_succ]
  generalize manyF f n = g at *
  cases hx : allocO g with
  | none => exact absurd (allocO_none.1 hx) h
  | some i => exact ⟨i, rfl, rfl, rfl⟩

theorem many_count {f : Nat → Nat} (n : Nat) : n ≤ countN f → countN (manyF f n) + n = countN f := by
  induction n with
  | zero => intro _; rw [manyF_zero, Nat.add_zero]
  | succ n ih =>
    intro hn
    generalize hc : countN f = c at ih hn ⊢
    have h0 := ih (by omega)
    generalize hd : countN (manyF f n) = d at h0
    have hd0 : countN (manyF f n) ≠ 0 := by rw [hd]; omega
    obtain ⟨i, h1, h2, _⟩ := many_step hd0
    obtain ⟨h3, h4, _, _⟩ := allocO_some h1
    have h5 := count_take h3 h4 (v := 2) (by omega)
    rw [h2]
    rw [hd] at h5
    generalize countN (upd (manyF f n) i 2) = e at h5 ⊢
    omega

/-- of a new map all is free -/
def newS (total : Int) (i : Nat) : Nat := if 4 ≤ i ∧ (i : Int) < total ∧ i < 1024 then 1 else 0
/-- a Commit -/
def commitF (f : Nat → Nat) (i : Nat) : Nat := if f i = 3 then 1 else f i

/-- a sector is made another thing, if it is what it must be -/
def canTurn (f : Nat → Nat) (i : Int) (a : Nat) : Bool := decide (0 ≤ i ∧ i < 1024) && f i.toNat == a
def turnF (f : Nat → Nat) (i : Int) (a b : Nat) : Nat → Nat := if canTurn f i a then upd f i.toNat b else f
def turnE (f : Nat → Nat) (i : Int) (a : Nat) : Int := if canTurn f i a then 0 else 72

end Go.Proofs.Ythnncohkdgaipaa
