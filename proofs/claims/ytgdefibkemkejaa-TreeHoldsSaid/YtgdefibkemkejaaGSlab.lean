/- Slab: the texts SlabM, SlabA, SlabB, SlabC, SlabD, SlabE, SlabF, SlabG, one behind the other. -/
import Derived.Test.YtgdefibkemkejaaGBase
import Derived.Test.YtgdefibkemkejaaGSpanB
/- What each sector of a map is, and what follows of it: plain facts about counts, rooms, the first free one. -/
namespace Go.Proofs.Ytgdefibkemkejaa
set_option linter.unusedVariables false

/-- how many of the first k are so -/
def cntF (g : Nat → Bool) : Nat → Nat
  | 0 => 0
  | k + 1 => cntF g k + if g k then 1 else 0

theorem cntF_le (g : Nat → Bool) (k : Nat) : cntF g k ≤ k := by
  induction k with
  | zero => simp [cntF]
  | succ k ih => simp only [cntF]; split <;> omega

theorem cntF_congr {g h : Nat → Bool} {k : Nat} (e : ∀ j, j < k → g j = h j) : cntF g k = cntF h k := by
  induction k with
  | zero => rfl
  | succ k ih => simp only [cntF]; rw [ih fun j hj => e j (by omega), e k (by omega)]

theorem cntF_zero {g : Nat → Bool} {k : Nat} : cntF g k = 0 ↔ ∀ j, j < k → g j = false := by
  induction k with
  | zero => simp [cntF]
  | succ k ih =>
    simp only [cntF]
    constructor
    · intro h j hj
      have h1 : cntF g k = 0 := by omega
      have h2 : g k = false := by cases hg : g k <;> simp [hg] at h ⊢
      by_cases e : j = k
      · rw [e, h2]
      · exact ih.1 h1 j (by omega)
    · intro h
      rw [ih.2 fun j hj => h j (by omega), h k (by omega)]; simp

theorem cntF_add (g : Nat → Bool) (a b : Nat) : cntF g (a + b) = cntF g a + cntF (fun j => g (a + j)) b := by
  induction b with
  | zero => simp [cntF]
  | succ b ih => rw [← Nat.add_assoc]; simp only [cntF]; rw [ih]; omega

/-- one that was so isn't any more -/
theorem cntF_flip {g h : Nat → Bool} {i : Nat} (hg : g i = true) (hh : h i = false) (e : ∀ j, j ≠ i → g j = h j) : ∀ k, i < k → cntF g k = cntF h k + 1 := by
  intro k hk
  obtain ⟨m, rfl⟩ : ∃ m, k = i + 1 + m := ⟨k - (i + 1), by omega⟩
  rw [cntF_add g, cntF_add h]
  have e1 : cntF g i = cntF h i := cntF_congr fun j hj => e j (by omega)
  have e2 : cntF (fun j => g (i + 1 + j)) m = cntF (fun j => h (i + 1 + j)) m := cntF_congr fun j _ => e _ (by omega)
  simp only [cntF, hg, hh]
  simp; omega

/-- what is one of three things is counted thrice -/
theorem cntF_three {p q r t : Nat → Bool} {k : Nat} (h : ∀ j, j < k → (if p j then 1 else 0) + (if q j then 1 else 0) + (if r j then 1 else 0) = if t j then 1 else 0) : cntF p k + cntF q k + cntF r k = cntF t k := by
  induction k with
  | zero => simp [cntF]
  | succ k ih =>
    have h1 := ih fun j hj => h j (by omega)
    have h2 := h k (by omega)
    simp only [cntF]; omega

def sumF (g : Nat → Nat) : Nat → Nat
  | 0 => 0
  | k + 1 => sumF g k + g k

theorem sumF_zero {g : Nat → Nat} {k : Nat} : sumF g k = 0 ↔ ∀ j, j < k → g j = 0 := by
  induction k with
  | zero => simp [sumF]
  | succ k ih =>
    simp only [sumF]
    constructor
    · intro h j hj
      by_cases e : j = k
      · subst e; omega
      · exact ih.1 (by omega) j (by omega)
    · intro h
      rw [ih.2 fun j hj => h j (by omega), h k (by omega)]

/-- how many of a slab are free -/
def roomN (f : Nat → Nat) (s : Nat) : Nat := cntF (fun j => f (64 * s + j) == 1) 64
def roomI (f : Nat → Nat) (z : Int) : Nat := if 0 ≤ z ∧ z < 16 then roomN f z.toNat else 0
/-- how many are free -/
def countN (f : Nat → Nat) : Nat := sumF (roomN f) 16

theorem roomN_le (f : Nat → Nat) (s : Nat) : roomN f s ≤ 64 := cntF_le _ _
theorem roomI_le (f : Nat → Nat) (z : Int) : roomI f z ≤ 64 := by unfold roomI; split <;> first | exact roomN_le _ _ | omega
theorem roomI_nat (f : Nat → Nat) {s : Nat} (h : s < 16) : roomI f (s : Int) = roomN f s := by
  unfold roomI; rw [if_pos (by omega)]; simp

theorem sum_room (f : Nat → Nat) (k : Nat) : sumF (roomN f) k = cntF (fun i => f i == 1) (64 * k) := by
  induction k with
  | zero => simp [sumF, cntF]
  | succ k ih =>
    rw [show 64 * (k + 1) = 64 * k + 64 from by omega, cntF_add, ← ih]
    rfl

theorem countN_eq (f : Nat → Nat) : countN f = cntF (fun i => f i == 1) 1024 := sum_room f 16
theorem countN_le (f : Nat → Nat) : countN f ≤ 1024 := by rw [countN_eq]; exact cntF_le _ _
theorem sumF_room_le (f : Nat → Nat) (k : Nat) (hk : k ≤ 16) : sumF (roomN f) k ≤ 64 * k := by rw [sum_room]; exact cntF_le _ _

/-- the first of the first k that is so -/
def idxF (p : Nat → Bool) : Nat → Option Nat
  | 0 => none
  | n + 1 => match idxF p n with
    | some i => some i
    | none => if p n then some n else none

theorem idxF_none {p : Nat → Bool} {n : Nat} : idxF p n = none ↔ ∀ j, j < n → p j = false := by
  induction n with
  | zero => simp [idxF]
  | succ n ih =>
    simp only [idxF]
    cases h : idxF p n with
    | some i =>
      simp
      have : ¬ ∀ j, j < n → p j = false := fun e => by rw [ih.2 e] at h; cases h
      have h3 : ¬ ∀ j, j < n + 1 → p j = false := fun e => this fun j hj => e j (by omega)
      simpa using h3
    | none =>
      have h1 := ih.1 h
      constructor
      · intro hp j hj
        by_cases e : j = n
        · subst e; cases hq : p j <;> simp [hq] at hp ⊢
        · exact h1 j (by omega)
      · intro hp; simp [hp n (by omega)]

theorem idxF_some {p : Nat → Bool} {n i : Nat} (h : idxF p n = some i) : i < n ∧ p i = true ∧ ∀ j, j < i → p j = false := by
  induction n with
  | zero => simp [idxF] at h
  | succ n ih =>
    simp only [idxF] at h
    cases hq : idxF p n with
    | some k =>
      rw [hq] at h
      simp at h; subst h
      obtain ⟨a, b, c⟩ := ih hq
      exact ⟨by omega, b, c⟩
    | none =>
      rw [hq] at h
      have h1 := idxF_none.1 hq
      cases hp : p n with
      | false => simp [hp] at h
      | true =>
        simp [hp] at h; subst h
        exact ⟨by omega, hp, h1⟩

theorem idxF_eq {p : Nat → Bool} {n i : Nat} (hi : i < n) (hp : p i = true) (hl : ∀ j, j < i → p j = false) : idxF p n = some i := by
  cases h : idxF p n with
  | none => have := idxF_none.1 h i hi; rw [hp] at this; cases this
  | some k =>
    obtain ⟨a, b, c⟩ := idxF_some h
    rcases Nat.lt_trichotomy i k with h1 | h1 | h1
    · rw [c i h1] at hp; cases hp
    · rw [h1]
    · rw [hl k h1] at b; cases b

/-- the slab with the most room, and how much -/
def bestF (g : Nat → Nat) : Nat → Nat × Nat
  | 0 => (0, 0)
  | k + 1 => if (bestF g k).2 < g k then (k, g k) else bestF g k

theorem bestF_spec (g : Nat → Nat) (k : Nat) : ((bestF g k).1 = 0 ∨ (bestF g k).1 < k) ∧ (∀ j, j < k → g j ≤ (bestF g k).2) ∧ (0 < (bestF g k).2 → (bestF g k).1 < k ∧ g (bestF g k).1 = (bestF g k).2) ∧ ∀ j, j < (bestF g k).1 → g j < (bestF g k).2 := by
  induction k with
  | zero => simp [bestF]
  | succ k ih =>
    obtain ⟨h1, h2, h3, h4⟩ := ih
    simp only [bestF]
    split
    · rename_i h
      refine ⟨.inr (by simp), ?_, fun _ => ⟨by simp, rfl⟩, ?_⟩
      · intro j hj
        by_cases e : j = k
        · subst e; simp
        · have := h2 j (by omega); simp; omega
      · intro j hj
        have := h2 j (by simpa using hj); simp; omega
    · rename_i h
      refine ⟨by omega, ?_, fun hp => ⟨by have := (h3 hp).1; omega, (h3 hp).2⟩, h4⟩
      intro j hj
      by_cases e : j = k
      · subst e; omega
      · exact h2 j (by omega)

def bestS (f : Nat → Nat) : Nat := (bestF (roomN f) 16).1
theorem bestS_lt (f : Nat → Nat) : bestS f < 16 := by
  have := (bestF_spec (roomN f) 16).1
  unfold bestS; omega

def upd (f : Nat → Nat) (i v : Nat) : Nat → Nat := fun j => if j = i then v else f j
theorem upd_same (f : Nat → Nat) (i v : Nat) : upd f i v i = v := by simp [upd]
theorem upd_other (f : Nat → Nat) {i j : Nat} (v : Nat) (h : j ≠ i) : upd f i v j = f j := by simp [upd, h]

/-- which sector is given -/
def freeAt (f : Nat → Nat) (j : Nat) : Bool := f (64 * bestS f + j) == 1
def allocO (f : Nat → Nat) : Option Nat := (idxF (freeAt f) 64).map (64 * bestS f + ·)

theorem allocO_some {f : Nat → Nat} {i : Nat} (h : allocO f = some i) : i < 1024 ∧ f i = 1 ∧ i / 64 = bestS f ∧ ∀ j, i / 64 * 64 ≤ j → j < i → f j ≠ 1 := by
  unfold allocO at h
  cases hx : idxF (freeAt f) 64 with
  | none => rw [hx] at h; cases h
  | some k =>
    rw [hx] at h
    simp at h
    obtain ⟨h1, h2, h3⟩ := idxF_some hx
    have hb := bestS_lt f
    have hd : i / 64 = bestS f := by omega
    refine ⟨by omega, ?_, hd, ?_⟩
    · rw [← h]; simpa [freeAt] using h2
    · intro j hj1 hj2
      have := h3 (j - 64 * bestS f) (by omega)
      rw [freeAt, show 64 * bestS f + (j - 64 * bestS f) = j from by omega] at this
      simpa using this

theorem best_most {f : Nat → Nat} (h : countN f ≠ 0) : 0 < (bestF (roomN f) 16).2 := by
  obtain ⟨_, h2, _, _⟩ := bestF_spec (roomN f) 16
  refine Nat.pos_of_ne_zero fun e => h ?_
  exact sumF_zero.2 fun j hj => by have := h2 j hj; omega

theorem allocO_none {f : Nat → Nat} : allocO f = none ↔ countN f = 0 := by
  constructor
  · intro h
    by_cases hc : countN f = 0
    · exact hc
    · exfalso
      have hp := best_most hc
      obtain ⟨_, _, h3, _⟩ := bestF_spec (roomN f) 16
      obtain ⟨_, h5⟩ := h3 hp
      have h6 : idxF (freeAt f) 64 = none := by
        unfold allocO at h; simpa using h
      have h7 : roomN f (bestS f) = 0 := cntF_zero.2 (idxF_none.1 h6)
      unfold bestS at h7; omega
  · intro h
    unfold allocO
    have h1 := sumF_zero.1 h (bestS f) (bestS_lt f)
    have h2 : idxF (freeAt f) 64 = none := idxF_none.2 (cntF_zero.1 h1)
    rw [h2]; rfl

/-- the slab of what is given has the most room, and is the first such -/
theorem alloc_slab {f : Nat → Nat} {i : Nat} (h : allocO f = some i) {k : Nat} (hk : k < 16) : roomN f k ≤ roomN f (i / 64) ∧ (k < i / 64 → roomN f k < roomN f (i / 64)) := by
  obtain ⟨_, _, hd, _⟩ := allocO_some h
  have hc : countN f ≠ 0 := fun e => by rw [allocO_none.2 e] at h; cases h
  have hp := best_most hc
  obtain ⟨_, h2, h3, h4⟩ := bestF_spec (roomN f) 16
  obtain ⟨_, h6⟩ := h3 hp
  rw [hd]
  have e : roomN f (bestS f) = (bestF (roomN f) 16).2 := h6
  rw [e]
  exact ⟨h2 k hk, fun hl => h4 k hl⟩

theorem count_take {f : Nat → Nat} {i v : Nat} (hi : i < 1024) (hf : f i = 1) (hv : v ≠ 1) : countN f = countN (upd f i v) + 1 := by
  rw [countN_eq, countN_eq]
  exact cntF_flip (i := i) (by simp [hf]) (by simp [upd, hv]) (fun j hj => by simp [upd, hj]) 1024 hi

theorem count_give {f : Nat → Nat} {i v : Nat} (hi : i < 1024) (hf : v = 1) (hv : f i ≠ 1) : countN (upd f i v) = countN f + 1 := by
  rw [countN_eq, countN_eq]
  exact cntF_flip (i := i) (by simp [upd, hf]) (by simp [hv]) (fun j hj => by simp [upd, hj]) 1024 hi

theorem count_same {f g : Nat → Nat} (h : ∀ j, j < 1024 → (f j == 1) = (g j == 1)) : countN f = countN g := by
  rw [countN_eq, countN_eq]; exact cntF_congr h

/-- the map behind taking so many, and which they are -/
def updO (f : Nat → Nat) (o : Option Nat) : Nat → Nat := o.elim f fun i => upd f i 2
def manyF (f : Nat → Nat) (n : Nat) : Nat → Nat := Nat.rec (motive := fun _ => Nat → Nat) f (fun _ g => updO g (allocO g)) n
theorem manyF_zero (f : Nat → Nat) : manyF f 0 = f := rfl
theorem manyF_succ (f : Nat → Nat) (n : Nat) : manyF f (n + 1) = updO (manyF f n) (allocO (manyF f n)) := rfl
def manyL (f : Nat → Nat) (n : Nat) : List Nat := Nat.rec (motive := fun _ => List Nat) [] (fun k l => l ++ [(allocO (manyF f k)).getD 0]) n
theorem manyL_zero (f : Nat → Nat) : manyL f 0 = [] := rfl
theorem manyL_succ (f : Nat → Nat) (n : Nat) : manyL f (n + 1) = manyL f n ++ [(allocO (manyF f n)).getD 0] := rfl

theorem manyL_length (f : Nat → Nat) (n : Nat) : (manyL f n).length = n := by
  induction n with
  | zero => rw [manyL_zero]; rfl
  | succ n ih => rw [manyL_succ, List.length_append, ih]; rfl

theorem many_step {f : Nat → Nat} {n : Nat} (h : countN (manyF f n) ≠ 0) : ∃ i, allocO (manyF f n) = some i ∧ manyF f (n + 1) = upd (manyF f n) i 2 ∧ manyL f (n + 1) = manyL f n ++ [i] := by
  rw [manyF_succ, manyL_succ]
  generalize manyF f n = g at *
  cases hx : allocO g with
  | none => exact absurd (allocO_none.1 hx) h
  | some i => exact ⟨i, rfl, rfl, rfl⟩

theorem many_count {f : Nat → Nat} (n : Nat) : n ≤ countN f → countN (manyF f n) + n = countN f := by
  induction n with
  | zero => intro _; rw [manyF_zero, Nat.add_zero]
  | succ n ih =>
    intro hn
    generalize hc : countN f = c at ih hn ⊢
    have h0 := ih (by omega)
    generalize hd : countN (manyF f n) = d at h0
    have hd0 : countN (manyF f n) ≠ 0 := by rw [hd]; omega
    obtain ⟨i, h1, h2, _⟩ := many_step hd0
    obtain ⟨h3, h4, _, _⟩ := allocO_some h1
    have h5 := count_take h3 h4 (v := 2) (by omega)
    rw [h2]
    rw [hd] at h5
    generalize countN (upd (manyF f n) i 2) = e at h5 ⊢
    omega

/-- of a new map all is free -/
def newS (total : Int) (i : Nat) : Nat := if 4 ≤ i ∧ (i : Int) < total ∧ i < 1024 then 1 else 0
/-- a Commit -/
def commitF (f : Nat → Nat) (i : Nat) : Nat := if f i = 3 then 1 else f i

/-- a sector is made another thing, if it is what it must be -/
def canTurn (f : Nat → Nat) (i : Int) (a : Nat) : Bool := decide (0 ≤ i ∧ i < 1024) && f i.toNat == a
def turnF (f : Nat → Nat) (i : Int) (a b : Nat) : Nat → Nat := if canTurn f i a then upd f i.toNat b else f
def turnE (f : Nat → Nat) (i : Int) (a : Nat) : Int := if canTurn f i a then 0 else 72

end Go.Proofs.Ytgdefibkemkejaa

/- The block of a map; how many of a slab are free; the first of a slice that is so. -/
namespace Go.Proofs.Ytgdefibkemkejaa
open Go.ChangeShapes Go.WideShapes Go.ChangeAt Go.RowKit
set_option linter.unusedVariables false
set_option maxRecDepth 20000

/-- what each of the 1024 sectors is, as cells -/
def stsL (f : Nat → Nat) : List Value := (List.range 1024).map fun i => Value.int .u8 ((f i : Nat) : Int)

theorem stsL_length (f : Nat → Nat) : (stsL f).length = 1024 := by simp [stsL]
theorem stsL_get (f : Nat → Nat) {i : Nat} (h : i < 1024) : (stsL f)[i]? = some (.int .u8 (f i : Int)) := by simp [stsL, h]
theorem stsL_one (f : Nat → Nat) : ∀ v ∈ stsL f, v.oneCell' = true := by
  intro v hv
  simp only [stsL, List.mem_map] at hv
  obtain ⟨i, _, rfl⟩ := hv
  rfl
theorem stsL_set (f : Nat → Nat) (i v : Nat) : (stsL f).set i (.int .u8 (v : Int)) = stsL (upd f i v) := by
  apply List.ext_getElem?
  intro k
  rw [List.getElem?_set]
  by_cases hk : k < 1024
  · rw [stsL_get _ hk, stsL_get _ hk]
    by_cases e : i = k
    · subst e; simp [stsL_length, hk, upd]
    · have : ¬ k = i := fun h => e h.symm
      simp [e, upd, this]
  · rw [List.getElem?_eq_none (by rw [stsL_length]; omega), List.getElem?_eq_none (by rw [stsL_length]; omega)]
    split <;> simp_all [stsL_length]
theorem stsL_congr {f g : Nat → Nat} (h : ∀ i, i < 1024 → f i = g i) : stsL f = stsL g := by
  unfold stsL
  refine List.map_congr_left fun i hi => ?_
  rw [h i (by simpa using hi)]

/-- block B is a map of which this is told -/
def MapAt (w : World) (B : Nat) (f : Nat → Nat) : Prop := Blk w B 101 (stsL f)

section
variable {w w' : World} {B : Nat} {f : Nat → Nat} {F : Nat → Prop}
theorem MapAt.lt (h : MapAt w B f) : B < w.heap.size := Blk.lt h
theorem MapAt.cell (h : MapAt w B f) {i : Nat} (hi : i < 1024) : w.cell? ⟨B, i, none⟩ = some (.int .u8 (f i : Int)) := by rw [Blk.cell h, stsL_get f hi]
theorem MapAt.frozen (h : MapAt w B f) (i : Nat) : w.frozen? ⟨B, i, none⟩ = false := Blk.frozen h i
theorem MapAt.drewN (h : MapAt w B f) (n : Nat) : MapAt (w.drewN n) B f := h
theorem MapAt.alloc (h : MapAt w B f) (o : Obj) : MapAt (w.alloc o) B f := Blk.alloc h o
theorem MapAt.kept (h : MapAt w B f) (k : Kept F w w') (hn : ¬ F B) : MapAt w' B f := Blk.kept h k hn
theorem MapAt.below {D : Nat} (h : MapAt w B f) (hb : Below D w w') (hg : B < D) : MapAt w' B f := Blk.below h hb hg
theorem MapAt.set (h : MapAt w B f) (i v : Nat) : MapAt (w.setCell ⟨B, i, none⟩ (.int .u8 (v : Int))) B (upd f i v) := by
  have := Blk.set h i (.int .u8 (v : Int))
  rw [stsL_set] at this
  exact this
theorem MapAt.far (h : MapAt w B f) {p : Addr} (hp : B ≠ p.block) (u : Value) : MapAt (w.setCell p u) B f := Blk.far h hp u
theorem MapAt.congr (h : MapAt w B f) {g : Nat → Nat} (e : ∀ i, i < 1024 → f i = g i) : MapAt w B g := by
  unfold MapAt at *; rw [← stsL_congr e]; exact h
end

theorem drewN_zero (w : World) : w.drewN 0 = w := rfl

theorem state_bytes : ∀ w, (Go.sizeOf 90).run Try.prog w = .ok 1 w := fun w => by kernel_rfl

/-- a part of a map's array -/
theorem cut_arr (B : Nat) (l h : Int) (w : World) (h0 : 0 ≤ l) (h1 : l < h) (h2 : h ≤ 1024) :
    Sem.run Try.prog (Instr.sliceAt 99 (.pointer (some ⟨B, 0, none⟩)) (some (.int .i64 l)) (some (.int .i64 h)) none) w = .ok (.slice (some ⟨B, l.toNat, none⟩) (h - l).toNat (1024 - l.toNat)) w := by
  have hn : Try.prog.arrayLen 99 = 1024 := by kernel_rfl
  have hu : Try.prog.underlying 99 = some (.array (Try.prog.arrayLen 99) (Try.prog.elem 99)) := by kernel_rfl
  have he : Try.prog.elem 99 = 90 := by kernel_rfl
  have hr := run_sliceAt_array_lh (P := Try.prog) w 99 ⟨B, 0, none⟩ hu .i64 .i64 l h h0 (by omega) (by rw [hn]; omega)
  rw [hr, he, state_bytes]
  simp only [Result.andThen, hn, slicedAt]
  rw [if_neg (by omega), Nat.mul_one, Go.WideShapes.add_plain, Nat.zero_add, show h.toNat - l.toNat = (h - l).toNat from by omega]

set_option maxHeartbeats 1000000 in
theorem Room_any (B : Nat) (f : Nat → Nat) (z : Int) (w : World) (hm : MapAt w B f) (hz : I64 z) :
    Calls Try.prog 42 #[.pointer (some ⟨B, 0, none⟩), .int .i64 z] w fun e w' => e = .returned (.int .i64 (roomI f z : Nat)) ∧ w' = w := by
  have hBw := hm.lt
  unfold I64 at hz
  have hm := Lib.hid hm
  by_cases h0 : 0 ≤ z
  · by_cases h1 : z < 16
    · obtain ⟨s, rfl⟩ : ∃ s : Nat, z = s := ⟨z.toNat, by omega⟩
      have hr : roomI f (s : Int) = cntF (fun j => f (64 * s + j) == 1) 64 := roomI_nat f (by omega)
      rw [hr]
      clear hr
      have hcut := cut_arr B ((s : Int) * 64) (((s : Int) + 1) * 64) w (by omega) (by omega) (by omega)
      rw [show (((s : Int) + 1) * 64 - (s : Int) * 64).toNat = 64 from by omega, show ((s : Int) * 64).toNat = 64 * s from by omega] at hcut
      go_enter Try.func42, Try.ntmps42
      go_wp2
      clear hcut
      go_loopw [5, 24] (fun c i wr => ∃ k : Nat, k ≤ 64 ∧ i = .int .i64 k ∧ c = .int .i64 (cntF (fun j => f (64 * s + j) == 1) k : Nat) ∧ wr = w)
        (fun _ i _ => 64 - (intOf i).toNat)
      case atStart => exact ⟨0, by omega, rfl, rfl, rfl⟩
      case round =>
        obtain ⟨k, hk, rfl, rfl, rfl⟩ := hrel
        have hcl := cntF_le (fun j => f (64 * s + j) == 1) k
        by_cases hlt : k < 64
        · have c1 := hm.out.cell (i := 64 * s + k) (by omega)
          have hs1 : cntF (fun j => f (64 * s + j) == 1) (k + 1) = cntF (fun j => f (64 * s + j) == 1) k + if f (64 * s + k) == 1 then 1 else 0 := rfl
          generalize cntF (fun j => f (64 * s + j) == 1) k = c at *
          by_cases hf : f (64 * s + k) = 1
          · rw [hf] at c1
            rw [hf] at hs1
            have hs1 := Lib.hid hs1
            go_wp2
            go_roundw
            case rel => exact ⟨k + 1, by omega, by go_num, by rw [hs1.out]; simp, trivial⟩
            case measure => simp [intOf] <;> omega
          · have hne : ((f (64 * s + k) : Int) == 1) = false := by simp; omega
            have hs1' : Hid (cntF (fun j => f (64 * s + j) == 1) (k + 1) = c) := Lib.hid (by rw [hs1]; simp [hf])
            clear hs1
            have hf := Lib.hid hf
            go_wp2
            go_roundw
            case rel => exact ⟨k + 1, by omega, by go_num, by rw [hs1'.out], trivial⟩
            case measure => simp [intOf] <;> omega
        · obtain rfl : k = 64 := by omega
          go_wp2
          go_ret
          exact ⟨rfl, rfl⟩
    · have hr : roomI f z = 0 := by unfold roomI; rw [if_neg (by omega)]
      rw [hr]
      clear hr
      go_enter Try.func42, Try.ntmps42
      go_wp2
      go_ret
      exact ⟨rfl, rfl⟩
  · have hr : roomI f z = 0 := by unfold roomI; rw [if_neg (by omega)]
    rw [hr]
    clear hr
    go_enter Try.func42, Try.ntmps42
    go_wp2
    go_ret
    exact ⟨rfl, rfl⟩

end Go.Proofs.Ytgdefibkemkejaa

/- A map's Count, roomiest, slices.Index of states, turn and its three callers, Copy, New. -/
namespace Go.Proofs.Ytgdefibkemkejaa
open Go.ChangeShapes Go.WideShapes Go.ChangeAt Go.RowKit
set_option linter.unusedVariables false
set_option maxRecDepth 20000

set_option maxHeartbeats 1000000 in
theorem Count_map (B : Nat) (f : Nat → Nat) (w : World) (hm : MapAt w B f) :
    Calls Try.prog 23 #[.pointer (some ⟨B, 0, none⟩)] w fun e w' => e = .returned (.int .i64 (countN f : Nat)) ∧ w' = w := by
  have hBw := hm.lt
  have hm := Lib.hid hm
  have hr : countN f = sumF (roomN f) 16 := rfl
  rw [hr]
  clear hr
  go_enter Try.func23, Try.ntmps23
  go_wp2
  go_loopw [3, 5] (fun c i wr => ∃ k : Nat, k ≤ 16 ∧ i = .int .i64 k ∧ c = .int .i64 (sumF (roomN f) k : Nat) ∧ wr = w)
    (fun _ i _ => 16 - (intOf i).toNat)
  case atStart => exact ⟨0, by omega, rfl, rfl, rfl⟩
  case round =>
    obtain ⟨k, hk, rfl, rfl, rfl⟩ := hrel
    have hcl := sumF_room_le f k hk
    by_cases hlt : k < 16
    · have hs1 : sumF (roomN f) (k + 1) = sumF (roomN f) k + roomN f k := rfl
      have hrl := roomN_le f k
      have hi := roomI_nat f hlt
      generalize sumF (roomN f) k = c at *
      generalize roomN f k = r at *
      have hs1 := Lib.hid hs1
      have hi := Lib.hid hi
      go_wp2_with fail
      refine (Room_any B f _ _ hm.out (by unfold I64; omega)).mono ?_
      rintro e w1 ⟨rfl, rfl⟩
      rw [hi.out]
      go_wp2
      go_roundw
      case rel => exact ⟨k + 1, by omega, by go_num, by rw [hs1.out]; simp, trivial⟩
      case measure => simp [intOf] <;> omega
    · obtain rfl : k = 16 := by omega
      go_wp2
      go_ret
      exact ⟨rfl, rfl⟩

theorem bestF_small (f : Nat → Nat) (k : Nat) (hk : k ≤ 16) : (bestF (roomN f) k).1 ≤ 16 ∧ (bestF (roomN f) k).2 ≤ 64 := by
  obtain ⟨h1, _, h3, _⟩ := bestF_spec (roomN f) k
  refine ⟨by omega, ?_⟩
  by_cases h : 0 < (bestF (roomN f) k).2
  · rw [← (h3 h).2]; exact roomN_le _ _
  · omega

set_option maxHeartbeats 1000000 in
theorem roomiest_any (B : Nat) (f : Nat → Nat) (w : World) (hm : MapAt w B f) :
    Calls Try.prog 61 #[.pointer (some ⟨B, 0, none⟩)] w fun e w' => e = .returned (.int .i64 (bestS f : Nat)) ∧ w' = w := by
  have hBw := hm.lt
  have hm := Lib.hid hm
  have hr : bestS f = (bestF (roomN f) 16).1 := rfl
  rw [hr]
  clear hr
  go_enter Try.func61, Try.ntmps61
  go_wp2
  go_loopw [3, 4, 5, 6, 7] (fun b m u v i wr => ∃ k : Nat, k ≤ 16 ∧ i = .int .i64 k ∧ b = .int .i64 ((bestF (roomN f) k).1 : Nat) ∧ m = .int .i64 ((bestF (roomN f) k).2 : Nat) ∧ wr = w)
    (fun _ _ _ _ i _ => 16 - (intOf i).toNat)
  case atStart => exact ⟨0, by omega, rfl, rfl, rfl, rfl⟩
  case round =>
    obtain ⟨k, hk, rfl, rfl, rfl, rfl⟩ := hrel
    obtain ⟨hb1, hb2⟩ := bestF_small f k hk
    by_cases hlt : k < 16
    · have hs1 : bestF (roomN f) (k + 1) = if (bestF (roomN f) k).2 < roomN f k then (k, roomN f k) else bestF (roomN f) k := rfl
      have hrl := roomN_le f k
      have hi := roomI_nat f hlt
      generalize bestF (roomN f) k = c at *
      obtain ⟨cb, cm⟩ := c
      simp only at hb1 hb2 hs1
      generalize roomN f k = r at *
      have hi := Lib.hid hi
      by_cases hg : cm < r
      · rw [if_pos hg] at hs1
        have hs1 := Lib.hid hs1
        go_wp2_with fail
        refine (Room_any B f _ _ hm.out (by unfold I64; omega)).mono ?_
        rintro e w1 ⟨rfl, rfl⟩
        rw [hi.out]
        go_wp2
        go_roundw
        case rel => exact ⟨k + 1, by omega, by go_num, by rw [hs1.out], by rw [hs1.out], trivial⟩
        case measure => simp [intOf] <;> omega
      · rw [if_neg hg] at hs1
        have hs1 := Lib.hid hs1
        go_wp2_with fail
        refine (Room_any B f _ _ hm.out (by unfold I64; omega)).mono ?_
        rintro e w1 ⟨rfl, rfl⟩
        rw [hi.out]
        go_wp2
        go_roundw
        case rel => exact ⟨k + 1, by omega, by go_num, by rw [hs1.out], by rw [hs1.out], trivial⟩
        case measure => simp [intOf] <;> omega
    · obtain rfl : k = 16 := by omega
      go_wp2
      go_ret
      exact ⟨rfl, rfl⟩

/-- a part of a row of states, and whether each is free -/
theorem idxF_skip {p : Nat → Bool} {n : Nat} (h : ∀ j, j < n → p j = false) : idxF p n = none := idxF_none.2 h

def idxI (p : Nat → Bool) (n : Nat) : Int := match idxF p n with
  | some i => (i : Int)
  | none => -1

set_option maxHeartbeats 1000000 in
theorem Index_any (B off n cap : Nat) (f : Nat → Nat) (w : World) (hm : MapAt w B f) (hn : off + n ≤ 1024) :
    Calls Try.prog 62 #[.slice (some ⟨B, off, none⟩) n cap, .int .u8 1] w fun e w' => e = .returned (.int .i64 (idxI (fun j => f (off + j) == 1) n)) ∧ w' = w := by
  have hBw := hm.lt
  have hm := Lib.hid hm
  go_enter Try.func62, Try.ntmps62
  go_wp2
  go_loopw [5, 8] (fun u i wr => ∃ k : Nat, k ≤ n ∧ i = .int .i64 k ∧ Hid (∀ j, j < k → f (off + j) ≠ 1) ∧ wr = w)
    (fun _ i _ => n - (intOf i).toNat)
  case atStart => exact ⟨0, by omega, rfl, Lib.hid (fun j hj => absurd hj (by omega)), rfl⟩
  case round =>
    obtain ⟨k, hk, rfl, hno, rfl⟩ := hrel
    by_cases hlt : k < n
    · have c1 := hm.out.cell (i := off + k) (by omega)
      by_cases hf : f (off + k) = 1
      · rw [hf] at c1
        have hi : idxF (fun j => f (off + j) == 1) n = some k := idxF_eq hlt (by simp [hf]) (fun j hj => by simp [hno.out j hj])
        have hI : idxI (fun j => f (off + j) == 1) n = (k : Int) := by unfold idxI; rw [hi]
        have hI := Lib.hid hI
        clear hi
        go_wp2
        go_ret
        exact ⟨ret_int hI.out.symm, rfl⟩
      · have hne : ((1 : Int) == (f (off + k) : Int)) = false := by simp; omega
        have hno' : Hid (∀ j, j < k + 1 → f (off + j) ≠ 1) := Lib.hid fun j hj => by
          by_cases e : j = k
          · subst e; exact hf
          · exact hno.out j (by omega)
        have hf := Lib.hid hf
        go_wp2
        go_roundw
        case rel => exact ⟨k + 1, by omega, by go_num, hno', trivial⟩
        case measure => simp [intOf] <;> omega
    · obtain rfl : k = n := by omega
      have hi : idxF (fun j => f (off + j) == 1) k = none := idxF_none.2 fun j hj => by simp [hno.out j hj]
      have hI : idxI (fun j => f (off + j) == 1) k = -1 := by unfold idxI; rw [hi]
      have hI := Lib.hid hI
      clear hi
      go_wp2
      go_ret
      exact ⟨ret_int hI.out.symm, rfl⟩

end Go.Proofs.Ytgdefibkemkejaa

/- A map's turn and its three callers, Copy, New. -/
namespace Go.Proofs.Ytgdefibkemkejaa
open Go.ChangeShapes Go.WideShapes Go.ChangeAt Go.RowKit
set_option linter.unusedVariables false
set_option maxRecDepth 20000

theorem canTurn_nat (f : Nat → Nat) {n : Nat} (h : n < 1024) (a : Nat) : canTurn f (n : Int) a = (f n == a) := by
  unfold canTurn
  rw [decide_eq_true (by omega)]; simp

theorem cannot_turn (f : Nat → Nat) {i : Int} (h : i < 0 ∨ 1024 ≤ i) (a : Nat) : canTurn f i a = false := by
  unfold canTurn
  rw [decide_eq_false (by omega)]; simp

set_option maxHeartbeats 1000000 in
theorem turn_any (B : Nat) (f : Nat → Nat) (i za zb : Int) (a b : Nat) (ha : za = a) (hb : zb = b) (w : World) (hm : MapAt w B f) (hi : I64 i) :
    Calls Try.prog 65 #[.pointer (some ⟨B, 0, none⟩), .int .i64 i, .int .u8 za, .int .u8 zb] w fun e w' =>
      e = .returned (.int .i64 (turnE f i a)) ∧ MapAt w' B (turnF f i a b) ∧ Kept (· = B) w w' := by
  have hBw := hm.lt
  unfold I64 at hi
  have hm := Lib.hid hm
  by_cases h0 : 0 ≤ i
  · by_cases h1 : i < 1024
    · obtain ⟨n, rfl⟩ : ∃ n : Nat, i = n := ⟨i.toNat, by omega⟩
      have hn : n < 1024 := by omega
      have c1 := hm.out.cell hn
      have c2 := hm.out.frozen n
      have hc := Lib.hid (canTurn_nat f hn a)
      by_cases hf : f n = a
      · have he : Hid (canTurn f (n : Int) a = true) := Lib.hid (by rw [hc.out]; simp [hf])
        rw [hf, ← ha] at c1
        have Hf := Lib.hid hf
        have Ha := Lib.hid ha
        have Hb := Lib.hid hb
        clear hf ha hb
        go_enter Try.func65, Try.ntmps65
        go_wp2
        go_ret
        refine ⟨ret_int (by unfold turnE; rw [he.out]; rfl), ?_, Kept.cellAt w B n _⟩
        unfold turnF
        rw [he.out, Hb.out]
        exact hm.out.set n b
      · have he : Hid (canTurn f (n : Int) a = false) := Lib.hid (by rw [hc.out]; simp [hf])
        have hne : ((f n : Int) != za) = true := by rw [ha]; simp; omega
        have Ha := Lib.hid ha
        have Hb := Lib.hid hb
        clear hf ha hb
        go_enter Try.func65, Try.ntmps65
        go_wp2
        go_ret
        refine ⟨ret_int (by unfold turnE; rw [he.out]; rfl), ?_, Kept.refl _ _⟩
        unfold turnF
        rw [he.out]
        exact hm.out
    · have he := Lib.hid (cannot_turn f (i := i) (by omega) a)
      clear ha hb
      go_enter Try.func65, Try.ntmps65
      go_wp2
      go_ret
      refine ⟨ret_int (by unfold turnE; rw [he.out]; rfl), ?_, Kept.refl _ _⟩
      unfold turnF
      rw [he.out]
      exact hm.out
  · have he := Lib.hid (cannot_turn f (i := i) (by omega) a)
    clear ha hb
    go_enter Try.func65, Try.ntmps65
    go_wp2
    go_ret
    refine ⟨ret_int (by unfold turnE; rw [he.out]; rfl), ?_, Kept.refl _ _⟩
    unfold turnF
    rw [he.out]
    exact hm.out

theorem Free_any (B : Nat) (f : Nat → Nat) (i : Int) (w : World) (hm : MapAt w B f) (hi : I64 i) : Calls Try.prog 53 #[.pointer (some ⟨B, 0, none⟩), .int .i64 i] w fun e w' =>
      e = .returned (.int .i64 (turnE f i 2)) ∧ MapAt w' B (turnF f i 2 1) ∧ Kept (· = B) w w' := by
  have hm := Lib.hid hm
  have hi := Lib.hid hi
  go_enter Try.func53, Try.ntmps53
  go_wp2_with fail
  refine (turn_any B f i 2 1 2 1 rfl rfl w hm.out hi.out).mono ?_
  rintro e w1 ⟨rfl, hm1, hk⟩
  have hm1 := Lib.hid hm1
  have hk := Lib.hid hk
  go_wp2
  go_ret
  exact ⟨rfl, hm1.out, hk.out⟩
end Go.Proofs.Ytgdefibkemkejaa

/- A map's Alloc and Many. -/
namespace Go.Proofs.Ytgdefibkemkejaa
open Go.ChangeShapes Go.WideShapes Go.ChangeAt Go.RowKit
set_option linter.unusedVariables false
set_option maxRecDepth 20000

/-- what Alloc answers -/
def allocI (f : Nat → Nat) : Int := match allocO f with
  | some i => (i : Int)
  | none => 0
def allocE (f : Nat → Nat) : Int := match allocO f with
  | some i => 0
  | none => 71

theorem alloc_idx (f : Nat → Nat) : (∃ j : Nat, idxI (fun j => f (64 * bestS f + j) == 1) 64 = (j : Int) ∧ j < 64 ∧ allocO f = some (64 * bestS f + j)) ∨ (idxI (fun j => f (64 * bestS f + j) == 1) 64 = -1 ∧ allocO f = none) := by
  have hx : allocO f = (idxF (fun j => f (64 * bestS f + j) == 1) 64).map (64 * bestS f + ·) := rfl
  rw [hx]
  unfold idxI
  cases h : idxF (fun j => f (64 * bestS f + j) == 1) 64 with
  | none => exact .inr ⟨rfl, rfl⟩
  | some j => exact .inl ⟨j, rfl, (idxF_some h).1, rfl⟩

set_option maxHeartbeats 1000000 in
theorem Alloc_any (B : Nat) (f : Nat → Nat) (w : World) (hm : MapAt w B f) :
    Calls Try.prog 51 #[.pointer (some ⟨B, 0, none⟩)] w fun e w' =>
      e = .returned (.tuple #[.int .i64 (allocI f), .int .i64 (allocE f)]) ∧ MapAt w' B (updO f (allocO f)) ∧ Kept (· = B) w w' := by
  have hBw := hm.lt
  have hm := Lib.hid hm
  have hs := bestS_lt f
  have hx := alloc_idx f
  obtain ⟨s, hsd⟩ : ∃ s, s = bestS f := ⟨_, rfl⟩
  rw [← hsd] at hs hx
  have hcut := cut_arr B ((s : Int) * 64) ((s : Int) * 64 + 64) w (by omega) (by omega) (by omega)
  rw [show ((s : Int) * 64 + 64 - (s : Int) * 64).toNat = 64 from by omega, show ((s : Int) * 64).toNat = 64 * s from by omega] at hcut
  have Hsd := Lib.hid hsd
  clear hsd
  rcases hx with ⟨j, hi, hj, ho⟩ | ⟨hi, ho⟩
  · have Hi := Lib.hid hi
    have Ho := Lib.hid ho
    clear hi ho
    have c1 := hm.out.cell (i := s * 64 + j) (by omega)
    have c2 := hm.out.frozen (s * 64 + j)
    go_enter Try.func51, Try.ntmps51
    go_wp2_with fail
    refine (roomiest_any B f w hm.out).mono ?_
    rintro e w1 ⟨rfl, rfl⟩
    rw [← Hsd.out]
    go_wp2_with fail
    refine (Index_any B (64 * s) 64 _ f w1 hm.out (by omega)).mono ?_
    rintro e w1 ⟨rfl, rfl⟩
    rw [Hi.out]
    go_wp2
    refine bodyPost_ret (v := .tuple #[.int .i64 ((s : Int) * 64 + j), .int .i64 0]) (by simp [results, Try.results51, go_sem]) rfl ?_
    refine ⟨by unfold allocI allocE; rw [Ho.out]; simp; omega, ?_, Kept.cellAt w1 B (s * 64 + j) _⟩
    rw [Ho.out, show 64 * s + j = s * 64 + j from by omega]
    exact hm.out.set (s * 64 + j) 2
  · have Hi := Lib.hid hi
    have Ho := Lib.hid ho
    clear hi ho
    go_enter Try.func51, Try.ntmps51
    go_wp2_with fail
    refine (roomiest_any B f w hm.out).mono ?_
    rintro e w1 ⟨rfl, rfl⟩
    rw [← Hsd.out]
    go_wp2_with fail
    refine (Index_any B (64 * s) 64 _ f w1 hm.out (by omega)).mono ?_
    rintro e w1 ⟨rfl, rfl⟩
    rw [Hi.out]
    go_wp2
    refine bodyPost_ret (v := .tuple #[.int .i64 0, .int .i64 71]) (by simp [results, Try.results51, go_sem]) rfl ?_
    refine ⟨by unfold allocI allocE; rw [Ho.out], ?_, Kept.refl _ _⟩
    rw [Ho.out]
    exact hm.out
end Go.Proofs.Ytgdefibkemkejaa

/- A map's Many. -/
namespace Go.Proofs.Ytgdefibkemkejaa
open Go.ChangeShapes Go.WideShapes Go.ChangeAt Go.RowKit
set_option linter.unusedVariables false
set_option maxRecDepth 20000

theorem kept_pushed {w w' : World} {base : Nat} {e : TypeId} {size n : Nat} {v : Value} {xs : List Value} (hown : w.ownsRow base e size v n xs) (hg : w.grownBy w' v.ownBlock) : Kept (fun k => base ≤ k) w w' :=
  Kept.of_grown hg fun k ek _ => (World.ownsRow.lt hown k ek).1

theorem OwnI.kept {w w' : World} {base : Nat} {v : Value} {zs : List Int} {F : Nat → Prop} (h : OwnI w base v zs) (hb : Kept F w w') (hF : ∀ k, base ≤ k → ¬ F k) : OwnI w' base v zs := by
  obtain ⟨hl, h | h⟩ := h
  · exact ⟨hl, .inl h⟩
  · obtain ⟨g, cap, cur, rfl, h1, h2, h3⟩ := h
    refine ⟨hl, .inr ⟨g, cap, cur, rfl, h1, ?_, h3⟩⟩
    have : g < w.heap.size := by
      by_cases hb : g < w.heap.size
      · exact hb
      · rw [Array.getElem?_eq_none (by omega)] at h2; simp at h2
    rw [hb.block g this (hF g h1), h2]

def manyE (f : Nat → Nat) (n : Int) : Int := if n ≤ (countN f : Int) then 0 else 71
def manyI (f : Nat → Nat) (n : Int) : List Int := if n ≤ (countN f : Int) then (manyL f n.toNat).map Int.ofNat else []
def manyM (f : Nat → Nat) (n : Int) : Nat → Nat := if n ≤ (countN f : Int) then manyF f n.toNat else f

theorem manyI_none (f : Nat → Nat) {n : Int} (h : n ≤ 0) : manyE f n = 0 ∧ manyI f n = [] ∧ manyM f n = f := by
  have h1 : n ≤ (countN f : Int) := by omega
  unfold manyE manyI manyM
  rw [if_pos h1, if_pos h1, if_pos h1, show n.toNat = 0 from by omega]
  exact ⟨rfl, rfl, rfl⟩
theorem manyI_no (f : Nat → Nat) {n : Int} (h : ¬ n ≤ (countN f : Int)) : manyE f n = 71 ∧ manyI f n = [] ∧ manyM f n = f := by
  unfold manyE manyI manyM
  rw [if_neg h, if_neg h, if_neg h]
  exact ⟨rfl, rfl, rfl⟩
theorem manyI_yes (f : Nat → Nat) {n : Nat} (h : n ≤ countN f) : manyE f n = 0 ∧ manyI f n = (manyL f n).map Int.ofNat ∧ manyM f n = manyF f n := by
  have h1 : (n : Int) ≤ (countN f : Int) := by omega
  unfold manyE manyI manyM
  rw [if_pos h1, if_pos h1, if_pos h1, show (n : Int).toNat = n from by omega]
  exact ⟨rfl, rfl, rfl⟩

end Go.Proofs.Ytgdefibkemkejaa

/- What a map tells of sectors that are this: all, Commit, Taken, Waiting. -/
namespace Go.Proofs.Ytgdefibkemkejaa
open Go.ChangeShapes Go.WideShapes Go.ChangeAt Go.RowKit
set_option linter.unusedVariables false
set_option maxRecDepth 20000

theorem info_arr (f : Nat → Nat) : (Try.prog.info? 99).map (·.size) = some (stsL f).length := by rw [stsL_length]; kernel_rfl
theorem info_map (f : Nat → Nat) : (Try.prog.info? 101).map (·.size) = some (stsL f).length := by rw [stsL_length]; kernel_rfl

theorem MapAt.range {w : World} {B : Nat} {f : Nat → Nat} (h : MapAt w B f) : w.rangeAt B 0 (stsL f) := Blk.range h fun j v hv => by rw [Nat.zero_add]; exact hv

/-- which sectors are this -/
def allB (f : Nat → Nat) (s : Nat) (j : Nat) : Bool := f j == s
def allL (f : Nat → Nat) (s : Nat) : List Int := numsL (allB f s) 1024

theorem arr_get (f : Nat → Nat) {i : Nat} (h : i < 1024) : (stsL f).toArray[i]? = some (.int .u8 (f i : Int)) := by simp [stsL_get f h]

/-- 'a[i]' of such an array by value -/
theorem idx_arr (cs : Array Value) (k : Nat) (hk : k < 1024) (v : Value) (hv : cs[k]? = some v) (w : World) :
    Sem.run Try.prog (Instr.index 99 (.agg cs) (.int .i64 (k : Int))) w = .ok v w := by
  have hu : Try.prog.underlying 99 = some (.array 1024 90) := by kernel_rfl
  simp [Instr.index, run_underlying hu, asIntOf, hk, part, hv, go_sem]

set_option maxHeartbeats 2000000 in
theorem all_any (B : Nat) (f : Nat → Nat) (zs : Int) (s : Nat) (hs : zs = s) (w : World) (hm : MapAt w B f) :
    Calls Try.prog 41 #[.pointer (some ⟨B, 0, none⟩), .int .u8 zs] w fun e w' => ∃ v, e = .returned v ∧ OwnI w' w.heap.size v (allL f s) ∧ Below w.heap.size w w' := by
  have hBw := hm.lt
  have Hs := Lib.hid hs
  clear hs
  obtain ⟨i0, hi, hz0, hz1, hz2⟩ := info_parts sInfoInt
  have hm := Lib.hid hm
  have hsz := stsL_length f
  have hget := Lib.hid (fun (i : Nat) (h : i < 1024) => arr_get f h)
  go_enter Try.func41, Try.ntmps41
  go_wp2_with (refine wpList_load_mid rfl 99 _ rfl B 0 (by rfl) (stsL f) _ hm.out.range Try.underlying99 rfl (info_arr f) ?_)
  obtain ⟨cs, hcs⟩ : ∃ cs, cs = (stsL f).toArray := ⟨_, rfl⟩
  rw [← hcs]
  have hcz : cs.size = 1024 := by rw [hcs]; simp [stsL_length]
  have hget : Hid (∀ i : Nat, i < 1024 → cs[i]? = some (.int .u8 (f i : Int))) := Lib.hid (by rw [hcs]; exact hget.out)
  clear hcs
  go_loopw [5, 12] (fun l i wr => ∃ k : Nat, k ≤ 1024 ∧ i = .int .i64 k ∧ OwnI wr w.heap.size l (numsL (allB f s) k) ∧ Below w.heap.size w wr)
    (fun _ i _ => 1024 - (intOf i).toNat)
  case atStart => exact ⟨0, by omega, rfl, World.ownsRow_nil _ _ _ _, Below.refl _ _⟩
  case round =>
    obtain ⟨k, hk, rfl, hown, hb⟩ := hrel
    have hnl := numsL_length (allB f s) k
    by_cases hlt : k < 1024
    · have c1 := hget.out k hlt
      have hb0 := hb.size
      have hb := Lib.hid hb
      have hown := Lib.hid hown
      by_cases hf : f k = s
      · have hix := idx_arr cs k hlt _ c1 wr
        have hfk : Hid (allB f s k = true) := Lib.hid (by simp [allB, hf])
        rw [hf, ← Hs.out] at hix
        clear c1
        have Hf := Lib.hid hf
        clear hf
        go_wp2_with (at_builtin; go_loud (refine wpList_push rfl _ _ 46 rfl w.heap.size 3 i0 _ 1 8 Try.underlying46 hi hz0 hz1 hz2 rfl (by decide) u5 _ _ wr rfl hown.out.row 1 #[.int .i64 k] rfl rfl rfl (by omega) (by omega) hb0 ?_); intro v' w' ho hg hv; obtain ⟨g, cap, rfl⟩ := hv; have hg := Lib.hid hg; have ho := Lib.hid ho)
        go_roundw
        case rel => exact ⟨k + 1, by omega, by go_num, by rw [numsL_succ, hfk.out]; exact OwnI.pushed ho.out, Below.pushed hb.out hown.out.row hg.out (Nat.le_refl _) hb0⟩
        case measure => simp [intOf] <;> omega
      · have hix := idx_arr cs k hlt _ c1 wr
        clear c1
        have hfk : Hid (allB f s k = false) := Lib.hid (by simp [allB, hf])
        have hne : ((f k : Int) == zs) = false := by rw [Hs.out]; simp; omega
        have Hf := Lib.hid hf
        clear hf
        go_wp2
        go_roundw
        case rel => exact ⟨k + 1, by omega, by go_num, by rw [numsL_succ, hfk.out]; exact hown.out, hb.out⟩
        case measure => simp [intOf] <;> omega
    · obtain rfl : k = 1024 := by omega
      go_wp2
      go_ret
      exact ⟨_, rfl, hown, hb⟩

set_option maxHeartbeats 1000000 in
theorem Taken_any (B : Nat) (f : Nat → Nat) (w : World) (hm : MapAt w B f) :
    Calls Try.prog 20 #[.pointer (some ⟨B, 0, none⟩)] w fun e w' => ∃ v, e = .returned v ∧ OwnS w' w.heap.size v (runs (maskOf (allL f 2)) 4096) ∧ Below w.heap.size w w' := by
  have hm := Lib.hid hm
  have hfi : Hid (FitsI (allL f 2)) := Lib.hid (numsL_map _ _ (by omega))
  go_enter Try.func20, Try.ntmps20
  go_wp2_with fail
  refine (all_any B f 2 2 rfl w hm.out).mono ?_
  rintro e w1 ⟨v, rfl, ho, hb⟩
  obtain ⟨ao, cap, rfl, hn⟩ := ho.nums
  have hs := hb.size
  have hb := Lib.hid hb
  have hn := Lib.hid hn
  clear ho
  go_wp2_with fail
  refine (sOf_any ao cap _ w1 hn.out hfi.out).mono ?_
  rintro e w2 ⟨v, rfl, ho, hb2⟩
  have ho := Lib.hid ho
  have hb2 := Lib.hid hb2
  go_wp2
  go_ret
  exact ⟨_, rfl, ho.out.le hs, hb.out.trans (hb2.out.mono hs)⟩

/-- what a Commit has done so far -/
def comF (f : Nat → Nat) (zs : List Int) (j : Nat) : Nat := if (j : Int) ∈ zs then 1 else f j

theorem comF_snoc (f : Nat → Nat) (zs : List Int) (m : Nat) : comF f (zs ++ [(m : Int)]) = upd (comF f zs) m 1 := by
  funext j
  unfold comF upd
  by_cases e : j = m
  · subst e; simp
  · have : ¬ (j : Int) = (m : Int) := fun h => e (by omega)
    simp [e, this]

theorem allL_mem (f : Nat → Nat) (s : Nat) (z : Int) : z ∈ allL f s ↔ ∃ j : Nat, z = j ∧ j < 1024 ∧ f j = s := by
  unfold allL numsL allB
  simp only [List.mem_map, List.mem_filter, List.mem_range]
  constructor
  · rintro ⟨j, ⟨h1, h2⟩, rfl⟩; exact ⟨j, rfl, h1, by simpa using h2⟩
  · rintro ⟨j, rfl, h1, h2⟩; exact ⟨j, ⟨h1, by simp [h2]⟩, rfl⟩

theorem comF_all (f : Nat → Nat) {j : Nat} (hj : j < 1024) : comF f (allL f 3) j = commitF f j := by
  unfold comF commitF
  by_cases h : f j = 3
  · rw [if_pos h, if_pos ((allL_mem f 3 _).2 ⟨j, rfl, hj, h⟩)]
  · rw [if_neg h, if_neg]
    intro hm
    obtain ⟨k, e, _, hk⟩ := (allL_mem f 3 _).1 hm
    have : j = k := by omega
    subst this
    exact h hk

end Go.Proofs.Ytgdefibkemkejaa

/- A map's Copy and New. -/
namespace Go.Proofs.Ytgdefibkemkejaa
open Go.ChangeShapes Go.WideShapes Go.ChangeAt Go.RowKit
set_option linter.unusedVariables false
set_option maxRecDepth 20000

theorem sts_none : Array.replicate 1024 (Value.int .u8 0) = (stsL fun _ => 0).toArray := by
  apply Array.ext
  · simp [stsL]
  · intro i h1 h2
    simp [stsL]

theorem zeroMap (w : World) : Sem.run Try.prog (zeroValue 101) w = .ok (.agg (stsL fun _ => 0).toArray) w := by
  rw [← sts_none]
  kernel_rfl

theorem setRow_alloc (w : World) (cs cs' : Array Value) (T : TypeId) : (w.alloc (.cells cs T)).setRow w.heap.size cs' = w.alloc (.cells cs' T) := by
  have e : ((w.alloc (.cells cs T)).setRow w.heap.size cs').heap = (w.alloc (.cells cs' T)).heap := ?_
  · show { (w.alloc (.cells cs T)) with heap := ((w.alloc (.cells cs T)).setRow w.heap.size cs').heap } = _
    rw [e]
    rfl
  unfold World.setRow World.alloc
  apply Array.ext_getElem?
  intro k
  rw [Array.getElem?_modify]
  by_cases hk : w.heap.size = k
  · subst hk; simp
  · have hk' : k ≠ w.heap.size := fun e => hk e.symm
    simp [hk, hk', Array.getElem?_push]

theorem store_map_new {P : Program} (w : World) (T : TypeId) (f g : Nat → Nat) : Sem.run P (storeCells ⟨w.heap.size, 0, none⟩ (stsL g)) (w.alloc (.cells (stsL f).toArray T)) = .ok () (w.alloc (.cells (stsL g).toArray T)) := by
  have h := splice_blk (P := P) (Blk.new w T (stsL f)) 0 (stsL g) (by simp [stsL_length]) (stsL_one g)
  rw [List.take_zero, List.drop_of_length_le (by simp [stsL_length]), List.nil_append, List.append_nil, setRow_alloc] at h
  exact h

/-- what New has laid so far -/
def newU (total : Int) (k i : Nat) : Nat := if 4 ≤ i ∧ (i : Int) < total ∧ i < k then 1 else 0

theorem newU_step {total : Int} {k : Nat} (h : (k : Int) < total) (h4 : 4 ≤ k) : upd (newU total k) k 1 = newU total (k + 1) := by
  funext j
  unfold upd newU
  by_cases e : j = k
  · subst e; rw [if_pos rfl, if_pos ⟨h4, h, by omega⟩]
  · rw [if_neg e]
    by_cases c : 4 ≤ j ∧ (j : Int) < total ∧ j < k
    · rw [if_pos c, if_pos ⟨c.1, c.2.1, by omega⟩]
    · rw [if_neg c, if_neg fun c' => c ⟨c'.1, c'.2.1, by omega⟩]

theorem newU_end {total : Int} {k : Nat} (h : k = 1024 ∨ total ≤ k) (hk : k ≤ 1024) (i : Nat) (hi : i < 1024) : newU total k i = newS total i := by
  unfold newU newS
  by_cases c : 4 ≤ i ∧ (i : Int) < total ∧ i < k
  · rw [if_pos c, if_pos ⟨c.1, c.2.1, hi⟩]
  · rw [if_neg c, if_neg fun c' => c ⟨c'.1, c'.2.1, by omega⟩]

set_option maxHeartbeats 2000000 in
theorem New_map (total : Int) (w : World) (ht : I64 total) :
    Calls Try.prog 31 #[.int .i64 total] w fun e w' => e = .returned (.pointer (some ⟨w.heap.size, 0, none⟩)) ∧ MapAt w' w.heap.size (newS total) ∧ Below w.heap.size w w' := by
  have hz := zeroMap
  have hsz := stsL_length
  unfold I64 at ht
  go_enter Try.func31, Try.ntmps31
  go_wp2
  go_loopw [4] (fun i wr => ∃ k : Nat, 4 ≤ k ∧ k ≤ 1024 ∧ i = .int .i64 k ∧ MapAt wr w.heap.size (newU total k) ∧ Below w.heap.size w wr)
    (fun i _ => 1024 - (intOf i).toNat)
  case atStart => exact ⟨4, by omega, by omega, rfl, MapAt.congr (Blk.new w _ (stsL fun _ => 0)) (fun i _ => by unfold newU; rw [if_neg (by omega)]), (Below.refl _ _).alloc (Nat.le_refl _) _⟩
  case round =>
    obtain ⟨k, hk4, hk, rfl, hmr, hb⟩ := hrel
    by_cases hlt : (k : Int) < total ∧ k < 1024
    · obtain ⟨h1, h2⟩ := hlt
      have c2 := hmr.cell h2
      have f2 := hmr.frozen k
      have hlt2 := hmr.lt
      have hstep := Lib.hid (newU_step h1 hk4)
      have hmr := Lib.hid hmr
      have hb := Lib.hid hb
      rcases Int.lt_trichotomy total 1024 with h3 | h3 | h3
      all_goals
        go_wp2
        go_roundw
        case rel => exact ⟨k + 1, by omega, by omega, by go_num, by rw [← hstep.out]; exact hmr.out.set k 1, hb.out.setCell (Nat.le_refl _) _⟩
        case measure => simp [intOf] <;> omega
    · have hend := Lib.hid (newU_end (total := total) (k := k) (by omega) hk)
      have hmr := Lib.hid hmr
      have hb := Lib.hid hb
      rcases Int.lt_trichotomy total 1024 with h3 | h3 | h3
      all_goals
        go_wp2
        go_ret
        exact ⟨rfl, hmr.out.congr hend.out, hb.out⟩
end Go.Proofs.Ytgdefibkemkejaa
