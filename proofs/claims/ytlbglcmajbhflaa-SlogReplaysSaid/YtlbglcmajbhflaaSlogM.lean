/- Moves as plain data: where they lead, the moves from one set to another, their bytes. -/
import Derived.Test.YtlbglcmajbhflaaSpanR
import Derived.Test.YtlbglcmajbhflaaFieldG
namespace Go.Proofs.Ytlbglcmajbhflaa
open Go.ChangeShapes Go.WideShapes Go.ChangeAt Go.RowKit
set_option linter.unusedVariables false
set_option maxRecDepth 20000

/-! ### Replay -/
/-- behind a move's numbers are as it makes them -/
def doF (f : Nat → Bool) (t : Bool) (s n : Int) : Nat → Bool := fun j => if s ≤ (j : Int) ∧ (j : Int) < s + n then t else f j
/-- none of its numbers is so ahead of it -/
def Can (f : Nat → Bool) (t : Bool) (s n : Int) : Prop := ∀ j : Nat, s ≤ (j : Int) → (j : Int) < s + n → f j = !t

/-- the same, to be worked out (of moves that are right) -/
def canB (f : Nat → Bool) (t : Bool) (s n : Int) : Bool := (List.range 4096).all fun j => !decide (s ≤ (j : Int) ∧ (j : Int) < s + n) || (f j == !t)
theorem canB_iff {f : Nat → Bool} {t : Bool} {s n : Int} (h : withinB s n = true) : canB f t s n = true ↔ Can f t s n := by
  have hw := withinB_true h
  unfold canB Can
  rw [List.all_eq_true]
  constructor
  · intro hh j h1 h2
    have := hh j (List.mem_range.2 (by omega))
    rw [show decide (s ≤ (j : Int) ∧ (j : Int) < s + n) = true from decide_eq_true ⟨h1, h2⟩] at this
    simpa using this
  · intro hh j _
    by_cases hj : s ≤ (j : Int) ∧ (j : Int) < s + n
    · rw [hh j hj.1 hj.2]; simp
    · rw [decide_eq_false hj]; rfl

/-- marks behind moves -/
def replayF : (Nat → Bool) → List (Bool × Int × Int) → Option (Nat → Bool)
  | f, [] => some f
  | f, (t, s, n) :: r => if (withinB s n && canB f t s n) = true then replayF (doF f t s n) r else none

/-- a set behind moves -/
def replayL (xs : List (Int × Int)) (ms : List (Bool × Int × Int)) : Option (List (Int × Int)) :=
  if rightFrom 0 xs = true then (replayF (maskS xs) ms).map (fun g => runs g 4096) else none

theorem replayF_nil (f : Nat → Bool) : replayF f [] = some f := rfl
theorem replayF_cons (f : Nat → Bool) (t : Bool) (s n : Int) (r : List (Bool × Int × Int)) : replayF f ((t, s, n) :: r) = if (withinB s n && canB f t s n) = true then replayF (doF f t s n) r else none := rfl
theorem replayF_go {f : Nat → Bool} {t : Bool} {s n : Int} {r : List (Bool × Int × Int)} (h : withinB s n = true) (hc : Can f t s n) : replayF f ((t, s, n) :: r) = replayF (doF f t s n) r := by
  rw [replayF_cons, if_pos (by rw [h, (canB_iff h).2 hc]; rfl)]
theorem replayF_wrong {f : Nat → Bool} {t : Bool} {s n : Int} {r : List (Bool × Int × Int)} (h : withinB s n = false) : replayF f ((t, s, n) :: r) = none := by
  rw [replayF_cons, if_neg (by rw [h]; simp)]
theorem replayF_stop {f : Nat → Bool} {t : Bool} {s n : Int} {r : List (Bool × Int × Int)} (hc : ¬ Can f t s n) : replayF f ((t, s, n) :: r) = none := by
  cases h : withinB s n
  · exact replayF_wrong h
  · rw [replayF_cons, if_neg (by rw [h, Bool.true_and]; exact fun hh => hc ((canB_iff h).1 hh))]
/-- a move goes on, or nothing does -/
theorem replayF_or (f : Nat → Bool) (t : Bool) (s n : Int) : (withinB s n = true ∧ Can f t s n) ∨ ∀ r, replayF f ((t, s, n) :: r) = none := by
  cases h : withinB s n
  · exact .inr fun r => replayF_wrong h
  · by_cases hc : Can f t s n
    · exact .inl ⟨rfl, hc⟩
    · exact .inr fun r => replayF_stop hc

theorem replayF_append (f : Nat → Bool) (xs ys : List (Bool × Int × Int)) : replayF f (xs ++ ys) = (replayF f xs).bind (fun g => replayF g ys) := by
  induction xs generalizing f with
  | nil => rfl
  | cons m r ih =>
    obtain ⟨t, s, n⟩ := m
    rw [List.cons_append]
    rcases replayF_or f t s n with h | e
    · rw [replayF_go h.1 h.2, replayF_go h.1 h.2, ih]
    · rw [e, e]; rfl

/-- nothing is marked from 4096 on -/
def Low (f : Nat → Bool) : Prop := ∀ j, 4096 ≤ j → f j = false
theorem Low.mask {xs : List (Int × Int)} (h : rightFrom 0 xs = true) : Low (maskS xs) := fun j hj => by
  cases e : maskS xs j
  · rfl
  · have := hasL_range (right_good h) e; omega
theorem Low.step {f : Nat → Bool} {t : Bool} {s n : Int} (h : Low f) (hw : withinB s n = true) : Low (doF f t s n) := fun j hj => by
  have := withinB_true hw
  unfold doF
  rw [if_neg (by omega)]
  exact h j hj
theorem Low.replay {f g : Nat → Bool} {ms : List (Bool × Int × Int)} (h : Low f) (hr : replayF f ms = some g) : Low g := by
  induction ms generalizing f with
  | nil => rw [replayF_nil] at hr; cases hr; exact h
  | cons m r ih =>
    obtain ⟨t, s, n⟩ := m
    rcases replayF_or f t s n with hc | e
    · rw [replayF_go hc.1 hc.2] at hr
      exact ih (h.step hc.1) hr
    · rw [e] at hr; cases hr
theorem mask_runs {g : Nat → Bool} (h : Low g) : maskS (runs g 4096) = g := by
  funext j
  by_cases hj : j < 4096
  · exact runs_mask g hj
  · rw [h j (by omega), Low.mask (runs_right g) j (by omega)]

theorem replayL_wrong {xs : List (Int × Int)} (h : rightFrom 0 xs = false) (ms : List (Bool × Int × Int)) : replayL xs ms = none := by
  unfold replayL; rw [if_neg (by rw [h]; simp)]
theorem replayL_right {xs : List (Int × Int)} (h : rightFrom 0 xs = true) (ms : List (Bool × Int × Int)) : replayL xs ms = (replayF (maskS xs) ms).map (fun g => runs g 4096) := by
  unfold replayL; rw [if_pos h]
theorem replayL_set {xs ys : List (Int × Int)} {ms : List (Bool × Int × Int)} (h : replayL xs ms = some ys) : rightFrom 0 ys = true := by
  unfold replayL at h
  split at h
  · cases e : replayF (maskS xs) ms with
    | none => rw [e] at h; simp at h
    | some g => rw [e] at h; simp at h; subst h; exact runs_right g
  · cases h
theorem replayL_runs {xs : List (Int × Int)} {ms : List (Bool × Int × Int)} {g : Nat → Bool} (h : rightFrom 0 xs = true) (e : replayF (maskS xs) ms = some g) : replayL xs ms = some (runs g 4096) := by
  rw [replayL_right h, e]; rfl

/-- in two parts -/
theorem replayL_append {xs : List (Int × Int)} (h : rightFrom 0 xs = true) (ms ns : List (Bool × Int × Int)) : replayL xs (ms ++ ns) = (replayL xs ms).bind (fun ys => replayL ys ns) := by
  rw [replayL_right h, replayL_right h, replayF_append]
  cases e : replayF (maskS xs) ms with
  | none => rfl
  | some g =>
    show (replayF g ns).map _ = replayL (runs g 4096) ns
    rw [replayL_right (runs_right g), mask_runs ((Low.mask h).replay e)]

theorem replayL_nil {xs : List (Int × Int)} (h : rightFrom 0 xs = true) : replayL xs [] = some xs := by
  rw [replayL_right h, replayF_nil]
  simp only [Option.map_some]
  rw [runs_of_right h]

/-! ### Diff -/
def cutS (xs ys : List (Int × Int)) : List (Int × Int) := runs (fun j => maskS xs j && !maskS ys j) 4096
def movesOf (t : Bool) (xs : List (Int × Int)) : List (Bool × Int × Int) := xs.map fun p => (t, p.1, p.2)
def diffL (xs ys : List (Int × Int)) : List (Bool × Int × Int) :=
  if rightFrom 0 xs = true ∧ rightFrom 0 ys = true then movesOf false (cutS xs ys) ++ movesOf true (cutS ys xs) else []

theorem movesOf_length (t : Bool) (xs : List (Int × Int)) : (movesOf t xs).length = xs.length := by simp [movesOf]
theorem movesOf_cons (t : Bool) (s n : Int) (xs : List (Int × Int)) : movesOf t ((s, n) :: xs) = (t, s, n) :: movesOf t xs := rfl
theorem movesOf_append (t : Bool) (xs ys : List (Int × Int)) : movesOf t (xs ++ ys) = movesOf t xs ++ movesOf t ys := by simp [movesOf]

/-- a set's spans one by one: each number changes once -/
theorem replayF_movesOf (t : Bool) {low : Int} {xs : List (Int × Int)} (hr : rightFrom low xs = true) (f : Nat → Bool) (h : ∀ j, maskS xs j = true → f j = !t) :
    replayF f (movesOf t xs) = some (fun j => if maskS xs j then t else f j) := by
  induction xs generalizing low f with
  | nil => simp [movesOf, replayF_nil, maskS, hasL]
  | cons p r ih =>
    obtain ⟨s, n⟩ := p
    have hrr := hr
    simp only [rightFrom, Bool.and_eq_true, decide_eq_true_eq] at hrr
    obtain ⟨⟨hw, hl⟩, hr'⟩ := hrr
    obtain ⟨g0, g1, g2⟩ := withinB_true hw
    have hm : ∀ j : Nat, maskS ((s, n) :: r) j = (decide (s ≤ (j : Int) ∧ (j : Int) < s + n) || maskS r j) := fun j => by unfold maskS; rw [hasL_cons]
    have hlow : ∀ j : Nat, (j : Int) < s + n + 1 → maskS r j = false := fun j hj => right_low hr' hj
    rw [movesOf_cons, replayF_go hw (fun j h1 h2 => h j (by rw [hm]; simp [h1, h2])), ih hr' (doF f t s n) (fun j hj => by
      have h1 : ¬ ((j : Int) < s + n + 1) := fun hh => by rw [hlow j hh] at hj; cases hj
      unfold doF
      rw [if_neg (by omega)]
      exact h j (by rw [hm, hj]; simp))]
    congr 1
    funext j
    rw [hm]
    unfold doF
    by_cases hin : s ≤ (j : Int) ∧ (j : Int) < s + n
    · simp [hin]
    · simp [hin]

theorem cutS_right (xs ys : List (Int × Int)) : rightFrom 0 (cutS xs ys) = true := runs_right _
theorem cutS_mask {xs : List (Int × Int)} (hx : rightFrom 0 xs = true) (ys : List (Int × Int)) : maskS (cutS xs ys) = fun j => maskS xs j && !maskS ys j :=
  mask_runs fun j hj => by rw [Low.mask hx j hj]; rfl

/-- a log leads where it says -/
theorem replay_diff {xs ys : List (Int × Int)} (hx : rightFrom 0 xs = true) (hy : rightFrom 0 ys = true) : replayL xs (diffL xs ys) = some ys := by
  have e : diffL xs ys = movesOf false (cutS xs ys) ++ movesOf true (cutS ys xs) := by unfold diffL; rw [if_pos ⟨hx, hy⟩]
  have h1 : replayF (maskS xs) (movesOf false (cutS xs ys)) = some (fun j => if maskS (cutS xs ys) j then false else maskS xs j) :=
    replayF_movesOf false (cutS_right xs ys) _ fun j hj => by rw [cutS_mask hx] at hj; simp at hj; simp [hj.1]
  have h2 : replayF (fun j => if maskS (cutS xs ys) j then false else maskS xs j) (movesOf true (cutS ys xs)) = some (fun j => if maskS (cutS ys xs) j then true else if maskS (cutS xs ys) j then false else maskS xs j) :=
    replayF_movesOf true (cutS_right ys xs) _ fun j hj => by
      rw [cutS_mask hy] at hj
      simp at hj
      simp [hj.2]
  have h3 : (fun j => if maskS (cutS ys xs) j then true else if maskS (cutS xs ys) j then false else maskS xs j) = maskS ys := by
    funext j
    rw [cutS_mask hx, cutS_mask hy]
    by_cases h1 : maskS xs j = true <;> by_cases h2 : maskS ys j = true <;> simp [h1, h2]
  rw [h3] at h2
  rw [replayL_right hx, e, replayF_append, h1]
  simp only [Option.bind_some]
  rw [h2]
  simp only [Option.map_some]
  rw [runs_of_right hy]

theorem diff_nil {ys : List (Int × Int)} (hy : rightFrom 0 ys = true) : diffL [] ys = movesOf true ys := by
  unfold diffL
  rw [if_pos ⟨rfl, hy⟩]
  have e1 : cutS [] ys = [] := by
    refine right_of_masks (cutS_right _ _) rfl fun j hj => ?_
    rw [cutS_mask rfl]
    simp [maskS, hasL]
  have e2 : cutS ys [] = ys := by
    refine right_of_masks (cutS_right _ _) hy fun j hj => ?_
    rw [cutS_mask hy]
    simp [maskS, hasL]
  rw [e1, e2]
  rfl
theorem diff_nil_length {ys : List (Int × Int)} (hy : rightFrom 0 ys = true) : (diffL [] ys).length = ys.length := by rw [diff_nil hy, movesOf_length]
theorem replay_condense {ys : List (Int × Int)} (hy : rightFrom 0 ys = true) : replayL [] (diffL [] ys) = some ys := replay_diff rfl hy

theorem cutS_length (xs ys : List (Int × Int)) : (cutS xs ys).length ≤ 4096 := runs_length _ _
theorem diffL_length (xs ys : List (Int × Int)) : (diffL xs ys).length ≤ 8192 := by
  unfold diffL
  have h1 := cutS_length xs ys
  have h2 := cutS_length ys xs
  split
  · simp only [List.length_append, movesOf_length]; omega
  · simp

/-! ### Bytes -/
def kindN (t : Bool) : Nat := if t then 1 else 0
def rightAll (ms : List (Bool × Int × Int)) : Bool := ms.all fun m => withinB m.2.1 m.2.2
def moveB (m : Bool × Int × Int) : List UInt8 := leB 1 (kindN m.1) ++ (leB 2 m.2.1.toNat ++ leB 2 m.2.2.toNat)
def flatB (ms : List (Bool × Int × Int)) : List UInt8 := ms.flatMap moveB
def bytesM (ms : List (Bool × Int × Int)) : Option (List UInt8) := if ms.length ≤ 4096 ∧ rightAll ms = true then some (flatB ms) else none

theorem moveB_length (m : Bool × Int × Int) : (moveB m).length = 5 := by simp [moveB, leB_length]
theorem flatB_length (ms : List (Bool × Int × Int)) : (flatB ms).length = 5 * ms.length := by
  induction ms with
  | nil => rfl
  | cons m r ih => simp only [flatB, List.flatMap_cons, List.length_append, List.length_cons, moveB_length] at *; omega
theorem flatB_append (a b : List (Bool × Int × Int)) : flatB (a ++ b) = flatB a ++ flatB b := by simp [flatB]
theorem flatB_one (m : Bool × Int × Int) : flatB [m] = moveB m := by simp [flatB]
theorem flatB_cons (m : Bool × Int × Int) (r : List (Bool × Int × Int)) : flatB (m :: r) = moveB m ++ flatB r := rfl
theorem rightAll_cons (t : Bool) (s n : Int) (r : List (Bool × Int × Int)) : rightAll ((t, s, n) :: r) = (withinB s n && rightAll r) := rfl

/-- the move of five bytes -/
def oneM (b : List UInt8) : Option (Bool × Int × Int) :=
  let k := valB (b.take 1)
  let s := valB ((b.drop 1).take 2)
  let n := valB ((b.drop 3).take 2)
  if k ≤ 1 ∧ withinB s n = true then some (k == 1, (s : Int), (n : Int)) else none

/-- so many moves of bytes -/
def readN : Nat → List UInt8 → Option (List (Bool × Int × Int))
  | 0, _ => some []
  | k + 1, b => match oneM (b.take 5) with
    | some m => (readN k (b.drop 5)).map (m :: ·)
    | none => none
def readM (b : List UInt8) : Option (List (Bool × Int × Int)) := if b.length % 5 = 0 ∧ b.length ≤ 20480 then readN (b.length / 5) b else none

theorem readN_step {N k : Nat} {B b : List UInt8} {m : Bool × Int × Int} {ms : List (Bool × Int × Int)} (h : readN N B = (readN (k + 1) b).map (ms ++ ·)) (hm : oneM (b.take 5) = some m) :
    readN N B = (readN k (b.drop 5)).map ((ms ++ [m]) ++ ·) := by
  rw [h]
  simp only [readN, hm, Option.map_map', List.append_assoc, List.singleton_append]
theorem readN_stop {N k : Nat} {B b : List UInt8} {ms : List (Bool × Int × Int)} (h : readN N B = (readN (k + 1) b).map (ms ++ ·)) (hm : oneM (b.take 5) = none) : readN N B = none := by
  rw [h]
  simp only [readN, hm, Option.map_none]
theorem readN_end {N : Nat} {B b : List UInt8} {ms : List (Bool × Int × Int)} (h : readN N B = (readN 0 b).map (ms ++ ·)) : readN N B = some ms := by
  rw [h]; simp [readN]

theorem oneM_moveB {t : Bool} {s n : Int} (h : withinB s n = true) : oneM (moveB (t, s, n)) = some (t, s, n) := by
  obtain ⟨g0, g1, g2⟩ := withinB_true h
  have hk : kindN t < 256 := by cases t <;> simp [kindN]
  have e1 : (moveB (t, s, n)).take 1 = leB 1 (kindN t) := by simp [moveB, leB]
  have e2 : ((moveB (t, s, n)).drop 1).take 2 = leB 2 s.toNat := by simp [moveB, leB]
  have e3 : ((moveB (t, s, n)).drop 3).take 2 = leB 2 n.toNat := by simp [moveB, leB]
  have v1 := valB_leB 1 (kindN t) (by simpa using hk)
  have v2 := valB_leB 2 s.toNat (by simp; omega)
  have v3 := valB_leB 2 n.toNat (by simp; omega)
  unfold oneM
  rw [e1, e2, e3, v1, v2, v3]
  have i1 : ((s.toNat : Nat) : Int) = s := by omega
  have i2 : ((n.toNat : Nat) : Int) = n := by omega
  simp only [i1, i2]
  cases t <;> simp [kindN, h]

theorem readN_flat {ms : List (Bool × Int × Int)} (h : rightAll ms = true) : readN ms.length (flatB ms) = some ms := by
  induction ms with
  | nil => rfl
  | cons m r ih =>
    obtain ⟨t, s, n⟩ := m
    rw [rightAll_cons, Bool.and_eq_true] at h
    have e1 : (flatB ((t, s, n) :: r)).take 5 = moveB (t, s, n) := by
      rw [flatB_cons, List.take_append_of_le_length (by rw [moveB_length]; omega), List.take_of_length_le (by rw [moveB_length]; omega)]
    have e2 : (flatB ((t, s, n) :: r)).drop 5 = flatB r := by
      rw [flatB_cons, ← moveB_length (t, s, n), List.drop_left]
    rw [List.length_cons]
    simp only [readN, e1, e2, oneM_moveB h.1, ih h.2, Option.map_some]

theorem bytesM_some {ms : List (Bool × Int × Int)} {b : List UInt8} (h : bytesM ms = some b) : ms.length ≤ 4096 ∧ rightAll ms = true ∧ b = flatB ms ∧ b.length = 5 * ms.length := by
  unfold bytesM at h
  split at h
  · rename_i hc
    cases h
    exact ⟨hc.1, hc.2, rfl, flatB_length ms⟩
  · cases h

/-- there and back -/
theorem read_bytes {ms : List (Bool × Int × Int)} {b : List UInt8} (h : bytesM ms = some b) : readM b = some ms := by
  obtain ⟨h1, h2, rfl, h4⟩ := bytesM_some h
  unfold readM
  rw [if_pos ⟨by omega, by omega⟩, h4, show 5 * ms.length / 5 = ms.length from by omega]
  exact readN_flat h2

/-- the error's number -/
def errM {α : Type} (o : Option α) : Int := match o with | some _ => 0 | none => 81

theorem right_one (s n : Int) : rightFrom 0 [(s, n)] = withinB s n := by
  simp only [rightFrom, Bool.and_true]
  cases h : withinB s n
  · rfl
  · have := withinB_true h
    simp [this.1]
theorem get_five {b : List UInt8} (h : b.length = 5) : getL [1, 2, 2] b = some [valB (b.take 1), valB ((b.drop 1).take 2), valB ((b.drop 3).take 2)] := by
  have e : ∀ c : List UInt8, c.length = 0 → getL [] c = some [] := fun c hc => by
    obtain rfl := List.eq_nil_of_length_eq_zero hc
    rfl
  have h1 : (b.drop 1).length = 4 := by simp; omega
  have h2 : ((b.drop 1).drop 2).length = 2 := by simp; omega
  have h3 : (((b.drop 1).drop 2).drop 2).length = 0 := by simp; omega
  have k3 : getL [2] ((b.drop 1).drop 2) = some [valB (((b.drop 1).drop 2).take 2)] := by
    have : getL [2] ((b.drop 1).drop 2) = if 1 ≤ (2 : Int) ∧ (2 : Int) ≤ 8 ∧ (2 : Int).toNat ≤ ((b.drop 1).drop 2).length then (getL [] (((b.drop 1).drop 2).drop (2 : Int).toNat)).map (valB (((b.drop 1).drop 2).take (2 : Int).toNat) :: ·) else none := rfl
    rw [this, if_pos ⟨by omega, by omega, by rw [h2]; decide⟩]
    rw [show (2 : Int).toNat = 2 from rfl, e _ h3]; rfl
  have k2 : getL [2, 2] (b.drop 1) = some [valB ((b.drop 1).take 2), valB (((b.drop 1).drop 2).take 2)] := by
    have : getL [2, 2] (b.drop 1) = if 1 ≤ (2 : Int) ∧ (2 : Int) ≤ 8 ∧ (2 : Int).toNat ≤ (b.drop 1).length then (getL [2] ((b.drop 1).drop (2 : Int).toNat)).map (valB ((b.drop 1).take (2 : Int).toNat) :: ·) else none := rfl
    rw [this, if_pos ⟨by omega, by omega, by rw [h1]; decide⟩]
    rw [show (2 : Int).toNat = 2 from rfl, k3]; rfl
  have k1 : getL [1, 2, 2] b = if 1 ≤ (1 : Int) ∧ (1 : Int) ≤ 8 ∧ (1 : Int).toNat ≤ b.length then (getL [2, 2] (b.drop (1 : Int).toNat)).map (valB (b.take (1 : Int).toNat) :: ·) else none := rfl
  rw [k1, if_pos ⟨by omega, by omega, by rw [h]; decide⟩]
  rw [show (1 : Int).toNat = 1 from rfl, k2, List.drop_drop]; rfl
theorem put_three {k s n : Nat} (hk : k < 256) (hs : s < 65536) (hn : n < 65536) : putL [1, 2, 2] [k, s, n] = some (leB 1 k ++ (leB 2 s ++ leB 2 n)) := by
  have c1 : (1 : Int) ≤ 1 ∧ (1 : Int) ≤ 8 ∧ k < 256 ^ (1 : Int).toNat := ⟨by omega, by omega, by simpa using hk⟩
  have c2 : (1 : Int) ≤ 2 ∧ (2 : Int) ≤ 8 ∧ s < 256 ^ (2 : Int).toNat := ⟨by omega, by omega, by simpa using hs⟩
  have c3 : (1 : Int) ≤ 2 ∧ (2 : Int) ≤ 8 ∧ n < 256 ^ (2 : Int).toNat := ⟨by omega, by omega, by simpa using hn⟩
  simp only [putL, if_pos c1, if_pos c2, if_pos c3, Option.map_some]
  simp
end Go.Proofs.Ytlbglcmajbhflaa
