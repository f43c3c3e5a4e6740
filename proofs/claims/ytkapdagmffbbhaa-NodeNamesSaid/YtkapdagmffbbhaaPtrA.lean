/- A pointer as plain data; Right, hole, Less and Since, the program's and the document's. -/
import Derived.Test.YtkapdagmffbbhaaFieldM
namespace Go.Proofs.Ytkapdagmffbbhaa
open Go.ChangeShapes Go.WideShapes Go.ChangeAt Go.RowKit
set_option linter.unusedVariables false
set_option maxRecDepth 20000
set_option linter.unusedSimpArgs false

/-- a pointer -/
structure P3 where
  a : Int
  b : Nat
  s : Nat

theorem P3.ext' {p q : P3} (h1 : p.a = q.a) (h2 : p.b = q.b) (h3 : p.s = q.s) : p = q := by cases p; cases q; simp_all

def p3z : P3 := ⟨0, 0, 0⟩
def p3V (p : P3) : Value := .agg #[.int .i64 p.a, .int .u64 (p.b : Int), .int .u32 (p.s : Int)]
/-- the parts are what their types hold -/
def P3.Fit (p : P3) : Prop := I64 p.a ∧ p.b < 18446744073709551616 ∧ p.s < 4294967296
def P3.eqB (p q : P3) : Bool := decide (p.a = q.a) && (decide (p.b = q.b) && decide (p.s = q.s))
def P3.holeB (p : P3) : Bool := decide (p.a = 0) && (decide (p.b = 0) && decide (p.s = 0))
def P3.rightB (p : P3) : Bool := p.holeB || (decide (4 ≤ p.a) && (decide (p.a ≤ 1023) && (decide (1 ≤ p.b) && decide (p.b ≤ 281474976710655))))
def P3.lessB (p q : P3) : Bool := decide (p.b < q.b ∨ (p.b = q.b ∧ (p.a < q.a ∨ (p.a = q.a ∧ p.s < q.s))))
def P3.sinceB (p : P3) (t : Nat) : Bool := !p.holeB && decide (t < p.b)

theorem P3.eqB_iff {p q : P3} : p.eqB q = true ↔ p = q := by
  unfold P3.eqB
  simp only [Bool.and_eq_true, decide_eq_true_iff]
  exact ⟨fun ⟨h1, h2, h3⟩ => P3.ext' h1 h2 h3, fun h => by subst h; exact ⟨rfl, rfl, rfl⟩⟩
theorem P3.eqB_decide (p q : P3) : p.eqB q = (p.eqB q == true) := by cases p.eqB q <;> rfl

theorem nat_eq_int (a b : Nat) : ((a : Int) == (b : Int)) = decide (a = b) := by
  by_cases h : a = b
  · subst h; simp
  · rw [decide_eq_false h]; simp; omega
theorem int_eq_int (a b : Int) : (a == b) = decide (a = b) := by
  by_cases h : a = b
  · subst h; simp
  · rw [decide_eq_false h]; simpa using h

set_option maxHeartbeats 1000000 in
theorem hole_any (a : Int) (b s : Nat) (w : World) :
    Calls Try.prog 25 #[p3V ⟨a, b, s⟩] w fun e w' => e = .returned (.bool (P3.holeB ⟨a, b, s⟩)) ∧ Below w.heap.size w w' := by
  unfold p3V
  go_enter Try.func25, Try.ntmps25
  go_wp2
  all_goals go_ret
  all_goals exact ⟨ret_bool (by simp [P3.holeB, *]), (Below.refl _ _).alloc (Nat.le_refl _) _⟩

/-- a call whose world goes on from that of its first box -/
theorem below_boxed {w w' : World} {o : Obj} (h : Below (w.alloc o).heap.size (w.alloc o) w') : Below w.heap.size w w' :=
  ((Below.refl _ _).alloc (Nat.le_refl _) o).trans (h.mono (by simp))

set_option maxHeartbeats 1000000 in
theorem pRight_any (a : Int) (b s : Nat) (w : World) (h : P3.Fit ⟨a, b, s⟩) :
    Calls Try.prog 18 #[p3V ⟨a, b, s⟩] w fun e w' => e = .returned (.bool (P3.rightB ⟨a, b, s⟩)) ∧ Below w.heap.size w w' := by
  obtain ⟨⟨a1, a2⟩, b2, s2⟩ := h
  dsimp only at a1 a2 b2 s2
  have hh := fun W => hole_any a b s W
  unfold p3V at *
  have hr : Hid (P3.rightB ⟨a, b, s⟩ = (P3.holeB ⟨a, b, s⟩ || (decide (4 ≤ a) && (decide (a ≤ 1023) && (decide (1 ≤ b) && decide (b ≤ 281474976710655)))))) := Lib.hid rfl
  generalize P3.holeB ⟨a, b, s⟩ = hl at *
  have hh := Lib.hid (hh (w.alloc (.cells #[.int .i64 a, .int .u64 (b : Int), .int .u32 (s : Int)] 30)))
  go_enter Try.func18, Try.ntmps18
  go_wp2_with fail
  refine hh.out.mono ?_
  rintro e w1 ⟨rfl, hb1⟩
  have c0 := hb1.cell (p := ⟨w.heap.size, 0, none⟩) (by simp)
  have c1 := hb1.cell (p := ⟨w.heap.size, 1, none⟩) (by simp)
  have f0 := hb1.frozen (p := ⟨w.heap.size, 0, none⟩) (by simp)
  have f1 := hb1.frozen (p := ⟨w.heap.size, 1, none⟩) (by simp)
  have hb1 := Lib.hid (below_boxed hb1)
  cases hl
  · by_cases g1 : 4 ≤ a
    · by_cases g2 : a ≤ 1023
      · by_cases g3 : 1 ≤ b
        · by_cases g4 : b ≤ 281474976710655
          · go_wp2
            go_ret
            exact ⟨ret_bool (by rw [hr.out]; simp [*] <;> omega), hb1.out⟩
          · go_wp2
            go_ret
            exact ⟨ret_bool (by rw [hr.out]; simp [*] <;> omega), hb1.out⟩
        · go_wp2
          go_ret
          exact ⟨ret_bool (by rw [hr.out]; simp [*] <;> omega), hb1.out⟩
      · go_wp2
        go_ret
        exact ⟨ret_bool (by rw [hr.out]; simp [*] <;> omega), hb1.out⟩
    · go_wp2
      go_ret
      exact ⟨ret_bool (by rw [hr.out]; simp [*] <;> omega), hb1.out⟩
  · go_wp2
    go_ret
    exact ⟨ret_bool (by rw [hr.out]; simp [*] <;> omega), hb1.out⟩

set_option maxHeartbeats 1000000 in
theorem pRefRight_any (a : Int) (b s : Nat) (w : World) (h : P3.Fit ⟨a, b, s⟩) :
    Calls Try.prog 28 #[p3V ⟨a, b, s⟩] w fun e w' => e = .returned (.bool (P3.rightB ⟨a, b, s⟩)) ∧ Below w.heap.size w w' := by
  obtain ⟨⟨a1, a2⟩, b2, s2⟩ := h
  dsimp only at a1 a2 b2 s2
  unfold p3V at *
  have hr : Hid (P3.rightB ⟨a, b, s⟩ = ((decide (a = 0) && (decide (b = 0) && decide (s = 0))) || (decide (4 ≤ a) && (decide (a ≤ 1023) && (decide (1 ≤ b) && decide (b ≤ 281474976710655)))))) := Lib.hid rfl
  go_enter Try.func28, Try.ntmps28
  go_wp2
  all_goals go_ret
  all_goals exact ⟨ret_bool (by rw [hr.out, Bool.eq_iff_iff]; (try simp only [beq_iff_eq, beq_eq_false_iff_ne, bne_iff_ne, bne_eq_false_iff_eq, ne_eq] at *); simp only [Bool.or_eq_true, Bool.and_eq_true, Bool.not_eq_true', Bool.and_eq_false_iff, decide_eq_true_iff, decide_eq_false_iff_not, true_iff, false_iff, reduceCtorEq, Bool.false_eq_true]; omega), by first | exact (Below.refl _ _).alloc (Nat.le_refl _) _ | exact ((Below.refl _ _).alloc (Nat.le_refl _) _).alloc (by simp) _⟩

set_option maxHeartbeats 1000000 in
theorem pSince_any (a : Int) (b s t : Nat) (w : World) (h : P3.Fit ⟨a, b, s⟩) (ht : t < 18446744073709551616) :
    Calls Try.prog 19 #[p3V ⟨a, b, s⟩, .int .u64 (t : Int)] w fun e w' => e = .returned (.bool (P3.sinceB ⟨a, b, s⟩ t)) ∧ Below w.heap.size w w' := by
  obtain ⟨⟨a1, a2⟩, b2, s2⟩ := h
  dsimp only at a1 a2 b2 s2
  have hh := fun W => hole_any a b s W
  unfold p3V at *
  have hr : Hid (P3.sinceB ⟨a, b, s⟩ t = (!P3.holeB ⟨a, b, s⟩ && decide (t < b))) := Lib.hid rfl
  generalize P3.holeB ⟨a, b, s⟩ = hl at *
  have hh := Lib.hid (hh (w.alloc (.cells #[.int .i64 a, .int .u64 (b : Int), .int .u32 (s : Int)] 30)))
  go_enter Try.func19, Try.ntmps19
  go_wp2_with fail
  refine hh.out.mono ?_
  rintro e w1 ⟨rfl, hb1⟩
  have c1 := hb1.cell (p := ⟨w.heap.size, 1, none⟩) (by simp)
  have f1 := hb1.frozen (p := ⟨w.heap.size, 1, none⟩) (by simp)
  have hb1 := Lib.hid (below_boxed hb1)
  cases hl
  all_goals go_wp2
  all_goals go_ret
  all_goals exact ⟨ret_bool (by rw [hr.out, Bool.eq_iff_iff]; simp <;> omega), hb1.out⟩
end Go.Proofs.Ytkapdagmffbbhaa
