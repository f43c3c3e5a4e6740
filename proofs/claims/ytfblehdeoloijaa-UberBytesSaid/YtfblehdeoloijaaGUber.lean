/- Uber: the texts UberA, LayBits, UberB, LaySortU, UberC, UberD, UberE, one behind the other. -/
import Derived.Test.YtfblehdeoloijaaGPtr
import Derived.Test.YtfblehdeoloijaaProg
import Derived.Test.YtfblehdeoloijaaGBase
import Derived.Test.YtfblehdeoloijaaGSum
import Derived.Test.YtfblehdeoloijaaGVdev
import Derived.Shelf.Small.Bits
import Derived.Shelf.Bits.Mul64
import Derived.Shelf.SlSortCmp.SmallK
/- An uber as plain data: which can be; Right, the program's and the document's. -/
namespace Go.Proofs.Ytfblehdeoloijaa
open Go.ChangeShapes Go.WideShapes Go.ChangeAt Go.RowKit
set_option linter.unusedVariables false
set_option maxRecDepth 20000

/-- an uber: its group's number, its stamp, its table, the table's length, the sectors -/
structure U5 where
  x : Nat
  y : Nat
  p : P3
  l : Int
  n : Int

theorem U5.ext' {u v : U5} (h1 : u.x = v.x) (h2 : u.y = v.y) (h3 : u.p = v.p) (h4 : u.l = v.l) (h5 : u.n = v.n) : u = v := by cases u; cases v; simp_all
def u5z : U5 := ⟨0, 0, p3z, 0, 0⟩
def u5L (u : U5) : List Value := [.int .u64 (u.x : Int), .int .u64 (u.y : Int), .int .i64 u.p.a, .int .u64 (u.p.b : Int), .int .u32 (u.p.s : Int), .int .i64 u.l, .int .i64 u.n]
def u5V (u : U5) : Value := .agg #[.int .u64 (u.x : Int), .int .u64 (u.y : Int), .int .i64 u.p.a, .int .u64 (u.p.b : Int), .int .u32 (u.p.s : Int), .int .i64 u.l, .int .i64 u.n]
/-- the parts are what their types hold -/
def U5.Fit (u : U5) : Prop := u.x < 18446744073709551616 ∧ u.y < 18446744073709551616 ∧ u.p.Fit ∧ I64 u.l ∧ I64 u.n
def stampB (n : Nat) : Bool := decide (1 ≤ n) && decide (n ≤ 281474976710655)
def U5.rightB (u : U5) : Bool := stampB u.x && (stampB u.y && (u.p.rightB && (!u.p.holeB && (decide (1 ≤ u.l) && (decide (u.l ≤ 65535) && (decide (64 ≤ u.n) && decide (u.n ≤ 1024)))))))
theorem u5L_length (u : U5) : (u5L u).length = 7 := rfl
theorem u5L_one (u : U5) : ∀ v ∈ u5L u, v.oneCell' = true := by
  intro v hv
  simp only [u5L, List.mem_cons, List.not_mem_nil, or_false] at hv
  rcases hv with rfl | rfl | rfl | rfl | rfl | rfl | rfl <;> rfl
theorem infoUber : (Try.prog.info? 27).map (·.size) = some 7 := by kernel_rfl
theorem infoUberL (u : U5) : (Try.prog.info? 27).map (·.size) = some (u5L u).length := by rw [infoUber, u5L_length]
theorem u5V_L (u : U5) : u5V u = .agg (u5L u).toArray := rfl
theorem u5L_inj {u v : U5} (h : u5L u = u5L v) : u = v := by
  simp only [u5L, List.cons.injEq, Value.int.injEq, true_and, and_true] at h
  exact U5.ext' (by omega) (by omega) (P3.ext' (by omega) (by omega) (by omega)) (by omega) (by omega)

theorem stamp_any (n : Nat) (hn : n < 18446744073709551616) (w : World) :
    Calls Try.prog 44 #[.int .u64 (n : Int)] w fun e w' => e = .returned (.bool (stampB n)) ∧ w = w' := by
  have hr : Hid (stampB n = (decide (1 ≤ n) && decide (n ≤ 281474976710655))) := Lib.hid rfl
  by_cases h1 : 1 ≤ n
  · by_cases h2 : n ≤ 281474976710655
    · go_enter Try.func44, Try.ntmps44
      go_wp2
      go_ret
      exact ⟨ret_bool (by rw [hr.out]; simp [*] <;> omega), rfl⟩
    · go_enter Try.func44, Try.ntmps44
      go_wp2
      go_ret
      exact ⟨ret_bool (by rw [hr.out]; simp [*] <;> omega), rfl⟩
  · go_enter Try.func44, Try.ntmps44
    go_wp2
    go_ret
    exact ⟨ret_bool (by rw [hr.out]; simp [*] <;> omega), rfl⟩

theorem eqPtr0 (a : Int) (b s : Nat) (w : World) : (Op.equalIn 10000 25 (.agg #[.int .i64 a, .int .u64 (b : Int), .int .u32 (s : Int)]) (.agg #[.int .i64 0, .int .u64 0, .int .u32 0])).run Try.prog w = .ok (P3.holeB ⟨a, b, s⟩) w := eqPtr w ⟨a, b, s⟩ p3z

set_option maxHeartbeats 2000000 in
theorem uRight_any (u : U5) (w : World) (h : u.Fit) :
    Calls Try.prog 16 #[u5V u] w fun e w' => e = .returned (.bool u.rightB) ∧ Below w.heap.size w w' := by
  obtain ⟨x, y, ⟨a, b, s⟩, l, n⟩ := u
  obtain ⟨hx, hy, hp, ⟨l1, l2⟩, ⟨n1, n2⟩⟩ := h
  dsimp only at hx hy hp l1 l2 n1 n2
  have hsx := fun W => stamp_any x hx W
  have hsy := fun W => stamp_any y hy W
  have hpr := fun W => pRight_any a b s W hp
  have heq := eqPtr0 a b s
  have hr : Hid (U5.rightB ⟨x, y, ⟨a, b, s⟩, l, n⟩ = (stampB x && (stampB y && (P3.rightB ⟨a, b, s⟩ && (!P3.holeB ⟨a, b, s⟩ && (decide (1 ≤ l) && (decide (l ≤ 65535) && (decide (64 ≤ n) && decide (n ≤ 1024))))))))) := Lib.hid rfl
  generalize stampB x = bx at *
  generalize stampB y = by_ at *
  generalize P3.rightB ⟨a, b, s⟩ = br at *
  generalize P3.holeB ⟨a, b, s⟩ = bh at *
  unfold p3V at hpr
  have hsx := Lib.hid hsx
  have hsy := Lib.hid hsy
  have hpr := Lib.hid hpr
  unfold u5V
  dsimp only
  have hb0 := Lib.hid ((Below.refl w.heap.size w).alloc (Nat.le_refl _) (.cells #[.int .u64 (x : Int), .int .u64 (y : Int), .int .i64 a, .int .u64 (b : Int), .int .u32 (s : Int), .int .i64 l, .int .i64 n] 27))
  go_enter Try.func16, Try.ntmps16
  go_wp2_with fail
  refine (hsx.out _).mono ?_
  rintro e w1 ⟨rfl, rfl⟩
  cases bx
  · go_wp2
    go_ret
    exact ⟨ret_bool (by rw [hr.out]; rfl), hb0.out⟩
  go_wp2_with fail
  refine (hsy.out _).mono ?_
  rintro e w1 ⟨rfl, rfl⟩
  cases by_
  · go_wp2
    go_ret
    exact ⟨ret_bool (by rw [hr.out]; rfl), hb0.out⟩
  go_wp2_with fail
  refine (hpr.out _).mono ?_
  rintro e w1 ⟨rfl, hb1⟩
  have c2 := hb1.cell (p := ⟨w.heap.size, 2, none⟩) (by simp)
  have c3 := hb1.cell (p := ⟨w.heap.size, 3, none⟩) (by simp)
  have c4 := hb1.cell (p := ⟨w.heap.size, 4, none⟩) (by simp)
  have c5 := hb1.cell (p := ⟨w.heap.size, 5, none⟩) (by simp)
  have c6 := hb1.cell (p := ⟨w.heap.size, 6, none⟩) (by simp)
  have hb1 := Lib.hid (below_boxed hb1)
  cases br
  · go_wp2
    go_ret
    exact ⟨ret_bool (by rw [hr.out]; rfl), hb1.out⟩
  rw [cell_of_row _ w.heap.size 2 _ _ _ (heap_alloc_new w _)] at c2
  rw [cell_of_row _ w.heap.size 3 _ _ _ (heap_alloc_new w _)] at c3
  rw [cell_of_row _ w.heap.size 4 _ _ _ (heap_alloc_new w _)] at c4
  rw [cell_of_row _ w.heap.size 5 _ _ _ (heap_alloc_new w _)] at c5
  rw [cell_of_row _ w.heap.size 6 _ _ _ (heap_alloc_new w _)] at c6
  simp at c2 c3 c4 c5 c6
  cases bh
  · by_cases g1 : 1 ≤ l
    · by_cases g2 : l ≤ 65535
      · by_cases g3 : 64 ≤ n
        · by_cases g4 : n ≤ 1024
          · go_wp2
            go_ret
            exact ⟨ret_bool (by rw [hr.out]; simp [*] <;> omega), hb1.out⟩
          · go_wp2
            go_ret
            exact ⟨ret_bool (by rw [hr.out]; simp [*] <;> omega), hb1.out⟩
        · go_wp2
          go_ret
          exact ⟨ret_bool (by rw [hr.out]; simp [*] <;> omega), hb1.out⟩
      · go_wp2
        go_ret
        exact ⟨ret_bool (by rw [hr.out]; simp [*] <;> omega), hb1.out⟩
    · go_wp2
      go_ret
      exact ⟨ret_bool (by rw [hr.out]; simp [*] <;> omega), hb1.out⟩
  · go_wp2
    go_ret
    exact ⟨ret_bool (by rw [hr.out]; simp [*] <;> omega), hb1.out⟩

/-- of a pointer that is Right: it leads to a sector just if it is no hole -/
theorem hole_pos {p : P3} (h : p.rightB = true) : decide (0 < p.a) = !p.holeB := by
  unfold P3.rightB P3.holeB at *
  simp only [Bool.or_eq_true, Bool.and_eq_true, decide_eq_true_iff] at h
  rw [Bool.eq_iff_iff]
  simp only [decide_eq_true_iff, Bool.not_eq_true', Bool.and_eq_false_iff, decide_eq_false_iff_not]
  omega

set_option maxHeartbeats 4000000 in
theorem refURight_any (u : U5) (w : World) (h : u.Fit) :
    Calls Try.prog 17 #[u5V u] w fun e w' => e = .returned (.bool u.rightB) ∧ Below w.heap.size w w' := by
  obtain ⟨x, y, ⟨a, b, s⟩, l, n⟩ := u
  obtain ⟨hx, hy, hp, ⟨l1, l2⟩, ⟨n1, n2⟩⟩ := h
  dsimp only at hx hy hp l1 l2 n1 n2
  have hpr := fun W => pRefRight_any a b s W hp
  have ha := hp.1
  unfold I64 at ha
  dsimp only at ha
  have hd : P3.rightB ⟨a, b, s⟩ = true → decide (0 < a) = !P3.holeB ⟨a, b, s⟩ := fun h => hole_pos h
  have hr : Hid (U5.rightB ⟨x, y, ⟨a, b, s⟩, l, n⟩ = (stampB x && (stampB y && (P3.rightB ⟨a, b, s⟩ && (!P3.holeB ⟨a, b, s⟩ && (decide (1 ≤ l) && (decide (l ≤ 65535) && (decide (64 ≤ n) && decide (n ≤ 1024))))))))) := Lib.hid rfl
  generalize P3.rightB ⟨a, b, s⟩ = br at *
  generalize P3.holeB ⟨a, b, s⟩ = bh at *
  unfold p3V at hpr
  unfold stampB at hr
  have hpr := Lib.hid hpr
  have hd := Lib.hid hd
  unfold u5V
  dsimp only
  have hb0 := Lib.hid ((Below.refl w.heap.size w).alloc (Nat.le_refl _) (.cells #[.int .u64 (x : Int), .int .u64 (y : Int), .int .i64 a, .int .u64 (b : Int), .int .u32 (s : Int), .int .i64 l, .int .i64 n] 27))
  cases g0 : decide ((x : Int) < 1) with
  | true =>
    have hr := Lib.hid (show U5.rightB ⟨x, y, ⟨a, b, s⟩, l, n⟩ = false by
      rw [hr.out, Bool.eq_false_iff]
      intro hc
      simp only [Bool.and_eq_true, decide_eq_true_iff] at hc g0
      omega)
    go_enter Try.func17, Try.ntmps17
    go_wp2_with fail
    go_ret
    exact ⟨ret_bool (by rw [hr.out]), hb0.out⟩
  | false =>
    cases g1 : decide (281474976710656 ≤ (x : Int)) with
    | true =>
      have hr := Lib.hid (show U5.rightB ⟨x, y, ⟨a, b, s⟩, l, n⟩ = false by
        rw [hr.out, Bool.eq_false_iff]
        intro hc
        simp only [Bool.and_eq_true, decide_eq_true_iff] at hc g1
        omega)
      go_enter Try.func17, Try.ntmps17
      go_wp2_with fail
      go_ret
      exact ⟨ret_bool (by rw [hr.out]), hb0.out⟩
    | false =>
      cases g2 : decide ((y : Int) < 1) with
      | true =>
        have hr := Lib.hid (show U5.rightB ⟨x, y, ⟨a, b, s⟩, l, n⟩ = false by
          rw [hr.out, Bool.eq_false_iff]
          intro hc
          simp only [Bool.and_eq_true, decide_eq_true_iff] at hc g2
          omega)
        go_enter Try.func17, Try.ntmps17
        go_wp2_with fail
        go_ret
        exact ⟨ret_bool (by rw [hr.out]), hb0.out⟩
      | false =>
        cases g3 : decide (281474976710656 ≤ (y : Int)) with
        | true =>
          have hr := Lib.hid (show U5.rightB ⟨x, y, ⟨a, b, s⟩, l, n⟩ = false by
            rw [hr.out, Bool.eq_false_iff]
            intro hc
            simp only [Bool.and_eq_true, decide_eq_true_iff] at hc g3
            omega)
          go_enter Try.func17, Try.ntmps17
          go_wp2_with fail
          go_ret
          exact ⟨ret_bool (by rw [hr.out]), hb0.out⟩
        | false =>
          cases g4 : decide (l < 1) with
          | true =>
            have hr := Lib.hid (show U5.rightB ⟨x, y, ⟨a, b, s⟩, l, n⟩ = false by
              rw [hr.out, Bool.eq_false_iff]
              intro hc
              simp only [Bool.and_eq_true, decide_eq_true_iff] at hc g4
              omega)
            go_enter Try.func17, Try.ntmps17
            go_wp2_with fail
            go_ret
            exact ⟨ret_bool (by rw [hr.out]), hb0.out⟩
          | false =>
            cases g5 : decide (65535 < l) with
            | true =>
              have hr := Lib.hid (show U5.rightB ⟨x, y, ⟨a, b, s⟩, l, n⟩ = false by
                rw [hr.out, Bool.eq_false_iff]
                intro hc
                simp only [Bool.and_eq_true, decide_eq_true_iff] at hc g5
                omega)
              go_enter Try.func17, Try.ntmps17
              go_wp2_with fail
              go_ret
              exact ⟨ret_bool (by rw [hr.out]), hb0.out⟩
            | false =>
              cases g6 : decide (n < 64) with
              | true =>
                have hr := Lib.hid (show U5.rightB ⟨x, y, ⟨a, b, s⟩, l, n⟩ = false by
                  rw [hr.out, Bool.eq_false_iff]
                  intro hc
                  simp only [Bool.and_eq_true, decide_eq_true_iff] at hc g6
                  omega)
                go_enter Try.func17, Try.ntmps17
                go_wp2_with fail
                go_ret
                exact ⟨ret_bool (by rw [hr.out]), hb0.out⟩
              | false =>
                cases g7 : decide (1024 < n) with
                | true =>
                  have hr := Lib.hid (show U5.rightB ⟨x, y, ⟨a, b, s⟩, l, n⟩ = false by
                    rw [hr.out, Bool.eq_false_iff]
                    intro hc
                    simp only [Bool.and_eq_true, decide_eq_true_iff] at hc g7
                    omega)
                  go_enter Try.func17, Try.ntmps17
                  go_wp2_with fail
                  go_ret
                  exact ⟨ret_bool (by rw [hr.out]), hb0.out⟩
                | false =>
                  go_enter Try.func17, Try.ntmps17
                  go_wp2_with fail
                  refine (hpr.out _).mono ?_
                  rintro e w1 ⟨rfl, hb1⟩
                  have c2 := hb1.cell (p := ⟨w.heap.size, 2, none⟩) (by simp)
                  have hb1 := Lib.hid (below_boxed hb1)
                  simp only [decide_eq_false_iff_not] at g0 g1 g2 g3 g4 g5 g6 g7
                  have hr := Lib.hid (show U5.rightB ⟨x, y, ⟨a, b, s⟩, l, n⟩ = (br && !bh) by rw [hr.out]; rw [decide_eq_true (show 1 ≤ x by omega), decide_eq_true (show x ≤ 281474976710655 by omega), decide_eq_true (show 1 ≤ y by omega), decide_eq_true (show y ≤ 281474976710655 by omega), decide_eq_true (show 1 ≤ l by omega), decide_eq_true (show l ≤ 65535 by omega), decide_eq_true (show 64 ≤ n by omega), decide_eq_true (show n ≤ 1024 by omega)]; simp)
                  cases br
                  · go_wp2
                    go_ret
                    exact ⟨ret_bool (by rw [hr.out]; rfl), hb1.out⟩
                  rw [cell_of_row _ w.heap.size 2 _ _ _ (heap_alloc_new w _)] at c2
                  simp at c2
                  have hd := hd.out rfl
                  by_cases g9 : 0 < a
                  · go_wp2
                    go_ret
                    exact ⟨ret_bool (by rw [hr.out, Bool.true_and, ← hd]; first | (simp [*]; done) | (simp [*]; trivial) | (rw [decide_eq_true g9])), hb1.out⟩
                  · go_wp2
                    go_ret
                    exact ⟨ret_bool (by rw [hr.out, Bool.true_and, ← hd]; first | (simp [*]; done) | (simp [*]; trivial) | (rw [decide_eq_true g9])), hb1.out⟩
end Go.Proofs.Ytfblehdeoloijaa

/- math/bits.Len and Mul lie at this program as the library's contracts want it; printed by wip/tools/lay.py. -/
namespace Go.Proofs.Ytfblehdeoloijaa
open Go.Shelf
set_option maxRecDepth 20000

def bitsLen2_ren : Go.Shelf.Ren := ⟨fun | 125 => 72 | 128 => 87 | 129 => 88 | n => n, fun | 46 => 124 | 3 => 3 | 51 => 23 | 53 => 22 | 4 => 4 | 5 => 5 | 9 => 9 | n => n, fun | n => n⟩
theorem bitsLen2 : Go.Proofs.Lays.n125 Try.prog bitsLen2_ren := {
  mixed := by kernel_rfl
  f125 := Try.func72.trans (congrArg some (by kernel_rfl))
  f128 := Try.func87.trans (congrArg some (by kernel_rfl))
  f129 := Try.func88.trans (congrArg some (by kernel_rfl))
  t3 := Try.underlying3
  a3 := Try.isAgg3
  z3 := Try.sizeOf3
  v3 := Try.zeroValue3
  t4 := Try.underlying4
  a4 := Try.isAgg4
  z4 := Try.sizeOf4
  v4 := Try.zeroValue4
  t5 := Try.underlying5
  a5 := Try.isAgg5
  z5 := Try.sizeOf5
  v5 := Try.zeroValue5
  t9 := Try.underlying9
  a9 := Try.isAgg9
  z9 := Try.sizeOf9
  v9 := Try.zeroValue9
  t46 := Try.underlying124
  a46 := Try.isAgg124
  z46 := Try.sizeOf124
  v46 := Try.zeroValue124
  t51 := Try.underlying23
  a51 := Try.isAgg23
  z51 := Try.sizeOf23
  v51 := Try.zeroValue23
  t53 := Try.underlying22
  a53 := Try.isAgg22
  z53 := Try.sizeOf22
  v53 := Try.zeroValue22 }

def bitsMul_ren : Go.Shelf.Ren := ⟨fun | 212 => 76 | 263 => 89 | 264 => 90 | n => n, fun | 46 => 124 | 51 => 23 | 146 => 140 | 53 => 22 | 148 => 90 | n => n, fun | n => n⟩
theorem bitsMul : Go.Proofs.Lays.n212 Try.prog bitsMul_ren := {
  mixed := by kernel_rfl
  f212 := Try.func76.trans (congrArg some (by kernel_rfl))
  f263 := Try.func89.trans (congrArg some (by kernel_rfl))
  f264 := Try.func90.trans (congrArg some (by kernel_rfl))
  t46 := Try.underlying124
  a46 := Try.isAgg124
  z46 := Try.sizeOf124
  v46 := Try.zeroValue124
  t51 := Try.underlying23
  a51 := Try.isAgg23
  z51 := Try.sizeOf23
  v51 := Try.zeroValue23
  t53 := Try.underlying22
  a53 := Try.isAgg22
  z53 := Try.sizeOf22
  v53 := Try.zeroValue22
  t146 := Try.underlying140
  a146 := Try.isAgg140
  z146 := Try.sizeOf140
  v146 := Try.zeroValue140
  t148 := Try.underlying90
  a148 := Try.isAgg90
  z148 := Try.sizeOf90
  v148 := Try.zeroValue90 }


end Go.Proofs.Ytfblehdeoloijaa

/- Small functions that uber calls: slices.Repeat at one or two, put, pair, place; the order of ubers. -/
namespace Go.Proofs.Ytfblehdeoloijaa
open Go.ChangeShapes Go.WideShapes Go.ChangeAt Go.RowKit
set_option linter.unusedVariables false
set_option maxRecDepth 20000

theorem mul1_any (m : Nat) (hm : m ≤ 2) (w : World) : Calls Try.prog 76 #[.int .u64 1, .int .u64 (m : Int)] w fun e w' => e = .returned (.tuple #[.int .u64 0, .int .u64 (m : Int)]) ∧ w = w' := by
  have h := Any.bits_Mul bitsMul 1 m (by omega) (by omega) w
  change Calls _ 76 _ _ _ at h
  refine h.mono ?_
  rintro e w' ⟨he, hw⟩
  have e1 : 1 * m / 18446744073709551616 = 0 := by omega
  have e2 : 1 * m % 18446744073709551616 = m := by omega
  rw [e1, e2] at he
  exact ⟨he, hw.symm⟩

theorem make_ints1 (w : World) : (Instr.makeSlice 112 (.int .i64 1) (.int .i64 1)).run Try.prog w = .ok (.slice (some ⟨w.heap.size, 0, none⟩) 1 1) (w.alloc (.cells #[.int .i64 0] 3)) := by
  obtain ⟨i0, hi, hz0, hz1, hz2⟩ := info_parts infoInt
  have := run_make (P := Try.prog) w 112 3 i0 (.int .i64 0) Try.underlying112 hi hz0 .i64 .i64 1 1 (by omega) (Int.le_refl _) (by rw [hz2]; omega) (by omega)
  rw [hz1, show madeCells (Value.int .i64 0).cells ((1 : Int).toNat * 1) = #[.int .i64 0] from by apply Array.ext'; rw [show (Value.int .i64 0).cells = #[.int .i64 0] from rfl, toList_madeCells_one]; rfl] at this
  exact this
theorem make_ints2 (w : World) : (Instr.makeSlice 112 (.int .i64 2) (.int .i64 2)).run Try.prog w = .ok (.slice (some ⟨w.heap.size, 0, none⟩) 2 2) (w.alloc (.cells #[.int .i64 0, .int .i64 0] 3)) := by
  obtain ⟨i0, hi, hz0, hz1, hz2⟩ := info_parts infoInt
  have := run_make (P := Try.prog) w 112 3 i0 (.int .i64 0) Try.underlying112 hi hz0 .i64 .i64 2 2 (by omega) (Int.le_refl _) (by rw [hz2]; omega) (by omega)
  rw [hz1, show madeCells (Value.int .i64 0).cells ((2 : Int).toNat * 1) = #[.int .i64 0, .int .i64 0] from by apply Array.ext'; rw [show (Value.int .i64 0).cells = #[.int .i64 0] from rfl, toList_madeCells_one]; rfl] at this
  exact this
theorem infoInt1 : (Try.prog.info? 3).map (·.size) = some 1 := by kernel_rfl

set_option maxHeartbeats 2000000 in
theorem Repeat1_any (k : Int) (w : World) (g : Nat) (hc : Reads w (some ⟨g, 0, none⟩) [.int .i64 k]) :
    Calls Try.prog 65 #[.slice (some ⟨g, 0, none⟩) 1 1, .int .i64 1] w fun e w' => ∃ h, e = .returned (.slice (some ⟨h, 0, none⟩) 1 1) ∧ Blk w' h 3 [.int .i64 k] ∧ w.heap.size ≤ h ∧ Below w.heap.size w w' := by
  have hm := Lib.hid (fun W => mul1_any 1 (by omega) W)
  have hc := Lib.hid hc
  have hmk := make_ints1
  go_enter Try.func65, Try.ntmps65
  go_wp2_with (first
    | (go_at_call 76; refine (hm.out _).mono ?_; rintro e w1 ⟨rfl, rfl⟩)
    | (refine wpList_copyR rfl (.tmp 31) (.tmp 32) 112 112 rfl 3 Try.underlying112 infoInt1 w.heap.size 0 1 1 (by rfl) (some ⟨g, 0, none⟩) 1 1 (by rfl) 3 [.int .i64 0] [.int .i64 k] [.int .i64 k] (Blk.newA w 3 _) rfl (by decide) (by decide) (hc.out.alloc _) (by simp) (by intro v hv; simp at hv; subst hv; rfl) rfl ?_
       intro w2 hb2 hk2 hs2
       have hb2 := Lib.hid hb2
       have hk2 := Lib.hid hk2))
  refine wp_loop_rounds 1 ?_
  rw [rounds_succ]
  go_wp2
  go_ret
  exact ⟨w.heap.size, rfl, hb2.out, Nat.le_refl _, Kept.out ((Below.refl _ _).alloc (Nat.le_refl _) _) hk2.out (fun i _ h => by omega) (by simp)⟩

set_option maxHeartbeats 2000000 in
theorem Repeat2_any (k : Int) (w : World) (g : Nat) (hc : Reads w (some ⟨g, 0, none⟩) [.int .i64 k]) :
    Calls Try.prog 65 #[.slice (some ⟨g, 0, none⟩) 1 1, .int .i64 2] w fun e w' => ∃ h, e = .returned (.slice (some ⟨h, 0, none⟩) 2 2) ∧ Blk w' h 3 [.int .i64 k, .int .i64 k] ∧ w.heap.size ≤ h ∧ Below w.heap.size w w' := by
  have hm := Lib.hid (fun W => mul1_any 2 (by omega) W)
  have hc := Lib.hid hc
  have hmk := make_ints2
  go_enter Try.func65, Try.ntmps65
  go_wp2_with (first
    | (go_at_call 76; refine (hm.out _).mono ?_; rintro e w1 ⟨rfl, rfl⟩)
    | (refine wpList_copyR rfl (.tmp 31) (.tmp 32) 112 112 rfl 3 Try.underlying112 infoInt1 w.heap.size 0 2 2 (by rfl) (some ⟨g, 0, none⟩) 1 1 (by rfl) 3 [.int .i64 0, .int .i64 0] [.int .i64 k, .int .i64 0] [.int .i64 k] (Blk.newA w 3 _) rfl (by decide) (by decide) (hc.out.alloc _) (by simp) (by intro v hv; simp at hv; subst hv; rfl) rfl ?_
       intro w2 hb2 hk2 hs2
       have hb2 := Lib.hid hb2
       have hk2 := Lib.hid hk2))
  refine wp_loop_rounds 2 ?_
  rw [rounds_succ]
  go_wp2
  go_region_held3 (fun w' => True) (trivial) (first
    | (refine step_copyR rfl (.tmp 41) (.tmp 44) 112 112 rfl 3 Try.underlying112 infoInt1 w.heap.size 1 1 1 (by rfl) (some ⟨w.heap.size, 0, none⟩) 1 2 (by rfl) 3 [.int .i64 k, .int .i64 0] [.int .i64 k, .int .i64 k] [.int .i64 k] hb2.out.drew rfl (by decide) (by decide) (Reads.take (Reads.of_blk hb2.out.drew) 1) (by simp) (by intro v hv; simp at hv; subst hv; rfl) rfl ?_
       intro w3 hb3 hk3 hs3
       have hkk : True := trivial
       have hb3 := Lib.hid hb3
       have hk3 := Lib.hid hk3))
  all_goals simp only [Exit.inBlock, Exit.then, show IntKind.i64.wrap 2 = 2 from rfl]
  all_goals rw [rounds_succ]
  all_goals go_wp2
  all_goals go_ret
  all_goals exact ⟨w.heap.size, rfl, hb3.out, Nat.le_refl _, Kept.out (Kept.out ((Below.refl _ _).alloc (Nat.le_refl _) _) hk2.out (fun i _ h => by omega) (by simp)).drew hk3.out (fun i _ h => by omega) (by rw [World.size_drew, hs2]; simp)⟩
/-! ### put -/
theorem putL_two {k x y : Nat} (h1 : 1 ≤ k) (h8 : k ≤ 8) (hx : x < 256 ^ k) (hy : y < 256 ^ k) : putL [(k : Int), (k : Int)] [x, y] = some (leB k x ++ leB k y) := by
  have h : (1 : Int) ≤ (k : Int) ∧ (k : Int) ≤ 8 := by omega
  simp [putL, h.1, h.2, hx, hy]
theorem putL_one {k x : Nat} (h1 : 1 ≤ k) (h8 : k ≤ 8) (hx : x < 256 ^ k) : putL [(k : Int)] [x] = some (leB k x) := by
  have h : (1 : Int) ≤ (k : Int) ∧ (k : Int) ≤ 8 := by omega
  simp [putL, h.1, h.2, hx]
theorem i64s_of {zs : List Int} (h : ∀ z ∈ zs, 0 ≤ z ∧ z ≤ 8) (hl : zs.length ≤ 4) : I64s zs := ⟨fun z hz => by have := h z hz; unfold I64; omega, by omega⟩

set_option maxHeartbeats 2000000 in
theorem uput2_any (k x y : Nat) (h1 : 1 ≤ k) (h8 : k ≤ 8) (hx : x < 256 ^ k) (hy : y < 256 ^ k) (bo : Option Addr) (cap : Nat) (w : World) (hr : U64s w bo [x, y]) :
    Calls Try.prog 35 #[.int .i64 (k : Int), .slice bo 2 cap] w fun e w' => ∃ v, e = .returned v ∧ Own w' w.heap.size 5 v (bytesV (leB k x ++ leB k y)) ∧ Below w.heap.size w w' := by
  have hp := Lib.hid (putL_two h1 h8 hx hy)
  have hi := Lib.hid (i64s_of (zs := [(k : Int), (k : Int)]) (by intro z hz; simp at hz; omega) (by simp))
  have hf : Hid (Fit64 [x, y]) := Lib.hid ⟨by intro z hz; have := pow_le_64 h8; simp at hz; omega, by simp⟩
  have hr := Lib.hid hr
  clear hx hy
  go_enter Try.func35, Try.ntmps35
  go_wp2_with fail
  refine (Repeat2_any (k : Int) _ w.heap.size (Reads.row (heap_alloc_new w _))).mono ?_
  rintro e w1 ⟨g, rfl, hb1, hg1, hq1⟩
  have hr := Lib.hid ((hr.out.alloc (.cells #[.int .i64 (k : Int)] 3)).below hq1)
  have hq1 := Lib.hid (below_boxed hq1)
  have hb1 := Lib.hid hb1
  go_wp2_with fail
  refine (Put_any (some ⟨g, 0, none⟩) bo 2 cap [(k : Int), (k : Int)] [x, y] w1 (Reads.of_blk hb1.out) hr.out hi.out hf.out).mono ?_
  intro e w2 hR
  obtain ⟨v, rfl, ho2, hb2⟩ := hR.own hp.out
  have ho2 := Lib.hid (ho2.le (base' := w.heap.size) hq1.out.size)
  have hb2 := Lib.hid (hq1.out.trans (hb2.mono hq1.out.size))
  go_wp2
  go_ret
  exact ⟨v, rfl, ho2.out, hb2.out⟩

set_option maxHeartbeats 2000000 in
theorem uput1_any (k x : Nat) (h1 : 1 ≤ k) (h8 : k ≤ 8) (hx : x < 256 ^ k) (bo : Option Addr) (cap : Nat) (w : World) (hr : U64s w bo [x]) :
    Calls Try.prog 35 #[.int .i64 (k : Int), .slice bo 1 cap] w fun e w' => ∃ v, e = .returned v ∧ Own w' w.heap.size 5 v (bytesV (leB k x)) ∧ Below w.heap.size w w' := by
  have hp := Lib.hid (putL_one h1 h8 hx)
  have hi := Lib.hid (i64s_of (zs := [(k : Int)]) (by intro z hz; simp at hz; omega) (by simp))
  have hf : Hid (Fit64 [x]) := Lib.hid ⟨by intro z hz; have := pow_le_64 h8; simp at hz; omega, by simp⟩
  have hr := Lib.hid hr
  clear hx
  go_enter Try.func35, Try.ntmps35
  go_wp2_with fail
  refine (Repeat1_any (k : Int) _ w.heap.size (Reads.row (heap_alloc_new w _))).mono ?_
  rintro e w1 ⟨g, rfl, hb1, hg1, hq1⟩
  have hr := Lib.hid ((hr.out.alloc (.cells #[.int .i64 (k : Int)] 3)).below hq1)
  have hq1 := Lib.hid (below_boxed hq1)
  have hb1 := Lib.hid hb1
  go_wp2_with fail
  refine (Put_any (some ⟨g, 0, none⟩) bo 1 cap [(k : Int)] [x] w1 (Reads.of_blk hb1.out) hr.out hi.out hf.out).mono ?_
  intro e w2 hR
  obtain ⟨v, rfl, ho2, hb2⟩ := hR.own hp.out
  have ho2 := Lib.hid (ho2.le (base' := w.heap.size) hq1.out.size)
  have hb2 := Lib.hid (hq1.out.trans (hb2.mono hq1.out.size))
  go_wp2
  go_ret
  exact ⟨v, rfl, ho2.out, hb2.out⟩

theorem uput8_any (x y : Nat) (hx : x < 256 ^ 8) (hy : y < 256 ^ 8) (bo : Option Addr) (cap : Nat) (w : World) (hr : U64s w bo [x, y]) :
    Calls Try.prog 35 #[.int .i64 8, .slice bo 2 cap] w fun e w' => ∃ v, e = .returned v ∧ Own w' w.heap.size 5 v (bytesV (leB 8 x ++ leB 8 y)) ∧ Below w.heap.size w w' := uput2_any 8 x y (by decide) (by decide) hx hy bo cap w hr
theorem uput4_any (x y : Nat) (hx : x < 256 ^ 4) (hy : y < 256 ^ 4) (bo : Option Addr) (cap : Nat) (w : World) (hr : U64s w bo [x, y]) :
    Calls Try.prog 35 #[.int .i64 4, .slice bo 2 cap] w fun e w' => ∃ v, e = .returned v ∧ Own w' w.heap.size 5 v (bytesV (leB 4 x ++ leB 4 y)) ∧ Below w.heap.size w w' := uput2_any 4 x y (by decide) (by decide) hx hy bo cap w hr
theorem uput41_any (x : Nat) (hx : x < 256 ^ 4) (bo : Option Addr) (cap : Nat) (w : World) (hr : U64s w bo [x]) :
    Calls Try.prog 35 #[.int .i64 4, .slice bo 1 cap] w fun e w' => ∃ v, e = .returned v ∧ Own w' w.heap.size 5 v (bytesV (leB 4 x)) ∧ Below w.heap.size w w' := uput1_any 4 x (by decide) (by decide) hx bo cap w hr

theorem u64s_new (w : World) (x y : Nat) : U64s (w.alloc (.cells #[.int .u64 (x : Int), .int .u64 (y : Int)] 22)) (some ⟨w.heap.size, 0, none⟩) [x, y] := Reads.row (heap_alloc_new w _)
theorem u64s_newD (w : World) (x y : Nat) : U64s (w.alloc (.cells #[.int .u64 (x : Int), .int .u64 (y : Int)] 22)).drew (some ⟨w.heap.size, 0, none⟩) [x, y] := Reads.row (heap_alloc_new w _)
theorem u64s_newD1 (w : World) (x : Nat) : U64s (w.alloc (.cells #[.int .u64 (x : Int)] 22)).drew (some ⟨w.heap.size, 0, none⟩) [x] := Reads.row (heap_alloc_new w _)
theorem u64s_new1 (w : World) (x : Nat) : U64s (w.alloc (.cells #[.int .u64 (x : Int)] 22)) (some ⟨w.heap.size, 0, none⟩) [x] := Reads.row (heap_alloc_new w _)

/-! ### pair -/
theorem getL_two {k : Nat} {bs : List UInt8} (h1 : 1 ≤ k) (h8 : k ≤ 8) (hl : bs.length = k + k) : getL [(k : Int), (k : Int)] bs = some [valB (bs.take k), valB (bs.drop k)] := by
  have h : (1 : Int) ≤ (k : Int) ∧ (k : Int) ≤ 8 := by omega
  have e : (bs.drop k).length = k := by rw [List.length_drop]; omega
  have e2 : (bs.drop k).drop k = [] := List.drop_of_length_le (by omega)
  have e3 : (bs.drop k).take k = bs.drop k := List.take_of_length_le (by omega)
  simp only [getL, h.1, h.2, Int.toNat_natCast, true_and]
  rw [if_pos (by omega), if_pos (by omega), e2, e3]
  rfl

theorem U64s.two {w : World} {ao : Option Addr} {x y : Nat} (h : U64s w ao [x, y]) : ∃ b off, ao = some ⟨b, off, none⟩ ∧ b < w.heap.size ∧ w.cell? ⟨b, off, none⟩ = some (.int .u64 (x : Int)) ∧ w.cell? ⟨b, off + 1, none⟩ = some (.int .u64 (y : Int)) := by
  obtain ⟨b, off, rfl, c0, hb⟩ := Reads.at h (k := 0) (by simp [u64V])
  have c1 := Reads.cellsAt h _ rfl 1 (.int .u64 (y : Int)) rfl
  exact ⟨b, off, rfl, hb, by simpa [u64V] using c0, by simpa [Go.WideShapes.add_plain] using c1⟩
theorem GetRes.two {o : Option (List Nat)} {w w' : World} {e : Ending} (h : GetRes o w e w') {x y : Nat} (ho : o = some [x, y]) : ∃ (b off cap : Nat), e = .returned (.tuple #[.slice (some ⟨b, off, none⟩) 2 cap, .int .i64 0]) ∧ b < w'.heap.size ∧ w'.cell? ⟨b, off, none⟩ = some (.int .u64 (x : Int)) ∧ w'.cell? ⟨b, off + 1, none⟩ = some (.int .u64 (y : Int)) ∧ Below w.heap.size w w' := by
  obtain ⟨ao, cap, rfl, hu, hb⟩ := h.yes ho
  obtain ⟨b, off, rfl, h1, h2, h3⟩ := U64s.two hu.out
  exact ⟨b, off, cap, rfl, h1, h2, h3, hb⟩

set_option maxHeartbeats 2000000 in
theorem upair_any (k n : Nat) (h1 : 1 ≤ k) (h8 : k ≤ 8) (bs : List UInt8) (hn : bs.length = n) (hl : n = k + k) (bo : Option Addr) (cap : Nat) (hc : n ≤ cap) (hm : cap ≤ 9223372036854775807) (w : World) (hr : Bytes w bo bs) :
    Calls Try.prog 41 #[.int .i64 (k : Int), .slice bo n cap] w fun e w' => e = .returned (.tuple #[.int .u64 (valB (bs.take k) : Int), .int .u64 (valB (bs.drop k) : Int)]) ∧ Below w.heap.size w w' := by
  subst hn
  have hp := Lib.hid (getL_two h1 h8 hl)
  have hi := Lib.hid (i64s_of (zs := [(k : Int), (k : Int)]) (by intro z hz; simp at hz; omega) (by simp))
  have hr := Lib.hid hr
  generalize hx : valB (bs.take k) = x at *
  generalize hy : valB (bs.drop k) = y at *
  clear hx hy hl h1 h8
  go_enter Try.func41, Try.ntmps41
  go_wp2_with fail
  refine (Get_any (some ⟨w.heap.size, 0, none⟩) bo 2 cap [(k : Int), (k : Int)] bs _ (Reads.row (heap_alloc_new w _)) (hr.out.alloc _) hi.out hc hm).mono ?_
  intro e w1 hR
  obtain ⟨b, off, c1, rfl, hlt, c0, c1, hb⟩ := hR.two hp.out
  have hb := Lib.hid (below_boxed hb)
  go_wp2
  go_quiet (fail)
  go_wp2
  go_ret2
  exact ⟨rfl, by first | exact hb.out | exact ⟨hb.out.os, hb.out.tape, hb.out.output, hb.out.size, hb.out.block⟩⟩

theorem upair8_any (bs : List UInt8) (hn : bs.length = 16) (bo : Option Addr) (cap : Nat) (hc : 16 ≤ cap) (hm : cap ≤ 9223372036854775807) (w : World) (hr : Bytes w bo bs) :
    Calls Try.prog 41 #[.int .i64 8, .slice bo 16 cap] w fun e w' => e = .returned (.tuple #[.int .u64 (valB (bs.take 8) : Int), .int .u64 (valB (bs.drop 8) : Int)]) ∧ Below w.heap.size w w' := upair_any 8 16 (by decide) (by decide) bs hn rfl bo cap hc hm w hr
theorem upair4_any (bs : List UInt8) (hn : bs.length = 8) (bo : Option Addr) (cap : Nat) (hc : 8 ≤ cap) (hm : cap ≤ 9223372036854775807) (w : World) (hr : Bytes w bo bs) :
    Calls Try.prog 41 #[.int .i64 4, .slice bo 8 cap] w fun e w' => e = .returned (.tuple #[.int .u64 (valB (bs.take 4) : Int), .int .u64 (valB (bs.drop 4) : Int)]) ∧ Below w.heap.size w w' := upair_any 4 8 (by decide) (by decide) bs hn rfl bo cap hc hm w hr

/-! ### place, small, the order -/
set_option maxHeartbeats 2000000 in
theorem uplace_any (u : U5) (w : World) (h : u.Fit) :
    Calls Try.prog 48 #[u5V u] w fun e w' => e = .returned (.int .i64 ((u.x % 4 : Nat) : Int)) ∧ Below w.heap.size w w' := by
  obtain ⟨x, y, ⟨a, b, s⟩, l, n⟩ := u
  obtain ⟨hx, _⟩ := h
  dsimp only at hx
  unfold u5V
  dsimp only
  go_enter Try.func48, Try.ntmps48
  go_wp2
  go_ret
  exact ⟨rfl, (Below.refl _ _).alloc (Nat.le_refl _) _⟩
def smallU (t : Nat) : U5 := ⟨t, 1, ⟨9, 1, 0⟩, 1, 64⟩
theorem rowU {w : World} {g : Nat} {u : U5} (h : Blk w g 27 (u5L u)) : RowRes Try.prog w 27 (.pointer (some ⟨g, 0, none⟩)) (u5L u) :=
  ⟨⟨g, _, rfl, h⟩, ⟨_, Try.underlying27, rfl⟩, infoUberL u⟩
theorem whole_u {u v : U5} : u5L u = (u5L v).take 0 ++ u5L u ++ (u5L v).drop (0 + (u5L u).length) := rfl
theorem range_blk {w : World} {g : Nat} {t : TypeId} {cs : List Value} (h : Blk w g t cs) : w.rangeAt g 0 cs := h.range fun j v hv => by simpa using hv
theorem u5z_L : u5L u5z = [.int .u64 0, .int .u64 0, .int .i64 0, .int .u64 0, .int .u32 0, .int .i64 0, .int .i64 0] := rfl
set_option maxHeartbeats 2000000 in
theorem small_any (t : Nat) (w : World) (h : t < 18446744073709551616) :
    Calls Try.prog 30 #[.int .u64 (t : Int)] w fun e w' => e = .returned (u5V (smallU t)) ∧ Below w.heap.size w w' := by
  have hb0 : Hid (Blk (w.alloc (.cells #[.int .u64 (t : Int), .int .u64 1, .int .i64 9, .int .u64 1, .int .u32 0, .int .i64 1, .int .i64 64] 27)) w.heap.size 27 (u5L (smallU t))) := Lib.hid (Blk.new w 27 (u5L (smallU t)))
  go_enter Try.func30, Try.ntmps30
  go_wp2
  refine bodyPost_ret (results_row rfl (rowU hb0.out)) rfl ⟨rfl, ?_⟩
  exact (Below.refl _ _).alloc (Nat.le_refl _) _
end Go.Proofs.Ytfblehdeoloijaa

/- slices.SortFunc at ubers lies at this program as the library's contract wants it; printed by wip/tools/lay.py. -/
namespace Go.Proofs.Ytfblehdeoloijaa
open Go.Shelf
set_option maxRecDepth 20000

def sortU_ren : Go.Shelf.Ren := ⟨fun | 6 => 55 | 15 => 72 | 14 => 71 | 28 => 87 | 29 => 88 | 20 => 79 | 21 => 80 | 22 => 81 | 23 => 82 | 24 => 83 | 25 => 84 | 26 => 85 | 27 => 86 | 46 => 91 | 47 => 92 | 48 => 93 | 49 => 94 | 50 => 95 | 57 => 96 | n => n, fun | 22 => 59 | 24 => 27 | 25 => 107 | 3 => 3 | 39 => 124 | 0 => 0 | 53 => 23 | 55 => 22 | 4 => 4 | 46 => 133 | 45 => 132 | 50 => 125 | 5 => 5 | 9 => 9 | 66 => 143 | 70 => 147 | 76 => 149 | 77 => 150 | n => n, fun | n => n⟩
theorem sortU : Go.Proofs.SlLaysF0.n6 Try.prog sortU_ren := {
  mixed := by kernel_rfl
  f6 := ⟨Try.f55.name, by decide, Try.func55.trans (congrArg some (by kernel_rfl))⟩
  f14 := ⟨Try.f71.name, by decide, Try.func71.trans (congrArg some (by kernel_rfl))⟩
  f15 := Try.func72.trans (congrArg some (by kernel_rfl))
  f20 := ⟨Try.f79.name, by decide, Try.func79.trans (congrArg some (by kernel_rfl))⟩
  f21 := ⟨Try.f80.name, by decide, Try.func80.trans (congrArg some (by kernel_rfl))⟩
  f22 := ⟨Try.f81.name, by decide, Try.func81.trans (congrArg some (by kernel_rfl))⟩
  f23 := ⟨Try.f82.name, by decide, Try.func82.trans (congrArg some (by kernel_rfl))⟩
  f24 := ⟨Try.f83.name, by decide, Try.func83.trans (congrArg some (by kernel_rfl))⟩
  f25 := ⟨Try.f84.name, by decide, Try.func84.trans (congrArg some (by kernel_rfl))⟩
  f26 := ⟨Try.f85.name, by decide, Try.func85.trans (congrArg some (by kernel_rfl))⟩
  f27 := ⟨Try.f86.name, by decide, Try.func86.trans (congrArg some (by kernel_rfl))⟩
  f28 := Try.func87.trans (congrArg some (by kernel_rfl))
  f29 := Try.func88.trans (congrArg some (by kernel_rfl))
  f46 := ⟨Try.f91.name, by decide, Try.func91.trans (congrArg some (by kernel_rfl))⟩
  f47 := Try.func92.trans (congrArg some (by kernel_rfl))
  f48 := Try.func93.trans (congrArg some (by kernel_rfl))
  f49 := ⟨Try.f94.name, by decide, Try.func94.trans (congrArg some (by kernel_rfl))⟩
  f50 := ⟨Try.f95.name, by decide, Try.func95.trans (congrArg some (by kernel_rfl))⟩
  f57 := ⟨Try.f96.name, by decide, Try.func96.trans (congrArg some (by kernel_rfl))⟩
  t0 := Try.underlying0
  a0 := Try.isAgg0
  z0 := Try.sizeOf0
  v0 := Try.zeroValue0
  t3 := Try.underlying3
  a3 := Try.isAgg3
  z3 := Try.sizeOf3
  v3 := Try.zeroValue3
  t4 := Try.underlying4
  a4 := Try.isAgg4
  z4 := Try.sizeOf4
  v4 := Try.zeroValue4
  t5 := Try.underlying5
  a5 := Try.isAgg5
  z5 := Try.sizeOf5
  v5 := Try.zeroValue5
  t9 := Try.underlying9
  a9 := Try.isAgg9
  z9 := Try.sizeOf9
  v9 := Try.zeroValue9
  t22 := Try.underlying59
  a22 := Try.isAgg59
  z22 := Try.sizeOf59
  v22 := Try.zeroValue59
  t25 := Try.underlying107
  a25 := Try.isAgg107
  z25 := Try.sizeOf107
  v25 := Try.zeroValue107
  t39 := Try.underlying124
  a39 := Try.isAgg124
  z39 := Try.sizeOf124
  v39 := Try.zeroValue124
  t45 := Try.underlying132
  a45 := Try.isAgg132
  z45 := Try.sizeOf132
  v45 := Try.zeroValue132
  t46 := Try.underlying133
  a46 := Try.isAgg133
  z46 := Try.sizeOf133
  v46 := Try.zeroValue133
  t50 := Try.underlying125
  a50 := Try.isAgg125
  z50 := Try.sizeOf125
  v50 := Try.zeroValue125
  t53 := Try.underlying23
  a53 := Try.isAgg23
  z53 := Try.sizeOf23
  v53 := Try.zeroValue23
  t55 := Try.underlying22
  a55 := Try.isAgg22
  z55 := Try.sizeOf22
  v55 := Try.zeroValue22
  t66 := Try.underlying143
  a66 := Try.isAgg143
  z66 := Try.sizeOf143
  v66 := Try.zeroValue143
  t70 := Try.underlying147
  a70 := Try.isAgg147
  z70 := Try.sizeOf147
  v70 := Try.zeroValue147
  t76 := Try.underlying149
  a76 := Try.isAgg149
  z76 := Try.sizeOf149
  v76 := Try.zeroValue149
  t77 := Try.underlying150
  a77 := Try.isAgg150
  z77 := Try.sizeOf150
  v77 := Try.zeroValue150 }


end Go.Proofs.Ytfblehdeoloijaa

/- slices.SortFunc at a list of ubers: what is sorted is the same ubers, by rising numbers. -/
namespace Go.Proofs.Ytfblehdeoloijaa
open Go.ChangeShapes Go.WideShapes Go.ChangeAt Go.RowKit
set_option linter.unusedVariables false
set_option maxRecDepth 20000

instance : Inhabited U5 := ⟨u5z⟩
/-- which of two is ahead -/
def u5c (u v : U5) : Int := Lib.compareInt u.x v.x

theorem cmp_any (x y : Int) (w : World) : Calls Try.prog 57 #[.int .u64 x, .int .u64 y] w fun e w' => e = .returned (.int .i64 (Lib.compareInt x y)) ∧ w = w' := by
  by_cases h1 : x < y
  · have e : Lib.compareInt x y = -1 := by unfold Lib.compareInt; simp [h1]
    rw [e]
    clear e
    go_enter Try.func57, Try.ntmps57
    go_wp2
    go_ret
    exact ⟨rfl, rfl⟩
  · by_cases h2 : y < x
    · have e : Lib.compareInt x y = 1 := by unfold Lib.compareInt; simp [h1, h2]
      rw [e]
      clear e
      go_enter Try.func57, Try.ntmps57
      go_wp2
      go_ret
      exact ⟨rfl, rfl⟩
    · have e : Lib.compareInt x y = 0 := by unfold Lib.compareInt; simp [h1, h2]
      rw [e]
      clear e
      go_enter Try.func57, Try.ntmps57
      go_wp2
      go_ret
      exact ⟨rfl, rfl⟩

open Go.Sort in
theorem less_any (u v : U5) (W : World) : Calls Try.prog 56 #[.agg (u5L u).toArray, .agg (u5L v).toArray] W fun e w' => e = .returned (.int .i64 (u5c u v)) ∧ ∃ q os', w' = grow (W.drewN q) os' := by
  have hc := fun w => cmp_any (u.x : Int) (v.x : Int) w
  unfold u5c
  obtain ⟨x, y, ⟨a, b, s⟩, l, n⟩ := u
  obtain ⟨x', y', ⟨a', b', s'⟩, l', n'⟩ := v
  unfold u5L
  dsimp only at *
  generalize Lib.compareInt (x : Int) (x' : Int) = r at hc ⊢
  have hc := Lib.hid hc
  go_enter Try.func56, Try.ntmps56
  go_wp2_with fail
  refine (hc.out _).mono ?_
  rintro e w' ⟨rfl, rfl⟩
  go_wp2
  go_ret
  exact ⟨rfl, 0, _, by rw [alloc_eq_grow, alloc_eq_grow, grow_grow]; rfl⟩
theorem u5c_lt (u v : U5) : ltOf u5c u v = decide (u.x < v.x) := by
  unfold ltOf u5c Lib.compareInt
  by_cases h1 : (u.x : Int) < (v.x : Int)
  · have : u.x < v.x := by omega
    simp [h1, this]
  · have h3 : ¬ u.x < v.x := by omega
    by_cases h2 : (v.x : Int) < (u.x : Int) <;> simp [h1, h2, h3]

open Go.Sort in
theorem u5c_swo : SWO (ltOf u5c) where
  irrefl x := by rw [u5c_lt]; simp
  trans x y z h1 h2 := by rw [u5c_lt] at *; simp at *; omega
  ntrans x y z h1 h2 := by rw [u5c_lt] at *; simp at *; omega

theorem isAggU : ∀ w, (isAgg 27).run Try.prog w = .ok true w := fun _ => by kernel_rfl
theorem sizeOfU : ∀ w, (Go.sizeOf 27).run Try.prog w = .ok 7 w := fun _ => by kernel_rfl

theorem len12 (n : Nat) (W : World) (h : n ≤ 12) : Calls Try.prog 72 #[.int .u64 n] W fun e w' => (∃ l : Int, e = .returned (.int .i64 l)) ∧ w' = W :=
  (Any.bits_Len bitsLen2 n W (by omega) (by omega)).mono fun _ _ ⟨he, hw⟩ => ⟨⟨_, he⟩, hw⟩

open Go.Sort in
theorem flat_u5 (xs : List U5) (t : Nat) (h : t < xs.length * 7) : (rowsL u5L xs)[t]? = some ((flatK u5L 7 xs.toArray)[t]!) := by
  rw [get_flatK _ _ _ _ (by simpa using h)]
  have hi : t / 7 < xs.length := by omega
  have hj : t % 7 < (u5L (xs[t / 7])).length := by rw [u5L_length]; omega
  have e := rowsL_at u5L_length xs (t / 7) hi (t % 7) _ (List.getElem?_eq_getElem hj)
  rw [show t / 7 * 7 + t % 7 = t from by omega] at e
  rw [e]
  congr 1
  have e1 : xs.toArray[t / 7]! = xs[t / 7] := by rw [getElem!_pos _ _ (by simpa using hi)]; simp
  rw [e1]
  exact (getElem!_pos (u5L xs[t / 7]) (t % 7) hj).symm

open Go.Sort in
theorem holds_u5 {w : World} {base g cap : Nat} {xs : List U5} (h : w.ownsRow base 27 7 (.slice (some ⟨g, 0, none⟩) xs.length cap) xs.length (rowsL u5L xs)) : HoldsK u5L 7 w g 0 xs.toArray := by
  intro j hj
  have hj' : j < xs.length * 7 := by simpa using hj
  have hl : j < (rowsL u5L xs).length := by rw [rowsL_length u5L_length]; exact hj'
  refine ⟨?_, ?_⟩
  · rw [Nat.zero_add, World.ownsRow.cellAt h j (by omega)]
    simp only [id_eq]
    rw [← flat_u5 xs j hj']
  · rw [Nat.zero_add]; exact World.ownsRow.frozenAt h j

open Go.Sort in
theorem reads_u5 {w : World} {g : Nat} {xs : List U5} (h : HoldsK u5L 7 w g 0 xs.toArray) : Reads w (some ⟨g, 0, none⟩) (rowsL u5L xs) := by
  intro j hj
  have hl : j < xs.length * 7 := by rw [rowsL_length u5L_length] at hj; exact hj
  refine ⟨g, 0, rfl, ?_⟩
  rw [(h j (by simpa using hl)).1]
  have := flat_u5 xs j hl
  rw [List.getElem?_eq_getElem hj] at this
  simp only [id_eq]
  exact this.symm

open Go.Sort in
theorem sortWorld_kept (w : World) (g n : Nat) (d : Array U5) (os : Array Obj) : Kept (· = g) w (sortWorldK u5L 7 w g 0 n d os) := by
  refine ⟨rfl, rfl, rfl, ?_, ?_⟩
  · exact size_sortWorldK_c u5L 7 w g 0 n d os
  · intro i hi hn
    have hg : g ≠ i := fun e => hn e.symm
    unfold sortWorldK grow putRowK putRow mapBlock Go.Sort.ahead
    dsimp only
    rw [Array.getElem?_append_left (by simpa using hi), Array.getElem?_modify, if_neg hg]

/-- sorted by rising numbers -/
def RiseU (xs : List U5) : Prop := xs.Pairwise fun u v => ¬ v.x < u.x

open Go.Sort in
theorem rise_of {d : Array U5} (h : SortedIn (ltOf u5c) 0 d.size d) : RiseU d.toList := by
  unfold RiseU
  rw [List.pairwise_iff_getElem]
  intro i j hi hj hij
  have := h i j (Nat.zero_le _) hij (by simpa using hj)
  rw [u5c_lt, getElem!_pos d j (by simpa using hj), getElem!_pos d i (by simpa using hi)] at this
  simpa using this

open Go.Sort in
set_option maxHeartbeats 1000000 in
theorem sort_some (w : World) (base g cap : Nat) (xs : List U5) (h : w.ownsRow base 27 7 (.slice (some ⟨g, 0, none⟩) xs.length cap) xs.length (rowsL u5L xs)) (hl : xs.length ≤ 12) :
    Calls Try.prog 55 #[.slice (some ⟨g, 0, none⟩) xs.length cap, .func (.func 56) #[] #[]] w fun e w' =>
      e = .returned (.tuple #[]) ∧ ∃ ys : List U5, ys.Perm xs ∧ RiseU ys ∧ Reads w' (some ⟨g, 0, none⟩) (rowsL u5L ys) ∧ Kept (· = g) w w' := by
  have eg : ∀ args w, (callFunc 56 args).run Try.prog w = .ok (.enter 56 args) w := enters_of Try.func56 (by kernel_rfl) rfl
  have hg : g < w.heap.size := by
    rcases h.2 with ⟨e, _⟩ | ⟨g', _, _, e, _, h2, _⟩
    · cases e
    · injection e with e; injection e with e; injection e with e
      subst e
      exact (Array.getElem?_eq_some_iff.1 h2).1
  have hcon := AnyQ.slices_SortFunc_small_sorted sortU 7 isAggU sizeOfU u5L u5L_length u5L_one u5c 56 #[] u5c_swo g 0 cap xs.toArray w eg
    (fun m os dk _ x y => less_any x y _) (holds_u5 h) hg (by simpa using hl) len12
  refine Calls.mono (show Calls Try.prog 55 #[.slice (some ⟨g, 0, none⟩) xs.length cap, .func (.func 56) #[] #[]] w _ from hcon) ?_
  rintro e w' ⟨rfl, d', n, os, hp, hs, rfl⟩
  have hsz : d'.size = xs.toArray.size := hp.1
  refine ⟨rfl, d'.toList, ?_, ?_, ?_, sortWorld_kept w g n d' os⟩
  · have := hp.2.2
    simp only [List.size_toArray] at this
    rw [Array.extract_eq_self_of_le (by simp at hsz; omega), Array.extract_eq_self_of_le (by simp)] at this
    simpa using this
  · rw [← hsz] at hs
    exact rise_of hs
  · have hh := holdsK_sortWorldK_c u5L 7 w g 0 xs.toArray d' n os (holds_u5 h) hg hsz
    exact reads_u5 (by simpa using hh)

set_option maxHeartbeats 1000000 in
theorem sort_none (w : World) (fv : Value) : Calls Try.prog 55 #[.slice none 0 0, fv] w fun e w' => e = .returned (.tuple #[]) ∧ w = w' := by
  have hi : Hid (∀ W, Calls Try.prog 79 #[.slice none 0 0, .int .i64 0, .int .i64 0, fv] W fun e w' => e = .returned (.tuple #[]) ∧ W = w') := Lib.hid (fun W => by
    go_enter Try.func79, Try.ntmps79
    go_wp2
    refine wp_loop_rounds 1 ?_
    rw [rounds_succ]
    go_wp2
    go_end0
    exact ⟨rfl, rfl⟩)
  have hp : Hid (∀ (lim : Int) W, Calls Try.prog 71 #[.slice none 0 0, .int .i64 0, .int .i64 0, .int .i64 lim, fv] W fun e w' => e = .returned (.tuple #[]) ∧ W = w') := Lib.hid (fun lim W => by
    go_enter Try.func71, Try.ntmps71
    go_wp2
    refine wp_loop_rounds 1 ?_
    rw [rounds_succ]
    go_wp2_with (go_at_call 79; refine (hi.out _).mono ?_; rintro e w' ⟨rfl, rfl⟩)
    (try simp only [Exit.inBlock, Exit.then]); refine bodyPost_ret (results_none rfl _ _ _) rfl ?_
    exact ⟨rfl, rfl⟩)
  have hl := Lib.hid (fun W => len12 0 W (by omega))
  go_enter Try.func55, Try.ntmps55
  go_wp2_with (first | (go_at_call 72; refine (hl.out _).mono ?_; rintro e w' ⟨⟨l, rfl⟩, rfl⟩) | (go_at_call 71; refine (hp.out _ _).mono ?_; rintro e w' ⟨rfl, rfl⟩))
  go_end0
  exact ⟨rfl, rfl⟩
end Go.Proofs.Ytfblehdeoloijaa

/- An uber as a sector: the program's Bytes. -/
namespace Go.Proofs.Ytfblehdeoloijaa
open Go.ChangeShapes Go.WideShapes Go.ChangeAt Go.RowKit
set_option linter.unusedVariables false
set_option maxRecDepth 20000

def markB : List UInt8 := [65, 81, 70, 82]
def zerosB (n : Nat) : List UInt8 := List.replicate n 0
theorem zerosB_length (n : Nat) : (zerosB n).length = n := List.length_replicate ..
def U5.ab (u : U5) : List UInt8 := leB 8 u.x ++ leB 8 u.y
def U5.nb (u : U5) : List UInt8 := leB 4 u.l.toNat ++ leB 4 u.n.toNat
theorem U5.ab_length (u : U5) : u.ab.length = 16 := by simp [U5.ab, leB_length]
theorem U5.nb_length (u : U5) : u.nb.length = 8 := by simp [U5.nb, leB_length]
/-- the first 124 bytes -/
def U5.body (u : U5) : List UInt8 := markB ++ (u.ab ++ (u.p.bytes ++ (u.nb ++ zerosB 80)))
theorem U5.body_length (u : U5) : u.body.length = 124 := by simp [U5.body, U5.ab_length, U5.nb_length, P3.bytes_length, zerosB_length, markB]
def U5.sumN (u : U5) : Nat := crcMore 0 u.body
def U5.sec (u : U5) : Sec := ⟨u.body ++ leB 4 u.sumN, by simp [U5.body_length, leB_length]⟩
def U5.secO (u : U5) : Option Sec := if u.rightB then some u.sec else none

/-- a sector and an error -/
def SRes (n : Int) (o : Option Sec) (w : World) (e : Ending) (w' : World) : Prop :=
  e = .returned (.tuple #[.agg (secL (o.getD sec0)).toArray, .int .i64 (errI n o)]) ∧ Below w.heap.size w w'

theorem right_parts {u : U5} (h : u.rightB = true) : 1 ≤ u.x ∧ u.x ≤ 281474976710655 ∧ 1 ≤ u.y ∧ u.y ≤ 281474976710655 ∧ u.p.rightB = true ∧ u.p.holeB = false ∧ 1 ≤ u.l ∧ u.l ≤ 65535 ∧ 64 ≤ u.n ∧ u.n ≤ 1024 := by
  unfold U5.rightB stampB at h
  simp only [Bool.and_eq_true, decide_eq_true_iff, Bool.not_eq_true'] at h
  exact ⟨h.1.1, h.1.2, h.2.1.1, h.2.1.2, h.2.2.1, h.2.2.2.1, h.2.2.2.2.1, h.2.2.2.2.2.1, h.2.2.2.2.2.2.1, h.2.2.2.2.2.2.2⟩

theorem secL_sec0 : secL sec0 = bytesV (zerosB 128) := rfl
theorem sec_blk {w : World} {g : Nat} {s : Sec} {bs : List UInt8} (h : Blk w g 34 (bytesV bs)) (e : bs = s.1) : Blk w g 34 (secL s) := by subst e; exact h
theorem whole_sec {s t : Sec} : secL s = (secL t).take 0 ++ secL s ++ (secL t).drop (0 + (secL s).length) := whole_new (by rw [secL_length, secL_length])

/-- some bytes of the zeros behind others are laid -/
theorem fill_step (pre mid : List UInt8) (o n k m : Nat) (ho : pre.length = o) (hn : mid.length = n) (hm : m = n + k) :
    bytesV (pre ++ (mid ++ zerosB k)) = (bytesV (pre ++ zerosB m)).take o ++ (bytesV mid ++ (bytesV (pre ++ zerosB m)).drop (o + n)) := by
  subst ho hn hm
  have hz : zerosB (mid.length + k) = zerosB mid.length ++ zerosB k := by simp [zerosB, List.replicate_append_replicate]
  rw [hz]
  simp only [bytesV_append]
  have e1 : (bytesV pre).length = pre.length := bytesV_length _
  have e2 : (bytesV (zerosB mid.length)).length = mid.length := by rw [bytesV_length, zerosB_length]
  rw [List.take_append_of_le_length (by rw [e1]; exact Nat.le_refl _), List.take_of_length_le (by rw [e1]; exact Nat.le_refl _)]
  rw [← List.append_assoc (bytesV pre) (bytesV (zerosB mid.length)), List.drop_append_of_le_length (by rw [List.length_append, e1, e2]; exact Nat.le_refl _), List.drop_of_length_le (by rw [List.length_append, e1, e2]; exact Nat.le_refl _)]
  simp

/-- the seven cells of an uber -/
theorem UAt.cells {w : World} {g : Nat} {x y : Nat} {a : Int} {b s : Nat} {l n : Int} (h : Blk w g 27 (u5L ⟨x, y, ⟨a, b, s⟩, l, n⟩)) :
    w.cell? ⟨g, 0, none⟩ = some (.int .u64 (x : Int)) ∧ w.cell? ⟨g, 1, none⟩ = some (.int .u64 (y : Int)) ∧ w.cell? ⟨g, 2, none⟩ = some (.int .i64 a) ∧ w.cell? ⟨g, 3, none⟩ = some (.int .u64 (b : Int)) ∧ w.cell? ⟨g, 4, none⟩ = some (.int .u32 (s : Int)) ∧ w.cell? ⟨g, 5, none⟩ = some (.int .i64 l) ∧ w.cell? ⟨g, 6, none⟩ = some (.int .i64 n) :=
  ⟨h.cell 0, h.cell 1, h.cell 2, h.cell 3, h.cell 4, h.cell 5, h.cell 6⟩

/-- in the midst of Bytes: the uber's box, the zero of the result, the sector under way, the table's bytes -/
structure BW (w0 w : World) (u : U5) (g : Nat) (ao : Option Addr) (tb : List Value) (cs : List Value) : Prop where
  u : Blk w w0.heap.size 27 (u5L u)
  z : Blk w (w0.heap.size + 1) 34 (secL sec0)
  a : Blk w g 34 cs
  q : Below w0.heap.size w0 w
  lt : w0.heap.size + 1 < g
  t : Reads w ao tb
  tl : ∀ a, ao = some a → a.block < g
namespace BW
variable {w0 w w' : World} {u : U5} {g : Nat} {ao : Option Addr} {tb cs : List Value}
theorem call (h : BW w0 w u g ao tb cs) (hb : Below w.heap.size w w') : BW w0 w' u g ao tb cs := ⟨blk_out h.u hb, blk_out h.z hb, blk_out h.a hb, h.q.trans (hb.mono h.q.size), h.lt, h.t.below hb, h.tl⟩
theorem alloc (h : BW w0 w u g ao tb cs) (o : Obj) : BW w0 (w.alloc o) u g ao tb cs := h.call ((Below.refl _ _).alloc (Nat.le_refl _) o)
theorem drew (h : BW w0 w u g ao tb cs) : BW w0 w.drew u g ao tb cs := ⟨h.u, h.z, h.a, h.q.drew, h.lt, h.t, h.tl⟩
theorem copy {cs' : List Value} (h : BW w0 w u g ao tb cs) (k : Kept (· = g) w w') (hb : Blk w' g 34 cs') : BW w0 w' u g ao tb cs' := by
  have := h.lt
  exact ⟨h.u.kept k (by omega), h.z.kept k (by omega), hb, Kept.out h.q k (fun i _ e => by omega) h.q.size, h.lt,
    h.t.keep fun p hp ⟨a, ea, he⟩ => k.cell hp (by have := h.tl a ea; omega), h.tl⟩
theorem lts (h : BW w0 w u g ao tb cs) : w0.heap.size < w.heap.size := h.u.lt
theorem frz (h : BW w0 w u g ao tb cs) (i : Nat) : w.frozen? ⟨w0.heap.size, i, none⟩ = false := h.u.frozen i
end BW

set_option maxHeartbeats 2000000 in
theorem uBytes_no (u : U5) (w : World) (h : u.Fit) (hr : u.rightB = false) :
    Calls Try.prog 12 #[u5V u] w (SRes 61 none w) := by
  have hR := fun W => uRight_any u W h
  rw [hr] at hR
  have hz := zeroSec
  have hbs := built_sec0
  obtain ⟨x, y, ⟨a, b, s⟩, l, n⟩ := u
  unfold u5V at *
  dsimp only at *
  have hR := Lib.hid hR
  clear h hr
  go_enter Try.func12, Try.ntmps12
  go_wp2_with fail
  refine (hR.out _).mono ?_
  rintro e w1 ⟨rfl, hb1⟩
  have hZ1 := Lib.hid (Blk.below (two_new w (.cells #[.int .u64 (x : Int), .int .u64 (y : Int), .int .i64 a, .int .u64 (b : Int), .int .u32 (s : Int), .int .i64 l, .int .i64 n] 27) 34 (secL sec0)) hb1 (by simp))
  have q1 := Lib.hid ((two_below w _ _).trans (hb1.mono (by simp; omega)))
  clear hb1
  go_wp2_with ((with_reducible refine guardList ?_)
               refine wantList_store (by rfl) 34 _ _ rfl (w.heap.size + 1) 0 (by rfl) (secL sec0) (by rfl) _ (secL sec0) (secL sec0) hZ1.out (by rw [secL_length]; decide) (secL_one _) (infoSecL _) whole_sec ?_
               intro w2 hZ2 k2 z2
               have hZ2 := Lib.hid hZ2
               have q2 := Lib.hid (Kept.out q1.out k2 (fun i _ e => by omega) q1.out.size))
  refine bodyPost_ret (results_row_tmp rfl (rowSec hZ2.out)) rfl ⟨rfl, q2.out⟩

set_option maxHeartbeats 4000000 in
theorem uBytes_yes (u : U5) (w : World) (h : u.Fit) (hr : u.rightB = true) :
    Calls Try.prog 12 #[u5V u] w (SRes 61 (some u.sec) w) := by
  have hR := fun W => uRight_any u W h
  rw [hr] at hR
  obtain ⟨x1, x2, y1, y2, hpr, _, l1, l2, n1, n2⟩ := right_parts hr
  have hbytes := fun W => pBytes_any u.p.a u.p.b u.p.s W h.2.2.1
  have hzs : Hid (u.p.bytesO = some u.p.bytes) := Lib.hid (by unfold P3.bytesO; rw [hpr]; rfl)
  have hx4 : Hid (u.x < 256 ^ 8) := Lib.hid (by omega)
  have hy4 : Hid (u.y < 256 ^ 8) := Lib.hid (by omega)
  have hl4 : Hid (u.l.toNat < 256 ^ 4) := Lib.hid (by omega)
  have hn4 : Hid (u.n.toNat < 256 ^ 4) := Lib.hid (by omega)
  have hs4 : Hid (u.sumN < 256 ^ 4) := Lib.hid (by unfold U5.sumN; exact crcMore_lt _ _)
  have hz := zeroSec
  have hbs := built_sec0
  -- the bytes, step by step
  obtain ⟨s1, hs1⟩ : ∃ s1, s1 = markB ++ zerosB 124 := ⟨_, rfl⟩
  obtain ⟨s2, hs2⟩ : ∃ s2, s2 = markB ++ (u.ab ++ zerosB 108) := ⟨_, rfl⟩
  obtain ⟨s3, hs3⟩ : ∃ s3, s3 = (markB ++ u.ab) ++ (u.p.bytes ++ zerosB 92) := ⟨_, rfl⟩
  obtain ⟨s4, hs4'⟩ : ∃ s4, s4 = (markB ++ (u.ab ++ u.p.bytes)) ++ (u.nb ++ zerosB 84) := ⟨_, rfl⟩
  have f1 : Hid (bytesV s1 = (secL sec0).take 0 ++ (bytesV markB ++ (secL sec0).drop (0 + 4))) := Lib.hid (by
    rw [hs1, secL_sec0]; exact fill_step [] markB 0 4 124 128 rfl rfl rfl)
  have f2 : Hid (bytesV s2 = (bytesV s1).take 4 ++ (bytesV u.ab ++ (bytesV s1).drop (4 + 16))) := Lib.hid (by
    rw [hs2, hs1]; exact fill_step markB u.ab 4 16 108 124 rfl u.ab_length rfl)
  have f3 : Hid (bytesV s3 = (bytesV s2).take 20 ++ (bytesV u.p.bytes ++ (bytesV s2).drop (20 + 16))) := Lib.hid (by
    rw [hs3, hs2, ← List.append_assoc markB u.ab (zerosB 108)]; exact fill_step (markB ++ u.ab) u.p.bytes 20 16 92 108 (by simp [markB, U5.ab_length]) (P3.bytes_length _) rfl)
  have f4 : Hid (bytesV s4 = (bytesV s3).take 36 ++ (bytesV u.nb ++ (bytesV s3).drop (36 + 8))) := Lib.hid (by
    rw [hs4', hs3, show (markB ++ u.ab) ++ (u.p.bytes ++ zerosB 92) = (markB ++ (u.ab ++ u.p.bytes)) ++ zerosB 92 from by simp]; exact fill_step (markB ++ (u.ab ++ u.p.bytes)) u.nb 36 8 84 92 (by simp [markB, U5.ab_length, P3.bytes_length]) u.nb_length rfl)
  have e4 : s4 = u.body ++ zerosB 4 := by
    rw [hs4', U5.body]; simp [zerosB]
  have f5 : Hid (secL u.sec = (bytesV s4).take 124 ++ (bytesV (leB 4 u.sumN) ++ (bytesV s4).drop (124 + 4))) := Lib.hid (by
    have := fill_step u.body (leB 4 u.sumN) 124 4 0 4 u.body_length (leB_length _ _) rfl
    rw [e4, ← this]; unfold secL U5.sec; simp [zerosB])
  have g4 : Hid (s4.take 124 = u.body) := Lib.hid (by rw [e4, ← u.body_length, List.take_left])
  have n1' : Hid ((bytesV s1).length = 128) := Lib.hid (by rw [bytesV_length, hs1]; simp [markB, zerosB_length])
  have n2' : Hid ((bytesV s2).length = 128) := Lib.hid (by rw [bytesV_length, hs2]; simp [markB, zerosB_length, U5.ab_length])
  have n3' : Hid ((bytesV s3).length = 128) := Lib.hid (by rw [bytesV_length, hs3]; simp [markB, zerosB_length, U5.ab_length, P3.bytes_length])
  have n4' : Hid ((bytesV s4).length = 128) := Lib.hid (by rw [bytesV_length, hs4']; simp [markB, zerosB_length, U5.ab_length, U5.nb_length, P3.bytes_length])
  have hab : Hid (u.ab = leB 8 u.x ++ leB 8 u.y) := Lib.hid rfl
  have hnb : Hid (u.nb = leB 4 u.l.toNat ++ leB 4 u.n.toNat) := Lib.hid rfl
  have m2 : Hid ((bytesV u.ab).length = 16) := Lib.hid (by rw [bytesV_length, u.ab_length])
  have m3 : Hid ((bytesV u.p.bytes).length = 16) := Lib.hid (by rw [bytesV_length, P3.bytes_length])
  have m4 : Hid ((bytesV u.nb).length = 8) := Lib.hid (by rw [bytesV_length, u.nb_length])
  have m5 : Hid ((bytesV (leB 4 u.sumN)).length = 4) := Lib.hid (by rw [bytesV_length, leB_length])
  have hsum : Hid (crcMore 0 u.body = u.sumN) := Lib.hid rfl
  have hbl := Lib.hid u.body_length
  clear hs1 hs2 hs3 hs4' e4 h hr hpr
  generalize u.sec = S at *
  generalize u.sumN = N at *
  generalize u.body = BD at *
  generalize u.ab = AB at *
  generalize u.nb = NB at *
  generalize u.p.bytes = TB at *
  obtain ⟨x, y, ⟨a, b, s⟩, l, n⟩ := u
  unfold u5V p3V at *
  dsimp only at *
  obtain ⟨l, rfl⟩ : ∃ l' : Nat, l = (l' : Int) := ⟨l.toNat, by omega⟩
  obtain ⟨n, rfl⟩ : ∃ n' : Nat, n = (n' : Int) := ⟨n.toNat, by omega⟩
  simp only [Int.toNat_natCast] at hl4 hn4 hnb
  have hR := Lib.hid hR
  have hbytes := Lib.hid hbytes
  go_enter Try.func12, Try.ntmps12
  go_wp2_with fail
  refine (hR.out _).mono ?_
  rintro e w1 ⟨rfl, hb1⟩
  have hU1 : Hid (Blk w1 w.heap.size 27 (u5L ⟨x, y, ⟨a, b, s⟩, (l : Int), (n : Int)⟩)) := Lib.hid (blk_out ((Blk.new w 27 (u5L ⟨x, y, ⟨a, b, s⟩, (l : Int), (n : Int)⟩)).alloc _) hb1)
  have hZ1 := Lib.hid (blk_out (two_new w (.cells #[.int .u64 (x : Int), .int .u64 (y : Int), .int .i64 a, .int .u64 (b : Int), .int .u32 (s : Int), .int .i64 (l : Int), .int .i64 (n : Int)] 27) 34 (secL sec0)) hb1)
  have q1 := Lib.hid ((two_below w _ _).trans (hb1.mono (by simp; omega)))
  have hlt1 := hZ1.out.lt
  clear hb1
  obtain ⟨c0, c1, c2, c3, c4, c5, c6⟩ := UAt.cells hU1.out
  go_wp2_with fail
  refine (hbytes.out _).mono ?_
  intro e w2 hB
  obtain ⟨ao, cap, rfl, ht2, hc2, hm2, hn2, hb2⟩ := hB.yes (m := 16) hzs.out (by have := m3.out; rw [bytesV_length] at this; exact this)
  have H2 := Lib.hid (show BW w (w2.alloc (.cells (secL sec0).toArray 34)) ⟨x, y, ⟨a, b, s⟩, (l : Int), (n : Int)⟩ w2.heap.size ao (bytesV TB) (secL sec0) from
    ⟨(blk_out hU1.out hb2).alloc _, (blk_out hZ1.out hb2).alloc _, Blk.new _ _ _, (q1.out.trans (hb2.mono q1.out.size)).alloc (q1.out.trans (hb2.mono q1.out.size)).size _, by have := hb2.size; omega,
     Reads.alloc ht2.out _, fun a ea => Reads.lt ht2.out 0 (by rw [m3.out]; decide) a ea⟩)
  clear c0 c1 c2 c3 c4 c5 c6 hb2 hB hlt1 ht2
  go_wp2_with (first
    | (refine wpList_copyStr rfl (.tmp 20) (.const (.string _)) 76 9 rfl 5 Try.underlying76 infoU8' w2.heap.size 0 128 128 (by rfl) _ (by rfl) 34 (secL sec0) (bytesV s1) 4 H2.out.a (by rfl) (by decide) (by rw [secL_length]; decide) f1.out ?_
       intro w3 hb3 k3 z3
       have H3 := Lib.hid (H2.out.copy k3 hb3)
       clear hb3 k3 z3))
  have d0 := H3.out.u.cell 0
  have d1 := H3.out.u.cell 1
  simp only [u5L, List.getElem?_cons_zero, List.getElem?_cons_succ] at d0 d1
  go_region_held3 (fun w' => w'.cell? ⟨w.heap.size, 0, none⟩ = some (.int .u64 (x : Int)) ∧ w'.cell? ⟨w.heap.size, 1, none⟩ = some (.int .u64 (y : Int))) (first | go_keep | exact hkk)
    (first
    | (go_at_call 35
       refine (uput8_any x y hx4.out hy4.out (some ⟨_, 0, none⟩) 2 _ (u64s_newD _ x y)).mono ?_
       rintro e w4 ⟨v, rfl, ho, hb⟩
       obtain ⟨ao4, cap4, rfl, lq4, mq4, nq4, hr4, hf4⟩ := ho.shapeN (n := 16) (by rw [bytesV_length]; simp [leB_length])
       have H4 := Lib.hid ((H3.out.alloc _).drew.call hb)
       have hr4 := Lib.hid hr4
       have hkk : w4.cell? ⟨w.heap.size, 0, none⟩ = some (.int .u64 (x : Int)) ∧ w4.cell? ⟨w.heap.size, 1, none⟩ = some (.int .u64 (y : Int)) := ⟨H4.out.u.cell 0, H4.out.u.cell 1⟩
       clear ho hb hf4 nq4)
    | (refine step_copyR rfl (.tmp 22) (.tmp 28) 76 76 rfl 5 Try.underlying76 infoU8' w2.heap.size 4 124 124 (by rfl) ao4 16 cap4 (by rfl) 34 (bytesV s1) (bytesV s2) (bytesV AB) H4.out.a m2.out (by decide) (by decide) (by rw [hab.out]; exact hr4.out) (by rw [n1'.out]; decide) (bytesV_one _) f2.out ?_
       intro w5 hb5 k5 z5
       have H5 := Lib.hid (H4.out.copy k5 hb5)
       have hkk : w5.cell? ⟨w.heap.size, 0, none⟩ = some (.int .u64 (x : Int)) ∧ w5.cell? ⟨w.heap.size, 1, none⟩ = some (.int .u64 (y : Int)) := ⟨H5.out.u.cell 0, H5.out.u.cell 1⟩
       clear hb5 k5 z5))
  clear d0 d1
  go_wp2_with (first
    | (refine wpList_copyR rfl (.tmp 30) (.tmp 31) 76 76 rfl 5 Try.underlying76 infoU8' w2.heap.size 20 108 108 (by rfl) ao 16 cap (by rfl) 34 (bytesV s2) (bytesV s3) (bytesV TB) H5.out.a m3.out (by decide) (by decide) H5.out.t (by rw [n2'.out]; decide) (bytesV_one _) f3.out ?_
       intro w6 hb6 k6 z6
       have H6 := Lib.hid (H5.out.copy k6 hb6)
       clear hb6 k6 z6))
  have d5 := H6.out.u.cell 5
  have d6 := H6.out.u.cell 6
  simp only [u5L, List.getElem?_cons_zero, List.getElem?_cons_succ] at d5 d6
  go_region_held3 (fun w' => w'.cell? ⟨w.heap.size, 5, none⟩ = some (.int .i64 (l : Int)) ∧ w'.cell? ⟨w.heap.size, 6, none⟩ = some (.int .i64 (n : Int))) (first | go_keep | exact hkk)
    (first
    | (go_at_call 35
       (try rw [IntWalk.u64_in (l : Int) (by omega)])
       (try rw [IntWalk.u64_in (n : Int) (by omega)])
       refine (uput4_any l n hl4.out hn4.out (some ⟨_, 0, none⟩) 2 _ (u64s_newD _ l n)).mono ?_
       rintro e w7 ⟨v, rfl, ho, hb⟩
       obtain ⟨ao7, cap7, rfl, lq7, mq7, nq7, hr7, hf7⟩ := ho.shapeN (n := 8) (by rw [bytesV_length]; simp [leB_length])
       have H7 := Lib.hid ((H6.out.alloc _).drew.call hb)
       have hr7 := Lib.hid hr7
       have hkk : w7.cell? ⟨w.heap.size, 5, none⟩ = some (.int .i64 (l : Int)) ∧ w7.cell? ⟨w.heap.size, 6, none⟩ = some (.int .i64 (n : Int)) := ⟨H7.out.u.cell 5, H7.out.u.cell 6⟩
       clear ho hb hf7 nq7)
    | (refine step_copyR rfl (.tmp 33) (.tmp 41) 76 76 rfl 5 Try.underlying76 infoU8' w2.heap.size 36 92 92 (by rfl) ao7 8 cap7 (by rfl) 34 (bytesV s3) (bytesV s4) (bytesV NB) H7.out.a m4.out (by decide) (by decide) (by rw [hnb.out]; exact hr7.out) (by rw [n3'.out]; decide) (bytesV_one _) f4.out ?_
       intro w8 hb8 k8 z8
       have H8 := Lib.hid (H7.out.copy k8 hb8)
       have hkk : w8.cell? ⟨w.heap.size, 5, none⟩ = some (.int .i64 (l : Int)) ∧ w8.cell? ⟨w.heap.size, 6, none⟩ = some (.int .i64 (n : Int)) := ⟨H8.out.u.cell 5, H8.out.u.cell 6⟩
       clear hb8 k8 z8))
  clear d5 d6
  go_wp2
  have hbd : Hid (Bytes w8 (some ⟨w2.heap.size, 0, none⟩) BD) := Lib.hid (by
    have := Reads.take (Reads.of_blk H8.out.a) 124
    unfold Bytes
    rw [← g4.out]
    simpa [bytesV] using this)
  go_region_held3 (fun w' => True) (trivial)
    (first
    | (go_at_call 36
       refine (Of_n 124 _ BD _ _ (by first | exact hbd.out | exact (show Bytes w8.drew (some ⟨w2.heap.size, 0, none⟩) BD from hbd.out)) hbl.out (by decide)).mono ?_
       rintro e w9 ⟨rfl, rfl⟩
       rw [hsum.out]
       have hkk : True := trivial)
    | (go_at_call 35
       rw [IntWalk.u64_in (N : Int) (by have := hs4.out; omega)]
       refine (uput41_any N hs4.out (some ⟨_, 0, none⟩) 1 _ (u64s_newD1 _ N)).mono ?_
       rintro e w9 ⟨v, rfl, ho, hb⟩
       obtain ⟨ao9, cap9, rfl, lq9, mq9, nq9, hr9, hf9⟩ := ho.shapeN (n := 4) m5.out
       have H9 := Lib.hid ((H8.out.alloc _).drew.call hb)
       have hr9 := Lib.hid hr9
       have hkk : True := trivial
       clear ho hb hf9 nq9)
    | (refine step_copyR rfl (.tmp 43) (.tmp 48) 76 76 rfl 5 Try.underlying76 infoU8' w2.heap.size 124 4 4 (by rfl) ao9 4 cap9 (by rfl) 34 (bytesV s4) (secL S) (bytesV (leB 4 N)) H9.out.a m5.out (by decide) (by decide) hr9.out (by rw [n4'.out]; decide) (bytesV_one _) f5.out ?_
       intro w10 hb10 k10 z10
       have H10 := Lib.hid (H9.out.copy k10 hb10)
       have hkk : True := trivial
       clear hb10 k10 z10))
  have hS := Lib.hid (secL_length S)
  go_wp2_with (first
    | ((with_reducible refine guardList ?_); refine wantList_load (by rfl) 34 _ rfl w2.heap.size 0 (by rfl) (secL S) _ (range_blk H10.out.a) Try.underlying34 rfl (infoSecL _) ?_)
    | ((with_reducible refine guardList ?_)
       refine wantList_store (by rfl) 34 _ _ rfl (w.heap.size + 1) 0 (by rfl) (secL S) (by rfl) _ (secL sec0) (secL S) H10.out.z (by rw [secL_length, secL_length]; decide) (secL_one _) (infoSecL _) whole_sec ?_
       intro w11 hZ k11 z11
       have hZ := Lib.hid hZ
       have q11 := Lib.hid (Kept.out H10.out.q k11 (fun i _ e => by omega) H10.out.q.size)
       clear k11 z11))
  refine bodyPost_ret (results_row_tmp rfl (rowSec hZ.out)) rfl ⟨rfl, q11.out⟩

theorem uBytes_any (u : U5) (w : World) (h : u.Fit) : Calls Try.prog 12 #[u5V u] w (SRes 61 u.secO w) := by
  unfold U5.secO
  cases hr : u.rightB with
  | false => exact uBytes_no u w h hr
  | true => exact uBytes_yes u w h hr
end Go.Proofs.Ytfblehdeoloijaa

/- The uber of a sector: the program's Read. -/
namespace Go.Proofs.Ytfblehdeoloijaa
open Go.ChangeShapes Go.WideShapes Go.ChangeAt Go.RowKit
set_option linter.unusedVariables false
set_option maxRecDepth 20000

def cutS (s : Sec) (l n : Nat) : List UInt8 := (s.1.drop l).take n
theorem cutS_length (s : Sec) {l n : Nat} (h : l + n ≤ 128) : (cutS s l n).length = n := by
  unfold cutS; rw [List.length_take, List.length_drop, s.2]; omega
def u5Of (s : Sec) : U5 := ⟨valB ((cutS s 4 16).take 8), valB ((cutS s 4 16).drop 8), p3Of (cutS s 20 16), (valB ((cutS s 36 8).take 4) : Nat), (valB ((cutS s 36 8).drop 4) : Nat)⟩
def u5O (s : Sec) : Option U5 := if (u5Of s).rightB = true ∧ (u5Of s).sec = s then some (u5Of s) else none

theorem valB_fit {bs : List UInt8} {k : Nat} (h : bs.length ≤ k) : valB bs < 256 ^ k := valB_take_lt bs h
theorem u5Of_fit (s : Sec) : (u5Of s).Fit := by
  have h1 := valB_fit (bs := (cutS s 4 16).take 8) (k := 8) (by simp; omega)
  have h2 := valB_fit (bs := (cutS s 4 16).drop 8) (k := 8) (by rw [List.length_drop, cutS_length s (by omega)]; omega)
  have h3 := valB_fit (bs := (cutS s 36 8).take 4) (k := 4) (by simp; omega)
  have h4 := valB_fit (bs := (cutS s 36 8).drop 4) (k := 4) (by rw [List.length_drop, cutS_length s (by omega)]; omega)
  refine ⟨by unfold u5Of; simpa using h1, by unfold u5Of; simpa using h2, P3.fit_of (cutS_length s (by omega)), ?_, ?_⟩
  · unfold u5Of I64; dsimp only; omega
  · unfold u5Of I64; dsimp only; omega

/-- an uber, and whether it is there -/
def URes (o : Option U5) (w : World) (e : Ending) (w' : World) : Prop :=
  e = .returned (.tuple #[.agg (u5L (o.getD u5z)).toArray, .bool o.isSome]) ∧ Below w.heap.size w w'

theorem bytes_cut {w : World} {g : Nat} {t : TypeId} {s : Sec} (h : Blk w g t (secL s)) (l n : Nat) : Bytes w (some ⟨g, l, none⟩) (cutS s l n) := by
  have h1 := Reads.of_blk h
  intro i hi
  have hi' : l + i < (secL s).length := by
    simp only [cutS, bytesV, List.length_map, List.length_take, List.length_drop] at hi
    simp only [secL, bytesV, List.length_map]; omega
  refine ⟨g, l, rfl, ?_⟩
  rw [h.cell, List.getElem?_eq_getElem hi']
  simp [secL, bytesV, cutS]

theorem Read_16 (bo : Option Addr) (cap : Nat) (bs : List UInt8) (hl : bs.length = 16) (w : World) (hy : Bytes w bo bs) (hc : 16 ≤ cap) (hm : cap ≤ 9223372036854775807) :
    Calls Try.prog 40 #[.slice bo 16 cap] w (RRes 51 (p3O bs) w) := by
  have := pRead_any bo cap bs w hy (by omega) hm
  rwa [hl] at this

/-- in the midst of Read: the sector's box and the zero of the result -/
structure BR (w0 w : World) (s : Sec) : Prop where
  u : Blk w w0.heap.size 34 (secL s)
  z : Blk w (w0.heap.size + 1) 27 (u5L u5z)
  q : Below w0.heap.size w0 w
namespace BR
variable {w0 w w' : World} {s : Sec}
theorem call (h : BR w0 w s) (hb : Below w.heap.size w w') : BR w0 w' s := ⟨blk_out h.u hb, blk_out h.z hb, h.q.trans (hb.mono h.q.size)⟩
theorem alloc (h : BR w0 w s) (o : Obj) : BR w0 (w.alloc o) s := h.call ((Below.refl _ _).alloc (Nat.le_refl _) o)
theorem over {g : Nat} (h : BR w0 w s) (k : Kept (· = g) w w') (hg : w0.heap.size + 1 < g) : BR w0 w' s :=
  ⟨h.u.kept k (by omega), h.z.kept k (by omega), Kept.out h.q k (fun i _ e => by omega) h.q.size⟩
theorem lt (h : BR w0 w s) : w0.heap.size + 1 < w.heap.size := h.z.lt
end BR

set_option maxHeartbeats 2000000 in
theorem uRead_bad (s : Sec) (w : World) (hr : (p3Of (cutS s 20 16)).rightB = false) :
    Calls Try.prog 14 #[.agg (secL s).toArray] w (URes none w) := by
  have hl := cutS_length s (l := 20) (n := 16) (by omega)
  have hno : Hid (p3O (cutS s 20 16) = none) := Lib.hid (by unfold p3O; rw [if_neg]; rw [hr]; simp)
  have hl := Lib.hid hl
  have hs := Lib.hid (secL_length s)
  have H0 : Hid (BR w ((w.alloc (.cells (secL s).toArray 34)).alloc (.cells #[.int .u64 0, .int .u64 0, .int .i64 0, .int .u64 0, .int .u32 0, .int .i64 0, .int .i64 0] 27)) s) :=
    Lib.hid ⟨(Blk.new w _ (secL s)).alloc _, two_new w _ 27 (u5L u5z), two_below w _ _⟩
  clear hr
  go_enter Try.func14, Try.ntmps14
  go_wp2_with fail
  refine (Read_16 (some ⟨w.heap.size, 20, none⟩) 108 _ hl.out _ (bytes_cut H0.out.u 20 16) (by omega) (by omega)).mono ?_
  intro e w1 hR
  obtain ⟨rfl, hb1⟩ := hR.nope hno.out
  have H1 := Lib.hid (H0.out.call hb1)
  clear hb1 hR
  go_wp2_with ((with_reducible refine guardList ?_)
               refine wantList_store (by rfl) 27 _ _ rfl (w.heap.size + 1) 0 (by rfl) (u5L u5z) (by rfl) _ (u5L u5z) (u5L u5z) (H1.out.alloc _).z (by decide) (u5L_one _) (infoUberL _) whole_u ?_
               intro w2 hZ2 k2 z2
               have hZ2 := Lib.hid hZ2
               have q2 := Lib.hid (Kept.out (H1.out.alloc _).q k2 (fun i _ e => by omega) (H1.out.alloc _).q.size))
  refine bodyPost_ret (results_row_tmp rfl (rowU hZ2.out)) rfl ⟨rfl, q2.out⟩
set_option maxHeartbeats 4000000 in
theorem uRead_ok (s : Sec) (w : World) (hr : (p3Of (cutS s 20 16)).rightB = true) :
    Calls Try.prog 14 #[.agg (secL s).toArray] w (URes (u5O s) w) := by
  have hl := Lib.hid (cutS_length s (l := 20) (n := 16) (by omega))
  have hyes : Hid (p3O (cutS s 20 16) = some (p3Of (cutS s 20 16))) := Lib.hid (by unfold p3O; rw [if_pos ⟨hl.out, hr⟩])
  have hp8 := fun W hb => upair8_any (cutS s 4 16) (cutS_length s (by omega)) (some ⟨w.heap.size, 4, none⟩) 124 (by omega) (by omega) W hb
  have hp4 := fun W hb => upair4_any (cutS s 36 8) (cutS_length s (by omega)) (some ⟨w.heap.size, 36, none⟩) 92 (by omega) (by omega) W hb
  have hB : ∀ W, Calls Try.prog 12 #[u5V (u5Of s)] W (SRes 61 (u5Of s).secO W) := fun W => uBytes_any (u5Of s) W (u5Of_fit s)
  have hfit := u5Of_fit s
  have hu : u5Of s = ⟨valB ((cutS s 4 16).take 8), valB ((cutS s 4 16).drop 8), p3Of (cutS s 20 16), (valB ((cutS s 36 8).take 4) : Nat), (valB ((cutS s 36 8).drop 4) : Nat)⟩ := rfl
  have hO : Hid (u5O s = if (u5Of s).rightB = true ∧ (u5Of s).sec = s then some (u5Of s) else none) := Lib.hid rfl
  have hN : Hid ((u5Of s).secO = if (u5Of s).rightB then some (u5Of s).sec else none) := Lib.hid rfl
  have hs := Lib.hid (secL_length s)
  have hbs := built_sec0
  have hz := zeroSec
  have heq := eqSec
  generalize u5O s = O at *
  generalize u5Of s = U at *
  generalize valB ((cutS s 4 16).take 8) = x at *
  generalize valB ((cutS s 4 16).drop 8) = y at *
  generalize valB ((cutS s 36 8).take 4) = l at *
  generalize valB ((cutS s 36 8).drop 4) = n at *
  generalize p3Of (cutS s 20 16) = P at *
  obtain ⟨a, b, sm⟩ := P
  subst hu
  obtain ⟨hx, hy, hp, ⟨l1, l2⟩, ⟨n1, n2⟩⟩ := hfit
  dsimp only at l1 l2 n1 n2
  clear hx hy hp hr
  generalize U5.secO ⟨x, y, ⟨a, b, sm⟩, (l : Int), (n : Int)⟩ = SO at *
  generalize U5.rightB ⟨x, y, ⟨a, b, sm⟩, (l : Int), (n : Int)⟩ = RB at *
  generalize U5.sec ⟨x, y, ⟨a, b, sm⟩, (l : Int), (n : Int)⟩ = SS at *
  unfold u5V at hB
  dsimp only at hB
  have hp8 := Lib.hid hp8
  have hp4 := Lib.hid hp4
  have hB := Lib.hid hB
  have H0 : Hid (BR w ((w.alloc (.cells (secL s).toArray 34)).alloc (.cells #[.int .u64 0, .int .u64 0, .int .i64 0, .int .u64 0, .int .u32 0, .int .i64 0, .int .i64 0] 27)) s) :=
    Lib.hid ⟨(Blk.new w _ (secL s)).alloc _, two_new w _ 27 (u5L u5z), two_below w _ _⟩
  go_enter Try.func14, Try.ntmps14
  go_wp2_with fail
  refine (Read_16 (some ⟨w.heap.size, 20, none⟩) 108 _ hl.out _ (bytes_cut H0.out.u 20 16) (by omega) (by omega)).mono ?_
  intro e w1 hR
  obtain ⟨rfl, hb1⟩ := hR.yes hyes.out
  have H1 := Lib.hid ((H0.out.call hb1).alloc (.cells #[.int .i64 a, .int .u64 (b : Int), .int .u32 (sm : Int)] 25))
  have P1 := Lib.hid (PtrAt.first w1 ⟨a, b, sm⟩)
  have hlt1 : Hid (w.heap.size + 1 < w1.heap.size) := Lib.hid (H0.out.call hb1).lt
  clear hb1 hR
  go_wp2_with fail
  refine (hp8.out _ (bytes_cut H1.out.u 4 16)).mono ?_
  rintro e w2 ⟨rfl, hb2⟩
  have H2 := Lib.hid (H1.out.call hb2)
  have P2 := Lib.hid (P1.out.next hb2)
  clear hb2
  go_wp2_with fail
  refine (hp4.out _ (bytes_cut H2.out.u 36 8)).mono ?_
  rintro e w3 ⟨rfl, hb3⟩
  have H3 := Lib.hid (H2.out.call hb3)
  have P3 := Lib.hid (P2.out.next hb3)
  clear hb3
  obtain ⟨d0, d1, d2⟩ := P3.out.cells
  dsimp only at d0 d1 d2
  go_wp2_with fail
  have hlt3 := Lib.hid H3.out.lt
  cases RB with
  | false =>
    obtain rfl : SO = none := by rw [hN.out]; rfl
    obtain rfl : O = none := by rw [hO.out]; simp
    refine (hB.out _).mono ?_
    intro e w4 hR4
    obtain ⟨rfl, hb4⟩ : e = .returned (.tuple #[.agg (secL sec0).toArray, .int .i64 61]) ∧ _ := hR4
    have H4 := Lib.hid ((H3.out.alloc (.cells (u5L ⟨x, y, ⟨a, b, sm⟩, (l : Int), (n : Int)⟩).toArray 27)).call hb4)
    have U4 : Hid (Blk w4 w3.heap.size 27 (u5L ⟨x, y, ⟨a, b, sm⟩, (l : Int), (n : Int)⟩)) := Lib.hid (blk_out (Blk.new w3 27 (u5L ⟨x, y, ⟨a, b, sm⟩, (l : Int), (n : Int)⟩)) hb4)
    clear hb4
    go_wp2_with (first
    | ((with_reducible refine guardList ?_)
       refine wantList_store (by rfl) 34 _ _ rfl w4.heap.size 0 (by rfl) (secL sec0) (by rfl) _ (secL sec0) (secL sec0) (Blk.new w4 34 (secL sec0)) (by simp only [secL_length]; decide) (secL_one _) (infoSecL _) whole_sec ?_
       intro w5 hV k5 z5
       have hV := Lib.hid hV
       have H5 := Lib.hid ((H4.out.alloc _).over k5 (by have := H4.out.lt; omega))
       have U5' := Lib.hid ((U4.out.alloc _).kept k5 (by have := U4.out.lt; omega))
       clear k5 z5)
    | ((with_reducible refine guardList ?_)
       refine wantList_store (by rfl) 27 _ _ rfl (w.heap.size + 1) 0 (by rfl) (u5L u5z) (by rfl) _ (u5L u5z) (u5L u5z) H5.out.z (Nat.le_of_eq rfl) (u5L_one _) (infoUberL _) whole_u ?_
       intro w6 hZ k6 z6
       have hZ := Lib.hid hZ
       have q6 := Lib.hid (Kept.out H5.out.q k6 (fun i _ e => by omega) H5.out.q.size)
       clear k6 z6))
    refine bodyPost_ret (results_row_tmp rfl (rowU hZ.out)) rfl ⟨rfl, q6.out⟩
  | true =>
    obtain rfl : SO = some SS := by rw [hN.out]; rfl
    by_cases hss : SS = s
    · subst hss
      obtain rfl : O = some ⟨x, y, ⟨a, b, sm⟩, (l : Int), (n : Int)⟩ := by rw [hO.out]; simp
      have hq : ∀ w, (Op.equalIn 10000 34 (.agg (secL SS).toArray) (.agg (secL SS).toArray)).run Try.prog w = .ok true w := fun w => by rw [heq]; simp
      clear heq
      refine (hB.out _).mono ?_
      intro e w4 hR4
      obtain ⟨rfl, hb4⟩ : e = .returned (.tuple #[.agg (secL SS).toArray, .int .i64 0]) ∧ _ := hR4
      have H4 := Lib.hid ((H3.out.alloc (.cells (u5L ⟨x, y, ⟨a, b, sm⟩, (l : Int), (n : Int)⟩).toArray 27)).call hb4)
      have U4 : Hid (Blk w4 w3.heap.size 27 (u5L ⟨x, y, ⟨a, b, sm⟩, (l : Int), (n : Int)⟩)) := Lib.hid (blk_out (Blk.new w3 27 (u5L ⟨x, y, ⟨a, b, sm⟩, (l : Int), (n : Int)⟩)) hb4)
      clear hb4
      go_wp2_with (first
      | ((with_reducible refine guardList ?_)
         refine wantList_store (by rfl) 34 _ _ rfl w4.heap.size 0 (by rfl) (secL SS) (by rfl) _ (secL sec0) (secL SS) (Blk.new w4 34 (secL sec0)) (by simp only [secL_length]; decide) (secL_one _) (infoSecL _) whole_sec ?_
         intro w5 hV k5 z5
         have hV := Lib.hid hV
         have H5 := Lib.hid ((H4.out.alloc _).over k5 (by have := H4.out.lt; omega))
         have U5' := Lib.hid ((U4.out.alloc _).kept k5 (by have := U4.out.lt; omega))
         clear k5 z5)
      | ((with_reducible refine guardList ?_); refine wantList_load (by rfl) 34 _ rfl w4.heap.size 0 (by rfl) (secL SS) _ (range_blk hV.out) Try.underlying34 rfl (infoSecL _) ?_)
      | ((with_reducible refine guardList ?_); refine wantList_load (by rfl) 34 _ rfl w.heap.size 0 (by rfl) (secL SS) _ (range_blk H5.out.u) Try.underlying34 rfl (infoSecL _) ?_)
      | ((with_reducible refine guardList ?_); refine wantList_load (by rfl) 27 _ rfl w3.heap.size 0 (by rfl) (u5L ⟨x, y, ⟨a, b, sm⟩, (l : Int), (n : Int)⟩) _ (range_blk U5'.out) Try.underlying27 rfl (infoUberL _) ?_)
      | ((with_reducible refine guardList ?_)
         refine wantList_store (by rfl) 27 _ _ rfl (w.heap.size + 1) 0 (by rfl) (u5L ⟨x, y, ⟨a, b, sm⟩, (l : Int), (n : Int)⟩) (by rfl) _ (u5L u5z) (u5L ⟨x, y, ⟨a, b, sm⟩, (l : Int), (n : Int)⟩) H5.out.z (Nat.le_of_eq rfl) (u5L_one _) (infoUberL _) whole_u ?_
         intro w6 hZ k6 z6
         have hZ := Lib.hid hZ
         have q6 := Lib.hid (Kept.out H5.out.q k6 (fun i _ e => by omega) H5.out.q.size)
         clear k6 z6))
      refine bodyPost_ret (results_row_tmp rfl (rowU hZ.out)) rfl ⟨rfl, q6.out⟩
    · obtain rfl : O = none := by rw [hO.out]; simp [hss]
      have hq : ∀ w, (Op.equalIn 10000 34 (.agg (secL SS).toArray) (.agg (secL s).toArray)).run Try.prog w = .ok false w := fun w => by rw [heq, decide_eq_false hss]
      clear heq
      refine (hB.out _).mono ?_
      intro e w4 hR4
      obtain ⟨rfl, hb4⟩ : e = .returned (.tuple #[.agg (secL SS).toArray, .int .i64 0]) ∧ _ := hR4
      have H4 := Lib.hid ((H3.out.alloc (.cells (u5L ⟨x, y, ⟨a, b, sm⟩, (l : Int), (n : Int)⟩).toArray 27)).call hb4)
      have U4 : Hid (Blk w4 w3.heap.size 27 (u5L ⟨x, y, ⟨a, b, sm⟩, (l : Int), (n : Int)⟩)) := Lib.hid (blk_out (Blk.new w3 27 (u5L ⟨x, y, ⟨a, b, sm⟩, (l : Int), (n : Int)⟩)) hb4)
      clear hb4
      go_wp2_with (first
      | ((with_reducible refine guardList ?_)
         refine wantList_store (by rfl) 34 _ _ rfl w4.heap.size 0 (by rfl) (secL SS) (by rfl) _ (secL sec0) (secL SS) (Blk.new w4 34 (secL sec0)) (by simp only [secL_length]; decide) (secL_one _) (infoSecL _) whole_sec ?_
         intro w5 hV k5 z5
         have hV := Lib.hid hV
         have H5 := Lib.hid ((H4.out.alloc _).over k5 (by have := H4.out.lt; omega))
         have U5' := Lib.hid ((U4.out.alloc _).kept k5 (by have := U4.out.lt; omega))
         clear k5 z5)
      | ((with_reducible refine guardList ?_); refine wantList_load (by rfl) 34 _ rfl w4.heap.size 0 (by rfl) (secL SS) _ (range_blk hV.out) Try.underlying34 rfl (infoSecL _) ?_)
      | ((with_reducible refine guardList ?_); refine wantList_load (by rfl) 34 _ rfl w.heap.size 0 (by rfl) (secL s) _ (range_blk H5.out.u) Try.underlying34 rfl (infoSecL _) ?_)
      | ((with_reducible refine guardList ?_)
         refine wantList_store (by rfl) 27 _ _ rfl (w.heap.size + 1) 0 (by rfl) (u5L u5z) (by rfl) _ (u5L u5z) (u5L u5z) H5.out.z (Nat.le_of_eq rfl) (u5L_one _) (infoUberL _) whole_u ?_
         intro w6 hZ k6 z6
         have hZ := Lib.hid hZ
         have q6 := Lib.hid (Kept.out H5.out.q k6 (fun i _ e => by omega) H5.out.q.size)
         clear k6 z6))
      refine bodyPost_ret (results_row_tmp rfl (rowU hZ.out)) rfl ⟨rfl, q6.out⟩

theorem uRead_any (s : Sec) (w : World) : Calls Try.prog 14 #[.agg (secL s).toArray] w (URes (u5O s) w) := by
  cases hr : (p3Of (cutS s 20 16)).rightB with
  | true => exact uRead_ok s w hr
  | false =>
    have : u5O s = none := by
      unfold u5O
      rw [if_neg]
      rintro ⟨h, _⟩
      have := (right_parts h).2.2.2.2.1
      rw [show (u5Of s).p = p3Of (cutS s 20 16) from rfl, hr] at this
      cases this
    rw [this]
    exact uRead_bad s w hr
end Go.Proofs.Ytfblehdeoloijaa
