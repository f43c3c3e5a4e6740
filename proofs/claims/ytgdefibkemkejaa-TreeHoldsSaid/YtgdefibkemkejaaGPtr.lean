/- Ptr: the texts PtrA, PtrB, PtrC, PtrD, PtrE, one behind the other. -/
import Derived.Test.YtgdefibkemkejaaGField
import Derived.Test.YtgdefibkemkejaaGBase
import Derived.Deep.RegionHeld3
import Derived.Lib.SmallJoins
/- A pointer as plain data; Right, hole, Less and Since, the program's and the document's. -/
namespace Go.Proofs.Ytgdefibkemkejaa
open Go.ChangeShapes Go.WideShapes Go.ChangeAt Go.RowKit
set_option linter.unusedVariables false
set_option maxRecDepth 20000
set_option linter.unusedSimpArgs false

/-- a pointer -/
structure P3 where
  a : Int
  b : Nat
  s : Nat

theorem P3.ext' {p q : P3} (h1 : p.a = q.a) (h2 : p.b = q.b) (h3 : p.s = q.s) : p = q := by cases p; cases q; simp_all

def p3z : P3 := ⟨0, 0, 0⟩
def p3V (p : P3) : Value := .agg #[.int .i64 p.a, .int .u64 (p.b : Int), .int .u32 (p.s : Int)]
/-- the parts are what their types hold -/
def P3.Fit (p : P3) : Prop := I64 p.a ∧ p.b < 18446744073709551616 ∧ p.s < 4294967296
def P3.eqB (p q : P3) : Bool := decide (p.a = q.a) && (decide (p.b = q.b) && decide (p.s = q.s))
def P3.holeB (p : P3) : Bool := decide (p.a = 0) && (decide (p.b = 0) && decide (p.s = 0))
def P3.rightB (p : P3) : Bool := p.holeB || (decide (4 ≤ p.a) && (decide (p.a ≤ 1023) && (decide (1 ≤ p.b) && decide (p.b ≤ 281474976710655))))
def P3.lessB (p q : P3) : Bool := decide (p.b < q.b ∨ (p.b = q.b ∧ (p.a < q.a ∨ (p.a = q.a ∧ p.s < q.s))))
def P3.sinceB (p : P3) (t : Nat) : Bool := !p.holeB && decide (t < p.b)

theorem P3.eqB_iff {p q : P3} : p.eqB q = true ↔ p = q := by
  unfold P3.eqB
  simp only [Bool.and_eq_true, decide_eq_true_iff]
  exact ⟨fun ⟨h1, h2, h3⟩ => P3.ext' h1 h2 h3, fun h => by subst h; exact ⟨rfl, rfl, rfl⟩⟩
theorem P3.eqB_decide (p q : P3) : p.eqB q = (p.eqB q == true) := by cases p.eqB q <;> rfl

theorem nat_eq_int (a b : Nat) : ((a : Int) == (b : Int)) = decide (a = b) := by
  by_cases h : a = b
  · subst h; simp
  · rw [decide_eq_false h]; simp; omega
theorem int_eq_int (a b : Int) : (a == b) = decide (a = b) := by
  by_cases h : a = b
  · subst h; simp
  · rw [decide_eq_false h]; simpa using h

set_option maxHeartbeats 1000000 in
theorem hole_any (a : Int) (b s : Nat) (w : World) :
    Calls Try.prog 54 #[p3V ⟨a, b, s⟩] w fun e w' => e = .returned (.bool (P3.holeB ⟨a, b, s⟩)) ∧ Below w.heap.size w w' := by
  unfold p3V
  go_enter Try.func54, Try.ntmps54
  go_wp2
  all_goals go_ret
  all_goals exact ⟨ret_bool (by simp [P3.holeB, *]), (Below.refl _ _).alloc (Nat.le_refl _) _⟩

/-- a call whose world goes on from that of its first box -/
theorem below_boxed {w w' : World} {o : Obj} (h : Below (w.alloc o).heap.size (w.alloc o) w') : Below w.heap.size w w' :=
  ((Below.refl _ _).alloc (Nat.le_refl _) o).trans (h.mono (by simp))

set_option maxHeartbeats 1000000 in
theorem pRight_any (a : Int) (b s : Nat) (w : World) (h : P3.Fit ⟨a, b, s⟩) :
    Calls Try.prog 73 #[p3V ⟨a, b, s⟩] w fun e w' => e = .returned (.bool (P3.rightB ⟨a, b, s⟩)) ∧ Below w.heap.size w w' := by
  obtain ⟨⟨a1, a2⟩, b2, s2⟩ := h
  dsimp only at a1 a2 b2 s2
  have hh := fun W => hole_any a b s W
  unfold p3V at *
  have hr : Hid (P3.rightB ⟨a, b, s⟩ = (P3.holeB ⟨a, b, s⟩ || (decide (4 ≤ a) && (decide (a ≤ 1023) && (decide (1 ≤ b) && decide (b ≤ 281474976710655)))))) := Lib.hid rfl
  generalize P3.holeB ⟨a, b, s⟩ = hl at *
  have hh := Lib.hid (hh (w.alloc (.cells #[.int .i64 a, .int .u64 (b : Int), .int .u32 (s : Int)] 32)))
  go_enter Try.func73, Try.ntmps73
  go_wp2_with fail
  refine hh.out.mono ?_
  rintro e w1 ⟨rfl, hb1⟩
  have c0 := hb1.cell (p := ⟨w.heap.size, 0, none⟩) (by simp)
  have c1 := hb1.cell (p := ⟨w.heap.size, 1, none⟩) (by simp)
  have f0 := hb1.frozen (p := ⟨w.heap.size, 0, none⟩) (by simp)
  have f1 := hb1.frozen (p := ⟨w.heap.size, 1, none⟩) (by simp)
  have hb1 := Lib.hid (below_boxed hb1)
  cases hl
  · by_cases g1 : 4 ≤ a
    · by_cases g2 : a ≤ 1023
      · by_cases g3 : 1 ≤ b
        · by_cases g4 : b ≤ 281474976710655
          · go_wp2
            go_ret
            exact ⟨ret_bool (by rw [hr.out]; simp [*] <;> omega), hb1.out⟩
          · go_wp2
            go_ret
            exact ⟨ret_bool (by rw [hr.out]; simp [*] <;> omega), hb1.out⟩
        · go_wp2
          go_ret
          exact ⟨ret_bool (by rw [hr.out]; simp [*] <;> omega), hb1.out⟩
      · go_wp2
        go_ret
        exact ⟨ret_bool (by rw [hr.out]; simp [*] <;> omega), hb1.out⟩
    · go_wp2
      go_ret
      exact ⟨ret_bool (by rw [hr.out]; simp [*] <;> omega), hb1.out⟩
  · go_wp2
    go_ret
    exact ⟨ret_bool (by rw [hr.out]; simp [*] <;> omega), hb1.out⟩

set_option maxHeartbeats 1000000 in
theorem pSince_any (a : Int) (b s t : Nat) (w : World) (h : P3.Fit ⟨a, b, s⟩) (ht : t < 18446744073709551616) :
    Calls Try.prog 39 #[p3V ⟨a, b, s⟩, .int .u64 (t : Int)] w fun e w' => e = .returned (.bool (P3.sinceB ⟨a, b, s⟩ t)) ∧ Below w.heap.size w w' := by
  obtain ⟨⟨a1, a2⟩, b2, s2⟩ := h
  dsimp only at a1 a2 b2 s2
  have hh := fun W => hole_any a b s W
  unfold p3V at *
  have hr : Hid (P3.sinceB ⟨a, b, s⟩ t = (!P3.holeB ⟨a, b, s⟩ && decide (t < b))) := Lib.hid rfl
  generalize P3.holeB ⟨a, b, s⟩ = hl at *
  have hh := Lib.hid (hh (w.alloc (.cells #[.int .i64 a, .int .u64 (b : Int), .int .u32 (s : Int)] 32)))
  go_enter Try.func39, Try.ntmps39
  go_wp2_with fail
  refine hh.out.mono ?_
  rintro e w1 ⟨rfl, hb1⟩
  have c1 := hb1.cell (p := ⟨w.heap.size, 1, none⟩) (by simp)
  have f1 := hb1.frozen (p := ⟨w.heap.size, 1, none⟩) (by simp)
  have hb1 := Lib.hid (below_boxed hb1)
  cases hl
  all_goals go_wp2
  all_goals go_ret
  all_goals exact ⟨ret_bool (by rw [hr.out, Bool.eq_iff_iff]; simp <;> omega), hb1.out⟩
end Go.Proofs.Ytgdefibkemkejaa

/- A pointer as bytes: the program's Bytes and the document's. -/
namespace Go.Proofs.Ytgdefibkemkejaa
open Go.ChangeShapes Go.WideShapes Go.ChangeAt Go.RowKit
set_option linter.unusedVariables false
set_option maxRecDepth 20000
set_option linter.unusedSimpArgs false

/-- a pointer's bytes -/
def P3.bytes (p : P3) : List UInt8 := leB 4 p.a.toNat ++ (leB 8 p.b ++ leB 4 p.s)
def P3.bytesO (p : P3) : Option (List UInt8) := if p.rightB then some p.bytes else none

theorem P3.bytes_length (p : P3) : p.bytes.length = 16 := by simp [P3.bytes, leB_length]

/-- the number of an error, or none -/
def errI {α : Type} (n : Int) (o : Option α) : Int := match o with | some _ => 0 | none => n

/-- what a call answers that makes bytes, or fails -/
def BRes (n : Int) (o : Option (List UInt8)) (w : World) (e : Ending) (w' : World) : Prop :=
  ∃ v, e = .returned (.tuple #[v, .int .i64 (errI n o)]) ∧ Own w' w.heap.size 5 v (bytesV (o.getD [])) ∧ Below w.heap.size w w'

theorem BRes.no {n : Int} {o : Option (List UInt8)} {w w' : World} {e : Ending} (ho : o = none) (he : e = .returned (.tuple #[.slice none 0 0, .int .i64 n])) (hb : Below w.heap.size w w') : BRes n o w e w' := by
  subst ho
  exact ⟨_, he, Own.nil _ _ _, hb⟩

theorem rightB_bounds {p : P3} (h : p.rightB = true) : 0 ≤ p.a ∧ p.a ≤ 1023 ∧ p.b ≤ 281474976710655 ∧ (p.a = 0 → p.b = 0 ∧ p.s = 0) := by
  unfold P3.rightB P3.holeB at h
  simp only [Bool.or_eq_true, Bool.and_eq_true, decide_eq_true_iff] at h
  omega

set_option maxHeartbeats 1000000 in
theorem widths_any (w : World) :
    Calls Try.prog 72 #[] w fun e w' => e = .returned (.slice (some ⟨w.heap.size, 0, none⟩) 3 3) ∧ w.alloc (.cells #[.int .i64 4, .int .i64 8, .int .i64 4] 3) = w' := by
  go_enter Try.func72, Try.ntmps72
  go_wp2
  go_ret
  exact ⟨rfl, rfl⟩

theorem putL_ptr {n b s : Nat} (h1 : n < 4294967296) (h2 : b < 18446744073709551616) (h3 : s < 4294967296) : putL [4, 8, 4] [n, b, s] = some (leB 4 n ++ (leB 8 b ++ leB 4 s)) := by
  have e1 : (256 : Nat) ^ (4 : Int).toNat = 4294967296 := by decide
  have e2 : (256 : Nat) ^ (8 : Int).toNat = 18446744073709551616 := by decide
  simp [putL, e1, e2, h1, h2, h3]

theorem ints_484 : I64s [4, 8, 4] := ⟨by intro z hz; simp at hz; unfold I64; omega, by simp⟩

theorem PutRes.own {o : Option (List UInt8)} {w w' : World} {e : Ending} (h : PutRes o w e w') {x : List UInt8} (ho : o = some x) : ∃ v, e = .returned (.tuple #[v, .int .i64 0]) ∧ Own w' w.heap.size 5 v (bytesV x) ∧ Below w.heap.size w w' := by
  subst ho
  exact h

theorem Own.shapeN {w : World} {base : Nat} {e : TypeId} {v : Value} {cs : List Value} {n : Nat} (h : Own w base e v cs) (hn : cs.length = n) :
    ∃ ao cap, v = .slice ao n cap ∧ n ≤ cap ∧ cap ≤ 9223372036854775807 ∧ (ao = none → cap = 0) ∧ Reads w ao cs ∧ (∀ a, ao = some a → base ≤ a.block ∧ a.block < w.heap.size) := by
  subst hn
  obtain ⟨ao, cap, h1, h2, h3, h4, h5, h6, _⟩ := h.shape
  exact ⟨ao, cap, h1, h2, by simpa [maxLen] using h3, h4, h5, h6⟩

/-- a row that was made later lies in another block -/
theorem Own.later {w : World} {base : Nat} {e : TypeId} {v v1 : Value} {cs : List Value} (h : Own w base e v cs) (h1 : ∀ g, v1.ownBlock = some g → g < base) : v.ownBlock = none ∨ v.ownBlock ≠ v1.ownBlock := by
  cases hv : v.ownBlock with
  | none => exact .inl rfl
  | some g =>
    right
    intro e
    have := (h.lt g hv).1
    have := h1 g e.symm
    omega

theorem Reads.row {w : World} {k : Nat} {cur : Array Value} {e : TypeId} {fr : Nat × Nat} (h : w.heap[k]? = some (.cells cur e fr)) : Reads w (some ⟨k, 0, none⟩) cur.toList := by
  intro i hi
  have hi' : i < cur.size := by simpa using hi
  exact ⟨k, 0, rfl, by rw [cell_of_row w k (0 + i) cur e fr h]; simp [hi']⟩
theorem new_a (w : World) (A : Obj) : (w.alloc A).heap[w.heap.size]? = some A := heap_alloc_new w A
theorem new_b (w : World) (A B : Obj) : ((w.alloc A).alloc B).heap[w.heap.size + 1]? = some B := by
  have := heap_alloc_new (w.alloc A) B
  simpa using this
theorem new_c (w : World) (A B : Obj) : ((w.alloc A).alloc B).heap[w.heap.size]? = some A := by
  rw [Below.heap_alloc _ B w.heap.size (by simp)]
  exact heap_alloc_new w A

set_option maxHeartbeats 2000000 in
theorem pBytes_any (a : Int) (b s : Nat) (w : World) (h : P3.Fit ⟨a, b, s⟩) :
    Calls Try.prog 68 #[p3V ⟨a, b, s⟩] w (BRes 51 (P3.bytesO ⟨a, b, s⟩) w) := by
  have hh := pRight_any a b s (w.alloc (.cells #[.int .i64 a, .int .u64 (b : Int), .int .u32 (s : Int)] 32)) h
  have hh := Lib.hid hh
  cases hr : P3.rightB ⟨a, b, s⟩ with
  | false =>
    have hno : Hid (P3.bytesO ⟨a, b, s⟩ = none) := Lib.hid (by unfold P3.bytesO; rw [hr]; rfl)
    have hh := hh.out
    rw [hr] at hh
    clear hr
    have hh := Lib.hid hh
    unfold p3V at *
    go_enter Try.func68, Try.ntmps68
    go_wp2_with fail
    refine hh.out.mono ?_
    rintro e w1 ⟨rfl, hb1⟩
    have hb1 := Lib.hid (below_boxed hb1)
    go_wp2
    go_ret2
    exact BRes.no hno.out rfl hb1.out
  | true =>
    obtain ⟨h0, h1, h2, _⟩ := rightB_bounds hr
    dsimp only at h0 h1 h2
    obtain ⟨n, rfl⟩ := Int.eq_ofNat_of_zero_le (a := a) h0
    have hs := h.2.2
    dsimp only at hs
    have hyes : Hid (P3.bytesO ⟨n, b, s⟩ = some (P3.bytes ⟨n, b, s⟩)) := Lib.hid (by unfold P3.bytesO; rw [hr]; rfl)
    have hput : Hid (putL [4, 8, 4] [n, b, s] = some (P3.bytes ⟨n, b, s⟩)) := Lib.hid (putL_ptr (by omega) (by omega) hs)
    have hfit : Hid (Fit64 [n, b, s]) := Lib.hid ⟨by intro z hz; simp at hz; omega, by simp⟩
    have hh := hh.out
    rw [hr] at hh
    clear hr h
    have hh := Lib.hid hh
    unfold p3V at *
    go_enter Try.func68, Try.ntmps68
    go_wp2_with fail
    refine hh.out.mono ?_
    rintro e w1 ⟨rfl, hb1⟩
    have c0 := hb1.cell (p := ⟨w.heap.size, 0, none⟩) (by simp)
    have c1 := hb1.cell (p := ⟨w.heap.size, 1, none⟩) (by simp)
    have c2 := hb1.cell (p := ⟨w.heap.size, 2, none⟩) (by simp)
    have hl1 : w.heap.size < w1.heap.size := by have := hb1.size; simp at this; omega
    rw [cell_of_row _ w.heap.size 0 _ _ _ (heap_alloc_new w _)] at c0
    rw [cell_of_row _ w.heap.size 1 _ _ _ (heap_alloc_new w _)] at c1
    rw [cell_of_row _ w.heap.size 2 _ _ _ (heap_alloc_new w _)] at c2
    simp at c0 c1 c2
    have hb1 := Lib.hid (below_boxed hb1)
    go_wp2
    go_region_held3 (fun w' => w'.cell? ⟨w.heap.size, 0, none⟩ = some (.int .i64 n) ∧ w'.cell? ⟨w.heap.size, 1, none⟩ = some (.int .u64 (b : Int)) ∧ w'.cell? ⟨w.heap.size, 2, none⟩ = some (.int .u32 (s : Int))) (first | go_keep | exact hkk)
      (first
        | (go_at_call 72; refine (widths_any _).mono ?_; rintro e w' ⟨rfl, rfl⟩)
        | (go_at_call 74
           (try rw [IntWalk.u64_in (n : Int) (by omega)])
           (try rw [IntWalk.u64_in (s : Int) (by omega)])
           refine (Put_any (some ⟨_, 0, none⟩) (some ⟨_, 0, none⟩) 3 3 [4, 8, 4] [n, b, s] _ (Reads.row (by first | exact new_c _ _ _ | exact new_b _ _ _)) (Reads.row (by first | exact new_c _ _ _ | exact new_b _ _ _)) ints_484 hfit.out).mono ?_
           intro e w2 hR
           obtain ⟨v, rfl, ho2, hb2⟩ := hR.own hput.out
           have hkk : w2.cell? ⟨w.heap.size, 0, none⟩ = some (.int .i64 n) ∧ w2.cell? ⟨w.heap.size, 1, none⟩ = some (.int .u64 (b : Int)) ∧ w2.cell? ⟨w.heap.size, 2, none⟩ = some (.int .u32 (s : Int)) := ⟨by rw [hb2.cell (by simp; omega)]; go_keep, by rw [hb2.cell (by simp; omega)]; go_keep, by rw [hb2.cell (by simp; omega)]; go_keep⟩
           have ho2 := Lib.hid (ho2.le (base' := w.heap.size) (by simp; omega))
           have hb2 := Lib.hid ((((hb1.out.alloc (by omega) _).alloc (by simp; omega) _).drew).trans (hb2.mono (by simp; omega)))))
    all_goals go_wp2
    all_goals go_ret2
    all_goals rw [hyes.out]
    all_goals exact ⟨v, rfl, ho2.out, hb2.out⟩

end Go.Proofs.Ytgdefibkemkejaa

/- The pointer of bytes: the program's Read and the document's. -/
namespace Go.Proofs.Ytgdefibkemkejaa
open Go.ChangeShapes Go.WideShapes Go.ChangeAt Go.RowKit
set_option linter.unusedVariables false
set_option maxRecDepth 20000
set_option linter.unusedSimpArgs false

/-- the parts of sixteen bytes -/
def p3Of (bs : List UInt8) : P3 := ⟨(valB (bs.take 4) : Nat), valB ((bs.drop 4).take 8), valB (bs.drop 12)⟩
def p3O (bs : List UInt8) : Option P3 := if bs.length = 16 ∧ (p3Of bs).rightB = true then some (p3Of bs) else none

theorem p3Of_fit {bs : List UInt8} (h : bs.length = 16) : valB (bs.take 4) < 4294967296 ∧ valB ((bs.drop 4).take 8) < 18446744073709551616 ∧ valB (bs.drop 12) < 4294967296 := by
  have h1 := valB_lt (bs.take 4)
  have h2 := valB_lt ((bs.drop 4).take 8)
  have h3 := valB_lt (bs.drop 12)
  have e1 : (bs.take 4).length = 4 := by simp; omega
  have e2 : ((bs.drop 4).take 8).length = 8 := by simp; omega
  have e3 : (bs.drop 12).length = 4 := by simp; omega
  rw [e1] at h1; rw [e2] at h2; rw [e3] at h3
  exact ⟨h1, h2, h3⟩

theorem P3.fit_of {bs : List UInt8} (h : bs.length = 16) : (p3Of bs).Fit := by
  obtain ⟨h1, h2, h3⟩ := p3Of_fit h
  refine ⟨⟨?_, ?_⟩, h2, h3⟩
  · show (-9223372036854775808 : Int) ≤ ((valB (bs.take 4) : Nat) : Int)
    omega
  · show ((valB (bs.take 4) : Nat) : Int) ≤ 9223372036854775807
    omega

theorem getL_ptr (bs : List UInt8) : getL [4, 8, 4] bs = if bs.length = 16 then some [valB (bs.take 4), valB ((bs.drop 4).take 8), valB (bs.drop 12)] else none := by
  split
  · rename_i h
    have hd : (bs.drop 12).take 4 = bs.drop 12 := by rw [List.take_of_length_le (by simp; omega)]
    have he : bs.drop 16 = [] := List.drop_of_length_le (by omega)
    simp [getL, h, hd, he]
  · rename_i h
    exact getL_bad (.inr (by simpa [sumW] using h))

def p3L (p : P3) : List Value := [.int .i64 p.a, .int .u64 (p.b : Int), .int .u32 (p.s : Int)]
theorem p3L_length (p : P3) : (p3L p).length = 3 := rfl
theorem p3L_one (p : P3) : ∀ v ∈ p3L p, v.oneCell' = true := by
  intro v hv
  simp only [p3L, List.mem_cons, List.not_mem_nil, or_false] at hv
  rcases hv with rfl | rfl | rfl <;> rfl
theorem infoPtr (p : P3) : (Try.prog.info? 32).map (·.size) = some (p3L p).length := by
  rw [p3L_length]; kernel_rfl

theorem rowPtr {w : World} {g : Nat} {p : P3} (h : Blk w g 32 (p3L p)) : RowRes Try.prog w 32 (.pointer (some ⟨g, 0, none⟩)) (p3L p) :=
  ⟨⟨g, _, rfl, h⟩, ⟨_, Try.underlying32, rfl⟩, infoPtr p⟩
theorem U64s.three {w : World} {ao : Option Addr} {x y z : Nat} (h : U64s w ao [x, y, z]) : ∃ b off, ao = some ⟨b, off, none⟩ ∧ b < w.heap.size ∧ w.cell? ⟨b, off, none⟩ = some (.int .u64 (x : Int)) ∧ w.cell? ⟨b, off + 1, none⟩ = some (.int .u64 (y : Int)) ∧ w.cell? ⟨b, off + 2, none⟩ = some (.int .u64 (z : Int)) := by
  obtain ⟨b, off, rfl, h0, hb⟩ := Reads.at h (k := 0) (by simp [u64V])
  obtain ⟨b', off', e1, h1, _⟩ := Reads.at h (k := 1) (by simp [u64V])
  obtain ⟨b'', off'', e2, h2, _⟩ := Reads.at h (k := 2) (by simp [u64V])
  cases e1
  cases e2
  exact ⟨b, off, rfl, hb, h0, h1, h2⟩
theorem GetRes.three {o : Option (List Nat)} {w w' : World} {e : Ending} (h : GetRes o w e w') {x y z : Nat} (ho : o = some [x, y, z]) : ∃ (b off cap : Nat), e = .returned (.tuple #[.slice (some ⟨b, off, none⟩) 3 cap, .int .i64 0]) ∧ b < w'.heap.size ∧ w'.cell? ⟨b, off, none⟩ = some (.int .u64 (x : Int)) ∧ w'.cell? ⟨b, off + 1, none⟩ = some (.int .u64 (y : Int)) ∧ w'.cell? ⟨b, off + 2, none⟩ = some (.int .u64 (z : Int)) ∧ Below w.heap.size w w' := by
  obtain ⟨ao, cap, rfl, h1, h2⟩ := h.yes ho
  obtain ⟨b, off, rfl, h3⟩ := h1.out.three
  exact ⟨b, off, cap, rfl, h3.1, h3.2.1, h3.2.2.1, h3.2.2.2, h2⟩

/-- what a Read answers -/
def RRes (n : Int) (o : Option P3) (w : World) (e : Ending) (w' : World) : Prop :=
  e = .returned (.tuple #[p3V (o.getD p3z), .int .i64 (errI n o)]) ∧ Below w.heap.size w w'

theorem get_484 {g : Nat} (bo : Option Addr) (cap n : Nat) (bs : List UInt8) (w : World) (hx : Reads w (some ⟨g, 0, none⟩) [.int .i64 4, .int .i64 8, .int .i64 4]) (hy : Bytes w bo bs) (hn : bs.length = n) (hc : n ≤ cap) (hm : cap ≤ 9223372036854775807) :
    Calls Try.prog 71 #[.slice (some ⟨g, 0, none⟩) 3 3, .slice bo n cap] w (GetRes (getL [4, 8, 4] bs) w) := by
  subst hn
  exact Get_any (some ⟨g, 0, none⟩) bo 3 cap [4, 8, 4] bs w hx hy ints_484 hc hm

set_option maxHeartbeats 2000000 in
theorem pRead_any (bo : Option Addr) (cap : Nat) (bs : List UInt8) (w : World) (hy : Bytes w bo bs) (hc : bs.length ≤ cap) (hm : cap ≤ 9223372036854775807) :
    Calls Try.prog 66 #[.slice bo bs.length cap] w (RRes 51 (p3O bs) w) := by
  have hy := Lib.hid hy
  have hW : Hid (Below w.heap.size w ((w.alloc (.cells #[.int .i64 0, .int .u64 0, .int .u32 0] 32)).alloc (.cells #[.int .i64 4, .int .i64 8, .int .i64 4] 3))) := Lib.hid (((Below.refl _ _).alloc (Nat.le_refl _) _).alloc (by simp) _)
  have hg := getL_ptr bs
  by_cases h16 : bs.length = 16
  · rw [if_pos h16] at hg
    obtain ⟨x4, y8, z4⟩ := p3Of_fit h16
    have hx : Hid (p3Of bs = ⟨(valB (bs.take 4) : Nat), valB ((bs.drop 4).take 8), valB (bs.drop 12)⟩) := Lib.hid rfl
    have hO : Hid (p3O bs = if (p3Of bs).rightB = true then some (p3Of bs) else none) := Lib.hid (by unfold p3O; simp [h16])
    generalize valB (bs.take 4) = x at *
    generalize valB ((bs.drop 4).take 8) = y at *
    generalize valB (bs.drop 12) = z at *
    have hn := Lib.hid h16
    rw [h16] at hc ⊢
    clear h16
    have hg := Lib.hid hg
    have hi := hx.out
    have hR := fun W => pRight_any (x : Int) y z W ⟨⟨by dsimp only; omega, by dsimp only; omega⟩, y8, z4⟩
    have hR := Lib.hid hR
    clear hi
    go_enter Try.func66, Try.ntmps66
    go_wp2_with (first | (go_at_call 72; refine (widths_any _).mono ?_; rintro e w' ⟨rfl, rfl⟩))
    refine (get_484 bo cap 16 bs _ (Reads.row (new_b _ _ _)) (hy.out.below ((hW.out).mono (Nat.le_refl _))) hn.out hc hm).mono ?_
    intro e w2 hR2
    obtain ⟨b, off, ca, rfl, hbl, d0, d1, d2, hb2⟩ := hR2.three hg.out
    have hblk : Blk w2 w.heap.size 32 (p3L p3z) := by
      unfold Blk
      rw [hb2.block _ (by simp; omega)]
      exact new_c _ _ _
    have hs2 : w.heap.size + 2 ≤ w2.heap.size := by have := hb2.size; simp at this; omega
    have hb2 := Lib.hid (hW.out.trans (hb2.mono (by simp; omega)))
    have hblk := Lib.hid hblk
    go_wp2
    go_region_held3 (fun w' => w'.cell? ⟨b, off, none⟩ = some (.int .u64 (x : Int)) ∧ w'.cell? ⟨b, off + 1, none⟩ = some (.int .u64 (y : Int)) ∧ w'.cell? ⟨b, off + 2, none⟩ = some (.int .u64 (z : Int))) (first | go_keep | exact hkk) (fail)
    rw [IntWalk.i64_in (x : Int) (by omega), IntWalk.u32_in (z : Int) (by omega)]
    have hq := Lib.hid (hb2.out.alloc (by omega) (.cells #[.int .i64 (x : Int), .int .u64 (y : Int), .int .u32 (z : Int)] 32))
    have hP := Lib.hid (Blk.newA w2 32 #[.int .i64 (x : Int), .int .u64 (y : Int), .int .u32 (z : Int)])
    have hT := Lib.hid (hblk.out.alloc (.cells #[.int .i64 (x : Int), .int .u64 (y : Int), .int .u32 (z : Int)] 32))
    have hs3 : Hid ((w2.alloc (.cells #[.int .i64 (x : Int), .int .u64 (y : Int), .int .u32 (z : Int)] 32)).heap.size = w2.heap.size + 1) := Lib.hid (by simp)
    clear d0 d1 d2 hblk hb2
    go_wp2_with fail
    refine (hR.out _).mono ?_
    rintro e w3 ⟨rfl, hb3⟩
    have hP3 : Blk w3 w2.heap.size 32 [.int .i64 (x : Int), .int .u64 (y : Int), .int .u32 (z : Int)] := hP.out.drew.below hb3 (by have := hs3.out; simp at this ⊢)
    have hT3 : Blk w3 w.heap.size 32 (p3L p3z) := hT.out.drew.below hb3 (by have := hs3.out; simp at this ⊢; omega)
    have c0 := hP3.cell 0
    have c1 := hP3.cell 1
    have c2 := hP3.cell 2
    simp at c0 c1 c2
    have e0 := hT3.cell 0
    have e1 := hT3.cell 1
    have e2 := hT3.cell 2
    simp [p3L, p3z] at e0 e1 e2
    have f0 := hT3.frozen 0
    have f1 := hT3.frozen 1
    have f2 := hT3.frozen 2
    have hb3 := Lib.hid (hq.out.drew.trans (hb3.mono (by have := hs3.out; simp at this ⊢; omega)))
    have hl3 : w.heap.size < w3.heap.size := hT3.lt
    have hT3 := Lib.hid hT3
    clear hP3 hP hT hq hR
    cases hr : P3.rightB ⟨(x : Int), y, z⟩ with
    | false =>
      have hno : Hid (p3O bs = none) := Lib.hid (by rw [hO.out, hx.out, hr]; rfl)
      clear hr
      go_wp2
      have hz : Hid (Blk _ w.heap.size 32 (p3L p3z)) := Lib.hid (((hT3.out.set 0 (.int .i64 0)).set 1 (.int .u64 0)).set 2 (.int .u32 0))
      refine bodyPost_ret (results_row_tmp rfl (rowPtr hz.out)) rfl ?_
      rw [RRes, hno.out]
      exact ⟨rfl, ((hb3.out.setCell (by simp) _).setCell (by simp) _).setCell (by simp) _⟩
    | true =>
      have hyes : Hid (p3O bs = some ⟨(x : Int), y, z⟩) := Lib.hid (by rw [hO.out, hx.out, hr]; rfl)
      clear hr
      go_wp2
      have hz : Hid (Blk _ w.heap.size 32 (p3L ⟨(x : Int), y, z⟩)) := Lib.hid (((hT3.out.set 0 (.int .i64 (x : Int))).set 1 (.int .u64 (y : Int))).set 2 (.int .u32 (z : Int)))
      refine bodyPost_ret (results_row_tmp rfl (rowPtr hz.out)) rfl ?_
      rw [RRes, hyes.out]
      exact ⟨rfl, ((hb3.out.setCell (by simp) _).setCell (by simp) _).setCell (by simp) _⟩
  · rw [if_neg h16] at hg
    have hg := Lib.hid hg
    have hno : Hid (p3O bs = none) := Lib.hid (by unfold p3O; rw [if_neg (fun h => h16 h.1)])
    generalize hn : bs.length = n at *
    have hn := Lib.hid hn
    go_enter Try.func66, Try.ntmps66
    go_wp2_with (first | (go_at_call 72; refine (widths_any _).mono ?_; rintro e w' ⟨rfl, rfl⟩))
    refine (get_484 bo cap n bs _ (Reads.row (new_b _ _ _)) (hy.out.below ((hW.out).mono (Nat.le_refl _))) hn.out hc hm).mono ?_
    intro e w2 hR
    obtain ⟨ao, ca, rfl, hb2⟩ := hR.nope hg.out
    have hblk : Blk w2 w.heap.size 32 (p3L p3z) := by
      unfold Blk
      rw [hb2.block _ (by simp; omega)]
      exact new_c _ _ _
    have c0 := hblk.cell 0
    have c1 := hblk.cell 1
    have c2 := hblk.cell 2
    have f0 := hblk.frozen 0
    have f1 := hblk.frozen 1
    have f2 := hblk.frozen 2
    simp [p3L, p3z] at c0 c1 c2
    have hb2 := Lib.hid (hW.out.trans (hb2.mono (by simp; omega)))
    have hblk := Lib.hid hblk
    go_wp2
    have hz : Hid (Blk _ w.heap.size 32 (p3L p3z)) := Lib.hid (((hblk.out.set 0 (.int .i64 0)).set 1 (.int .u64 0)).set 2 (.int .u32 0))
    refine bodyPost_ret (results_row_tmp rfl (rowPtr hz.out)) rfl ?_
    rw [RRes, hno.out]
    exact ⟨rfl, ((hb2.out.setCell (by simp) _).setCell (by simp) _).setCell (by simp) _⟩

end Go.Proofs.Ytgdefibkemkejaa

/- The chapter's example holds; how a pointer reads that came in. -/
namespace Go.Proofs.Ytgdefibkemkejaa
open Go.ChangeShapes Go.WideShapes Go.ChangeAt Go.RowKit Go.Deep Go.Joins
set_option linter.unusedVariables false
set_option maxRecDepth 20000
set_option linter.unusedSimpArgs false

theorem u64_wf {z : Nat} (h : z < 18446744073709551616) : (Lit.int .u64 (z : Int)).wf = true := by
  simp [Lit.wf, IntKind.min, IntKind.max, IntKind.signed, IntKind.bits]; omega
theorem u32_wf {z : Nat} (h : z < 4294967296) : (Lit.int .u32 (z : Int)).wf = true := by
  simp [Lit.wf, IntKind.min, IntKind.max, IntKind.signed, IntKind.bits]; omega
theorem i64_wf {z : Int} (h : I64 z) : (Lit.int .i64 z).wf = true := by
  unfold I64 at h
  simp [Lit.wf, IntKind.min, IntKind.max, IntKind.signed, IntKind.bits]; omega

def p3D {H : Type} (p : P3) : DataW H := .agg [.lit (.int .i64 p.a), .lit (.int .u64 (p.b : Int)), .lit (.int .u32 (p.s : Int))]

section
variable {H : Type} {enc : TypeId × Value → H} {W : World} {base : Nat} {v : Value} {d : DataW H} {ps : List MemPlace}
theorem cellsPtr : Try.prog.cellsOf 32 = 3 := by kernel_rfl
theorem open_ptr (hv : Value.okWide Try.prog W .any base 32 v) (h : DataW.Trod enc Try.prog W 0 (fun _ => true) true 32 v d ps) :
    ∃ p : P3, v = p3V p ∧ d = p3D p ∧ ps = [] ∧ p.Fit := by
  obtain ⟨v0, v1, v2, y0, y1, y2, n, rfl, rfl, rfl, t0, t1, t2⟩ := open_agg3 Try.underlying32 (by kernel_rfl) cellsPtr hv h
  obtain ⟨a, e0, rfl, wa⟩ := DataW.trod_int Try.underlying3 t0
  obtain ⟨b, e1, rfl, wb⟩ := DataW.trod_int Try.underlying29 t1
  obtain ⟨s, e2, rfl, ws⟩ := DataW.trod_int Try.underlying30 t2
  cases e0; cases e1; cases e2
  obtain ⟨b', rfl, hb⟩ := nat_u64 wb
  obtain ⟨s', rfl, hs⟩ := nat_u32 ws
  exact ⟨⟨a, b', s'⟩, rfl, rfl, rfl, wf_i64 wa, hb, hs⟩
theorem shut_ptr {spare : Nat → Bool} {held : Bool} {p : P3} (hf : p.Fit) : DataW.Trod enc Try.prog W base spare held 32 (p3V p) (p3D p) [] := by
  have := shut_agg3 (enc := enc) (w := W) (base := base) (spare := spare) (held := held) Try.underlying32 (by kernel_rfl) cellsPtr
    ⟨1, trod_int_mk 0 Try.underlying3 (i64_wf hf.1)⟩ ⟨1, trod_int_mk 0 Try.underlying29 (u64_wf hf.2.1)⟩ ⟨1, trod_int_mk 0 Try.underlying30 (u32_wf hf.2.2)⟩
  exact this
end

/-- a cell stays behind a call that leaves all cells -/
theorem keepCell {w w1 : World} {p : Addr} {v : Value} (hb : Below w.heap.size w w1) (c : w.cell? p = some v) : w1.cell? p = some v := (hb.cell (cell_lt c)).trans c

theorem BRes.yes {n : Int} {o : Option (List UInt8)} {w w' : World} {e : Ending} (h : BRes n o w e w') {x : List UInt8} (ho : o = some x) {m : Nat} (hm : x.length = m) :
    ∃ (ao : Option Addr) (cap : Nat), e = .returned (.tuple #[.slice ao m cap, .int .i64 0]) ∧ Hid (Bytes w' ao x) ∧ m ≤ cap ∧ cap ≤ 9223372036854775807 ∧ Hid (ao = none → cap = 0) ∧ Below w.heap.size w w' := by
  subst ho
  obtain ⟨v, rfl, h1, h2⟩ := h
  obtain ⟨ao, cap, rfl, a1, a2, a3, a4, a5⟩ := h1.shapeN (n := m) (by rw [bytesV_length]; exact hm)
  exact ⟨ao, cap, rfl, a4, a1, a2, a3, h2⟩
theorem BRes.nope {n : Int} {o : Option (List UInt8)} {w w' : World} {e : Ending} (h : BRes n o w e w') (ho : o = none) :
    ∃ (ao : Option Addr) (cap : Nat), e = .returned (.tuple #[.slice ao 0 cap, .int .i64 n]) ∧ Hid (Bytes w' ao []) ∧ Hid (ao = none → cap = 0) ∧ Below w.heap.size w w' := by
  subst ho
  obtain ⟨v, rfl, h1, h2⟩ := h
  obtain ⟨ao, cap, rfl, a1, a2, a3, a4, a5⟩ := h1.shapeN (n := 0) rfl
  exact ⟨ao, cap, rfl, a4, a3, h2⟩

theorem RRes.yes {n : Int} {o : Option P3} {w w' : World} {e : Ending} (h : RRes n o w e w') {p : P3} (ho : o = some p) :
    e = .returned (.tuple #[.agg #[.int .i64 p.a, .int .u64 (p.b : Int), .int .u32 (p.s : Int)], .int .i64 0]) ∧ Below w.heap.size w w' := by
  subst ho; exact h
theorem RRes.nope {n : Int} {o : Option P3} {w w' : World} {e : Ending} (h : RRes n o w e w') (ho : o = none) :
    e = .returned (.tuple #[.agg #[.int .i64 0, .int .u64 0, .int .u32 0], .int .i64 n]) ∧ Below w.heap.size w w' := by
  subst ho; exact h

end Go.Proofs.Ytgdefibkemkejaa

/- A pointer's bytes are its own, and back; a pointer that lies in memory. -/
namespace Go.Proofs.Ytgdefibkemkejaa
open Go.ChangeShapes Go.WideShapes Go.ChangeAt Go.RowKit Go.Deep Go.Joins
set_option linter.unusedVariables false
set_option maxRecDepth 20000
set_option linter.unusedSimpArgs false

theorem p3Of_bytes {p : P3} (hp : p.Fit) (h : p.rightB = true) : p3Of p.bytes = p := by
  obtain ⟨h0, h1, h2, _⟩ := rightB_bounds h
  obtain ⟨_, hb, hs⟩ := hp
  have e1 : p.bytes.take 4 = leB 4 p.a.toNat := by
    unfold P3.bytes
    rw [List.take_append_of_le_length (by simp [leB_length]), List.take_of_length_le (by simp [leB_length])]
  have e2 : p.bytes.drop 4 = leB 8 p.b ++ leB 4 p.s := by
    unfold P3.bytes
    have := List.drop_left (l₁ := leB 4 p.a.toNat) (l₂ := leB 8 p.b ++ leB 4 p.s)
    rwa [leB_length] at this
  have e3 : (p.bytes.drop 4).take 8 = leB 8 p.b := by
    rw [e2, List.take_append_of_le_length (by simp [leB_length]), List.take_of_length_le (by simp [leB_length])]
  have e4 : p.bytes.drop 12 = leB 4 p.s := by
    have : p.bytes.drop 12 = (p.bytes.drop 4).drop 8 := by rw [List.drop_drop]
    rw [this, e2]
    have := List.drop_left (l₁ := leB 8 p.b) (l₂ := leB 4 p.s)
    rwa [leB_length] at this
  unfold p3Of
  rw [e1, e3, e4, valB_leB 4 _ (by simp; omega), valB_leB 8 _ (by simpa using hb), valB_leB 4 _ (by simpa using hs)]
  exact P3.ext' (by show ((p.a.toNat : Nat) : Int) = p.a; omega) rfl rfl

theorem p3O_bytes {p : P3} (hp : p.Fit) (h : p.rightB = true) : p3O p.bytes = some p := by
  unfold p3O
  rw [p3Of_bytes hp h, if_pos ⟨p.bytes_length, h⟩]

theorem bytes_p3Of {bs : List UInt8} (h : bs.length = 16) : (p3Of bs).bytes = bs := by
  unfold p3Of P3.bytes
  dsimp only
  have e1 := leB_valB (bs.take 4)
  have e2 := leB_valB ((bs.drop 4).take 8)
  have e3 := leB_valB (bs.drop 12)
  rw [show (bs.take 4).length = 4 from by simp; omega] at e1
  rw [show ((bs.drop 4).take 8).length = 8 from by simp; omega] at e2
  rw [show (bs.drop 12).length = 4 from by simp; omega] at e3
  rw [Int.toNat_natCast, e1, e2, e3]
  have : bs.drop 12 = (bs.drop 4).drop 8 := by rw [List.drop_drop]
  rw [this, List.take_append_drop, List.take_append_drop]

theorem p3O_some {bs : List UInt8} {r : P3} (h : p3O bs = some r) : r.bytesO = some bs ∧ r.Fit ∧ bs.length = 16 := by
  unfold p3O at h
  split at h
  · rename_i hc
    cases h
    refine ⟨?_, P3.fit_of hc.1, hc.1⟩
    unfold P3.bytesO
    rw [hc.2, if_pos rfl, bytes_p3Of hc.1]
  · cases h

theorem bytes_inj {p q : P3} (hp : p.Fit) (hq : q.Fit) (h : p.rightB = true) (h' : q.rightB = true) (e : p.bytes = q.bytes) : p = q := by
  rw [← p3Of_bytes hp h, ← p3Of_bytes hq h', e]

theorem eqPtr (w : World) (p q : P3) : (Op.equalIn 10000 32 (.agg #[.int .i64 p.a, .int .u64 (p.b : Int), .int .u32 (p.s : Int)]) (.agg #[.int .i64 q.a, .int .u64 (q.b : Int), .int .u32 (q.s : Int)])).run Try.prog w = .ok (p.eqB q) w := by
  go_simp
  unfold P3.eqB
  by_cases h1 : p.a = q.a <;> by_cases h2 : p.b = q.b <;> by_cases h3 : p.s = q.s <;> simp [h1, h2, h3, Int.natCast_inj]

/-- a pointer that lies in a block of its own -/
def PtrAt (w : World) (g : Nat) (p : P3) : Prop := Blk w g 32 (p3L p)
theorem PtrAt.cells {w : World} {g : Nat} {p : P3} (h : PtrAt w g p) : w.cell? ⟨g, 0, none⟩ = some (.int .i64 p.a) ∧ w.cell? ⟨g, 1, none⟩ = some (.int .u64 (p.b : Int)) ∧ w.cell? ⟨g, 2, none⟩ = some (.int .u32 (p.s : Int)) :=
  ⟨Blk.cell h 0, Blk.cell h 1, Blk.cell h 2⟩
theorem PtrAt.below {w w' : World} {B g : Nat} {p : P3} (h : PtrAt w g p) (hb : Below B w w') (hg : g < B) : PtrAt w' g p := Blk.below h hb hg
theorem PtrAt.next {w w' : World} {g : Nat} {p : P3} (h : PtrAt w g p) (hb : Below w.heap.size w w') : PtrAt w' g p := Blk.below h hb (Blk.lt h)
theorem PtrAt.drew {w : World} {g : Nat} {p : P3} (h : PtrAt w g p) : PtrAt w.drew g p := h
theorem PtrAt.range {w : World} {g : Nat} {p : P3} (h : PtrAt w g p) : w.rangeAt g 0 [.int .i64 p.a, .int .u64 (p.b : Int), .int .u32 (p.s : Int)] := Blk.range h (fun j v hv => by rw [Nat.zero_add]; exact hv)
theorem PtrAt.first (w : World) (p : P3) : PtrAt (w.alloc (.cells #[.int .i64 p.a, .int .u64 (p.b : Int), .int .u32 (p.s : Int)] 32)) w.heap.size p := Blk.newA w 32 _
theorem PtrAt.alloc {w : World} {g : Nat} {p : P3} (h : PtrAt w g p) (o : Obj) : PtrAt (w.alloc o) g p := Blk.alloc h o

theorem BRes.out {n : Int} {o : Option (List UInt8)} {w w' : World} {e : Ending} (h : BRes n o w e w') :
    ∃ (ao : Option Addr) (cap : Nat), e = .returned (.tuple #[.slice ao (o.getD []).length cap, .int .i64 (errI n o)]) ∧ Hid (Bytes w' ao (o.getD [])) ∧ (o.getD []).length ≤ cap ∧ Hid (ao = none → cap = 0) ∧ Below w.heap.size w w' := by
  obtain ⟨v, rfl, h1, h2⟩ := h
  obtain ⟨ao, cap, rfl, a1, a2, a3, a4, a5⟩ := h1.shapeN (n := (o.getD []).length) (by rw [bytesV_length])
  exact ⟨ao, cap, rfl, a4, a1, a3, h2⟩
end Go.Proofs.Ytgdefibkemkejaa
