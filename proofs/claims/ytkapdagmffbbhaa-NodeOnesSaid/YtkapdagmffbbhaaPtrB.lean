/- A pointer as bytes: the program's Bytes and the document's. -/
import Derived.Test.YtkapdagmffbbhaaPtrA
import Derived.Deep.RegionHeld3
namespace Go.Proofs.Ytkapdagmffbbhaa
open Go.ChangeShapes Go.WideShapes Go.ChangeAt Go.RowKit
set_option linter.unusedVariables false
set_option maxRecDepth 20000
set_option linter.unusedSimpArgs false

/-- a pointer's bytes -/
def P3.bytes (p : P3) : List UInt8 := leB 4 p.a.toNat ++ (leB 8 p.b ++ leB 4 p.s)
def P3.bytesO (p : P3) : Option (List UInt8) := if p.rightB then some p.bytes else none

theorem P3.bytes_length (p : P3) : p.bytes.length = 16 := by simp [P3.bytes, leB_length]

/-- the number of an error, or none -/
def errI {α : Type} (n : Int) (o : Option α) : Int := match o with | some _ => 0 | none => n

/-- what a call answers that makes bytes, or fails -/
def BRes (n : Int) (o : Option (List UInt8)) (w : World) (e : Ending) (w' : World) : Prop :=
  ∃ v, e = .returned (.tuple #[v, .int .i64 (errI n o)]) ∧ Own w' w.heap.size 5 v (bytesV (o.getD [])) ∧ Below w.heap.size w w'

theorem BRes.no {n : Int} {o : Option (List UInt8)} {w w' : World} {e : Ending} (ho : o = none) (he : e = .returned (.tuple #[.slice none 0 0, .int .i64 n])) (hb : Below w.heap.size w w') : BRes n o w e w' := by
  subst ho
  exact ⟨_, he, Own.nil _ _ _, hb⟩

theorem rightB_bounds {p : P3} (h : p.rightB = true) : 0 ≤ p.a ∧ p.a ≤ 1023 ∧ p.b ≤ 281474976710655 ∧ (p.a = 0 → p.b = 0 ∧ p.s = 0) := by
  unfold P3.rightB P3.holeB at h
  simp only [Bool.or_eq_true, Bool.and_eq_true, decide_eq_true_iff] at h
  omega

set_option maxHeartbeats 1000000 in
theorem widths_any (w : World) :
    Calls Try.prog 27 #[] w fun e w' => e = .returned (.slice (some ⟨w.heap.size, 0, none⟩) 3 3) ∧ w.alloc (.cells #[.int .i64 4, .int .i64 8, .int .i64 4] 3) = w' := by
  go_enter Try.func27, Try.ntmps27
  go_wp2
  go_ret
  exact ⟨rfl, rfl⟩

theorem putL_ptr {n b s : Nat} (h1 : n < 4294967296) (h2 : b < 18446744073709551616) (h3 : s < 4294967296) : putL [4, 8, 4] [n, b, s] = some (leB 4 n ++ (leB 8 b ++ leB 4 s)) := by
  have e1 : (256 : Nat) ^ (4 : Int).toNat = 4294967296 := by decide
  have e2 : (256 : Nat) ^ (8 : Int).toNat = 18446744073709551616 := by decide
  simp [putL, e1, e2, h1, h2, h3]

theorem ints_484 : I64s [4, 8, 4] := ⟨by intro z hz; simp at hz; unfold I64; omega, by simp⟩

theorem PutRes.own {o : Option (List UInt8)} {w w' : World} {e : Ending} (h : PutRes o w e w') {x : List UInt8} (ho : o = some x) : ∃ v, e = .returned (.tuple #[v, .int .i64 0]) ∧ Own w' w.heap.size 5 v (bytesV x) ∧ Below w.heap.size w w' := by
  subst ho
  exact h

theorem Own.shapeN {w : World} {base : Nat} {e : TypeId} {v : Value} {cs : List Value} {n : Nat} (h : Own w base e v cs) (hn : cs.length = n) :
    ∃ ao cap, v = .slice ao n cap ∧ n ≤ cap ∧ cap ≤ 9223372036854775807 ∧ (ao = none → cap = 0) ∧ Reads w ao cs ∧ (∀ a, ao = some a → base ≤ a.block ∧ a.block < w.heap.size) := by
  subst hn
  obtain ⟨ao, cap, h1, h2, h3, h4, h5, h6, _⟩ := h.shape
  exact ⟨ao, cap, h1, h2, by simpa [maxLen] using h3, h4, h5, h6⟩

/-- a row that was made later lies in another block -/
theorem Own.later {w : World} {base : Nat} {e : TypeId} {v v1 : Value} {cs : List Value} (h : Own w base e v cs) (h1 : ∀ g, v1.ownBlock = some g → g < base) : v.ownBlock = none ∨ v.ownBlock ≠ v1.ownBlock := by
  cases hv : v.ownBlock with
  | none => exact .inl rfl
  | some g =>
    right
    intro e
    have := (h.lt g hv).1
    have := h1 g e.symm
    omega

theorem Reads.row {w : World} {k : Nat} {cur : Array Value} {e : TypeId} {fr : Nat × Nat} (h : w.heap[k]? = some (.cells cur e fr)) : Reads w (some ⟨k, 0, none⟩) cur.toList := by
  intro i hi
  have hi' : i < cur.size := by simpa using hi
  exact ⟨k, 0, rfl, by rw [cell_of_row w k (0 + i) cur e fr h]; simp [hi']⟩
theorem new_a (w : World) (A : Obj) : (w.alloc A).heap[w.heap.size]? = some A := heap_alloc_new w A
theorem new_b (w : World) (A B : Obj) : ((w.alloc A).alloc B).heap[w.heap.size + 1]? = some B := by
  have := heap_alloc_new (w.alloc A) B
  simpa using this
theorem new_c (w : World) (A B : Obj) : ((w.alloc A).alloc B).heap[w.heap.size]? = some A := by
  rw [Below.heap_alloc _ B w.heap.size (by simp)]
  exact heap_alloc_new w A

set_option maxHeartbeats 2000000 in
theorem pBytes_any (a : Int) (b s : Nat) (w : World) (h : P3.Fit ⟨a, b, s⟩) :
    Calls Try.prog 20 #[p3V ⟨a, b, s⟩] w (BRes 51 (P3.bytesO ⟨a, b, s⟩) w) := by
  have hh := pRight_any a b s (w.alloc (.cells #[.int .i64 a, .int .u64 (b : Int), .int .u32 (s : Int)] 30)) h
  have hh := Lib.hid hh
  cases hr : P3.rightB ⟨a, b, s⟩ with
  | false =>
    have hno : Hid (P3.bytesO ⟨a, b, s⟩ = none) := Lib.hid (by unfold P3.bytesO; rw [hr]; rfl)
    have hh := hh.out
    rw [hr] at hh
    clear hr
    have hh := Lib.hid hh
    unfold p3V at *
    go_enter Try.func20, Try.ntmps20
    go_wp2_with fail
    refine hh.out.mono ?_
    rintro e w1 ⟨rfl, hb1⟩
    have hb1 := Lib.hid (below_boxed hb1)
    go_wp2
    go_ret2
    exact BRes.no hno.out rfl hb1.out
  | true =>
    obtain ⟨h0, h1, h2, _⟩ := rightB_bounds hr
    dsimp only at h0 h1 h2
    obtain ⟨n, rfl⟩ := Int.eq_ofNat_of_zero_le (a := a) h0
    have hs := h.2.2
    dsimp only at hs
    have hyes : Hid (P3.bytesO ⟨n, b, s⟩ = some (P3.bytes ⟨n, b, s⟩)) := Lib.hid (by unfold P3.bytesO; rw [hr]; rfl)
    have hput : Hid (putL [4, 8, 4] [n, b, s] = some (P3.bytes ⟨n, b, s⟩)) := Lib.hid (putL_ptr (by omega) (by omega) hs)
    have hfit : Hid (Fit64 [n, b, s]) := Lib.hid ⟨by intro z hz; simp at hz; omega, by simp⟩
    have hh := hh.out
    rw [hr] at hh
    clear hr h
    have hh := Lib.hid hh
    unfold p3V at *
    go_enter Try.func20, Try.ntmps20
    go_wp2_with fail
    refine hh.out.mono ?_
    rintro e w1 ⟨rfl, hb1⟩
    have c0 := hb1.cell (p := ⟨w.heap.size, 0, none⟩) (by simp)
    have c1 := hb1.cell (p := ⟨w.heap.size, 1, none⟩) (by simp)
    have c2 := hb1.cell (p := ⟨w.heap.size, 2, none⟩) (by simp)
    have hl1 : w.heap.size < w1.heap.size := by have := hb1.size; simp at this; omega
    rw [cell_of_row _ w.heap.size 0 _ _ _ (heap_alloc_new w _)] at c0
    rw [cell_of_row _ w.heap.size 1 _ _ _ (heap_alloc_new w _)] at c1
    rw [cell_of_row _ w.heap.size 2 _ _ _ (heap_alloc_new w _)] at c2
    simp at c0 c1 c2
    have hb1 := Lib.hid (below_boxed hb1)
    go_wp2
    go_region_held3 (fun w' => w'.cell? ⟨w.heap.size, 0, none⟩ = some (.int .i64 n) ∧ w'.cell? ⟨w.heap.size, 1, none⟩ = some (.int .u64 (b : Int)) ∧ w'.cell? ⟨w.heap.size, 2, none⟩ = some (.int .u32 (s : Int))) (first | go_keep | exact hkk)
      (first
        | (go_at_call 27; refine (widths_any _).mono ?_; rintro e w' ⟨rfl, rfl⟩)
        | (go_at_call 26
           (try rw [IntWalk.u64_in (n : Int) (by omega)])
           (try rw [IntWalk.u64_in (s : Int) (by omega)])
           refine (Put_any (some ⟨_, 0, none⟩) (some ⟨_, 0, none⟩) 3 3 [4, 8, 4] [n, b, s] _ (Reads.row (by first | exact new_c _ _ _ | exact new_b _ _ _)) (Reads.row (by first | exact new_c _ _ _ | exact new_b _ _ _)) ints_484 hfit.out).mono ?_
           intro e w2 hR
           obtain ⟨v, rfl, ho2, hb2⟩ := hR.own hput.out
           have hkk : w2.cell? ⟨w.heap.size, 0, none⟩ = some (.int .i64 n) ∧ w2.cell? ⟨w.heap.size, 1, none⟩ = some (.int .u64 (b : Int)) ∧ w2.cell? ⟨w.heap.size, 2, none⟩ = some (.int .u32 (s : Int)) := ⟨by rw [hb2.cell (by simp; omega)]; go_keep, by rw [hb2.cell (by simp; omega)]; go_keep, by rw [hb2.cell (by simp; omega)]; go_keep⟩
           have ho2 := Lib.hid (ho2.le (base' := w.heap.size) (by simp; omega))
           have hb2 := Lib.hid ((((hb1.out.alloc (by omega) _).alloc (by simp; omega) _).drew).trans (hb2.mono (by simp; omega)))))
    all_goals go_wp2
    all_goals go_ret2
    all_goals rw [hyes.out]
    all_goals exact ⟨v, rfl, ho2.out, hb2.out⟩

set_option maxHeartbeats 2000000 in
theorem pRefBytes_any (a : Int) (b s : Nat) (w : World) (h : P3.Fit ⟨a, b, s⟩) :
    Calls Try.prog 21 #[p3V ⟨a, b, s⟩] w (BRes 51 (P3.bytesO ⟨a, b, s⟩) w) := by
  have hh := pRefRight_any a b s (w.alloc (.cells #[.int .i64 a, .int .u64 (b : Int), .int .u32 (s : Int)] 30)) h
  have hh := Lib.hid hh
  cases hr : P3.rightB ⟨a, b, s⟩ with
  | false =>
    have hno : Hid (P3.bytesO ⟨a, b, s⟩ = none) := Lib.hid (by unfold P3.bytesO; rw [hr]; rfl)
    have hh := hh.out
    rw [hr] at hh
    clear hr
    have hh := Lib.hid hh
    unfold p3V at *
    go_enter Try.func21, Try.ntmps21
    go_wp2_with fail
    refine hh.out.mono ?_
    rintro e w1 ⟨rfl, hb1⟩
    have hb1 := Lib.hid (below_boxed hb1)
    go_wp2
    go_ret2
    exact BRes.no hno.out rfl hb1.out
  | true =>
    obtain ⟨i0, hi, hz0, hz1, hz2⟩ := info_parts infoU8
    obtain ⟨h0, h1, h2, _⟩ := rightB_bounds hr
    dsimp only at h0 h1 h2
    obtain ⟨n, rfl⟩ := Int.eq_ofNat_of_zero_le (a := a) h0
    have hs := h.2.2
    dsimp only at hs
    have hyes : Hid (P3.bytesO ⟨n, b, s⟩ = some (leB 4 n ++ leB 8 b ++ leB 4 s)) := Lib.hid (by unfold P3.bytesO; rw [hr]; simp [P3.bytes])
    have hh := hh.out
    rw [hr] at hh
    clear hr h
    have hh := Lib.hid hh
    unfold p3V at *
    go_enter Try.func21, Try.ntmps21
    go_wp2_with fail
    refine hh.out.mono ?_
    rintro e w1 ⟨rfl, hb1⟩
    have c0 := hb1.cell (p := ⟨w.heap.size, 0, none⟩) (by simp)
    have c1 := hb1.cell (p := ⟨w.heap.size, 1, none⟩) (by simp)
    have c2 := hb1.cell (p := ⟨w.heap.size, 2, none⟩) (by simp)
    have hl1 : w.heap.size < w1.heap.size := by have := hb1.size; simp at this; omega
    rw [cell_of_row _ w.heap.size 0 _ _ _ (heap_alloc_new w _)] at c0
    rw [cell_of_row _ w.heap.size 1 _ _ _ (heap_alloc_new w _)] at c1
    rw [cell_of_row _ w.heap.size 2 _ _ _ (heap_alloc_new w _)] at c2
    simp at c0 c1 c2
    have hb1 := Lib.hid (below_boxed hb1)
    go_wp2_with fail
    refine (refNumber_any 4 n w1 (by decide) (by omega)).mono ?_
    rintro e w2 ⟨v1, rfl, ho1, hb2⟩
    have hs2 : w1.heap.size ≤ w2.heap.size := hb2.size
    have c1' := (hb2.cell (p := ⟨w.heap.size, 1, none⟩) (by simpa using hl1)).trans c1
    have c2' := (hb2.cell (p := ⟨w.heap.size, 2, none⟩) (by simpa using hl1)).trans c2
    have hb2 := Lib.hid (hb1.out.trans (hb2.mono (by omega)))
    obtain ⟨ao1, cap1, rfl, _⟩ := ho1.shapeN (n := 4) (by simp [bytesV_length, leB_length])
    have hlt1 : Hid (∀ g, (Value.slice ao1 4 cap1).ownBlock = some g → w1.heap.size ≤ g ∧ g < w2.heap.size) := Lib.hid ho1.lt
    have ho1 := Lib.hid (ho1.le (base' := w.heap.size) (by omega))
    clear c0 c1 c2
    go_wp2_with fail
    refine (refNumber_any 8 b w2 (by decide) (by omega)).mono ?_
    rintro e w3 ⟨v2, rfl, ho2, hb3⟩
    have hs3 : w2.heap.size ≤ w3.heap.size := hb3.size
    have c2'' := (hb3.cell (p := ⟨w.heap.size, 2, none⟩) (by simp; omega)).trans c2'
    have ho1 := Lib.hid (ho1.out.below hb3)
    have hb3 := Lib.hid (hb2.out.trans (hb3.mono (by omega)))
    obtain ⟨ao2, cap2, rfl, l2, m2, n2, _, _⟩ := ho2.shapeN (n := 8) (by simp [bytesV_length, leB_length])
    have ho2 := Lib.hid (ho2.le (base' := w.heap.size) (by omega))
    have n2 := Lib.hid n2
    clear c1' c2'
    go_wp2_with fail
    refine (refNumber_any 4 s w3 (by decide) (by omega)).mono ?_
    rintro e w4 ⟨v3, rfl, ho3, hb4⟩
    have hs4 : w3.heap.size ≤ w4.heap.size := hb4.size
    have ho1 := Lib.hid (ho1.out.below hb4)
    have ho2 := Lib.hid (ho2.out.below hb4)
    have hb4 := Lib.hid (hb3.out.trans (hb4.mono (by omega)))
    obtain ⟨ao3, cap3, rfl, l3, m3, n3, _, _⟩ := ho3.shapeN (n := 4) (by simp [bytesV_length, leB_length])
    have n3 := Lib.hid n3
    have ho3 := Lib.hid ho3
    clear c2''
    have e1 : Hid ((bytesV (leB 4 n)).length = 4) := Lib.hid (by simp [bytesV_length, leB_length])
    have e2 : Hid ((bytesV (leB 8 b)).length = 8) := Lib.hid (by simp [bytesV_length, leB_length])
    have e3 : Hid ((bytesV (leB 4 s)).length = 4) := Lib.hid (by simp [bytesV_length, leB_length])
    go_wp2_with (first
      | (at_builtin
         refine wpList_own_app (by rfl) (.tmp 33) (.tmp 34) 46 (by rfl) w.heap.size 5 i0 (.int .u8 0) 1 Try.underlying46 hi hz0 hz1 hz2 rfl (.slice ao1 4 cap1) (bytesV (leB 4 n)) w4 (by rfl) ho1.out ao2 8 cap2 (bytesV (leB 8 b)) (by rfl) n2.out e2.out ho2.out.reads (bytesV_one _) (by rw [e1.out]; decide) (by rw [e1.out]; decide) (by omega) ?_
         intro v5 w5 ho5 hg5
         have ho3 := Lib.hid (ho3.out.grown hg5.1 (ho3.out.later (fun g hg => by have := hlt1.out g hg; omega)))
         have hb5 := Lib.hid (hb4.out.trans (hg5.out (by omega) (fun g hg => (ho1.out.lt g hg).1)))
         have hs5 := hg5.size
         have ho5 := Lib.hid ho5
         clear hg5)
      | (at_builtin
         refine wpList_own_app (by rfl) (.tmp 35) (.tmp 36) 46 (by rfl) w.heap.size 5 i0 (.int .u8 0) 1 Try.underlying46 hi hz0 hz1 hz2 rfl v5 (bytesV (leB 4 n) ++ bytesV (leB 8 b)) w5 (by rfl) ho5.out ao3 4 cap3 (bytesV (leB 4 s)) (by rfl) n3.out e3.out ho3.out.reads (bytesV_one _) (by rw [List.length_append, e1.out, e2.out]; decide) (by rw [List.length_append, e1.out, e2.out]; decide) (by omega) ?_
         intro v6 w6 ho6 hg6
         have hb6 := Lib.hid (hb5.out.trans (hg6.out (by omega) (fun g hg => (ho5.out.lt g hg).1)))
         have ho6 := Lib.hid ho6
         clear hg6))
    go_ret2
    rw [hyes.out]
    exact ⟨v6, rfl, by simpa [bytesV] using ho6.out, hb6.out⟩
end Go.Proofs.Ytkapdagmffbbhaa
