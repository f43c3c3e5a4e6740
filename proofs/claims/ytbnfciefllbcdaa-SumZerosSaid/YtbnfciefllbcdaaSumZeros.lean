/- SumZeros, for every input: the law returns true and each argument reads behind the call as before. No condition. -/
import Derived.Test.YtbnfciefllbcdaaSumE
import Derived.Test.YtbnfciefllbcdaaRegion
namespace Go.Proofs.Ytbnfciefllbcdaa.lawSumZeros
open Go.ChangeShapes Go.WideShapes Go.ChangeAt Go.RowKit Go.Deep
set_option linter.unusedVariables false

theorem new_a (w : World) (A : Obj) : (w.alloc A).heap[w.heap.size]? = some A := heap_alloc_new w A
theorem new_b (w : World) (A B : Obj) : ((w.alloc A).alloc B).heap[w.heap.size + 1]? = some B := by
  have := heap_alloc_new (w.alloc A) B
  simpa using this
theorem new_c (w : World) (A B : Obj) : ((w.alloc A).alloc B).heap[w.heap.size]? = some A := by
  rw [Below.heap_alloc _ B w.heap.size (by simp)]
  exact heap_alloc_new w A
theorem Of_zeros (n : Nat) (b : Nat) (w : World) (hn : n ≤ 281474976710656) (h : w.heap[b]? = some (.cells (madeCells #[.int .u8 0] n) 5 (0, 0))) : Calls Try.prog 9 #[.slice (some ⟨b, 0, none⟩) n n] w fun e w' => e = .returned (.int .u32 (crcMore 0 (List.replicate n 0) : Int)) ∧ w = w' := by
  refine Of_n n _ (List.replicate n 0) n w ?_ (by simp) hn
  unfold Bytes
  rw [← bytesV_zeros]
  intro i hi
  refine ⟨b, 0, rfl, ?_⟩
  have hi' : i < (madeCells #[.int .u8 0] n).size := by simpa using hi
  rw [cell_of_row w b (0 + i) (madeCells #[.int .u8 0] n) 5 (0, 0) h]
  simp only [Nat.zero_add, Array.getElem_toList]
  exact Array.getElem?_eq_getElem hi'

set_option maxHeartbeats 4000000 in
theorem way_yes (n m : Nat) (w : World) (hn : n ≤ 3000) (hm : m ≤ 3000) :
    Calls Try.prog 8 #[.int .i64 (n : Int), .int .i64 (m : Int)] w fun e w' => e = .returned (.bool true) ∧ Below w.heap.size w w' := by
  obtain ⟨i0, hi, hz0, hz1, hz2⟩ := info_parts infoU8
  have hmn := fun W => run_make_zeros (P := Try.prog) 24 5 i0 Try.underlying24 hi hz0 hz1 hz2 n (by omega) W
  have hmm := fun W => run_make_zeros (P := Try.prog) 24 5 i0 Try.underlying24 hi hz0 hz1 hz2 m (by omega) W
  obtain ⟨s, hs1, hs2⟩ : ∃ s : Bool, ((n : Int) == (m : Int)) = s ∧ (((crcMore 0 (List.replicate n 0) : Nat) : Int) == ((crcMore 0 (List.replicate m 0) : Nat) : Int)) = s := by
    refine ⟨_, rfl, ?_⟩
    rw [Bool.eq_iff_iff, beq_iff_eq, beq_iff_eq, Int.natCast_inj, Int.natCast_inj]
    exact crcMore_zeros hn hm
  have g1 : decide ((n : Int) < 0) = false := decide_eq_false (by omega)
  have g2 : decide ((m : Int) < 0) = false := decide_eq_false (by omega)
  have g3 : decide (3000 < (n : Int)) = false := decide_eq_false (by omega)
  have g4 : decide (3000 < (m : Int)) = false := decide_eq_false (by omega)
  go_enter Try.func8, Try.ntmps8
  go_wp2_with fail
  refine (names_any w).mono ?_
  rintro e w0 ⟨rfl, hb0⟩
  have hb0 := Lib.hid hb0
  go_wp2
  go_region_held3 (fun w' => True) (trivial) (first | (go_at_call 9; refine (Of_zeros _ _ _ (by omega) (by first | exact new_a _ _ | exact new_b _ _ _ | exact new_c _ _ _)).mono ?_; rintro e w' ⟨rfl, rfl⟩))
  all_goals go_wp2
  all_goals go_ret
  all_goals exact ⟨rfl, ((hb0.out.alloc hb0.out.size _).alloc (Nat.le_trans hb0.out.size (by simp)) _).drew⟩

set_option maxHeartbeats 2000000 in
theorem way_no (n m : Int) (w : World) (hn : I64 n) (hm : I64 m) (hno : n < 0 ∨ (0 ≤ n ∧ 3000 < n) ∨ (0 ≤ n ∧ n ≤ 3000 ∧ m < 0) ∨ (0 ≤ n ∧ n ≤ 3000 ∧ 0 ≤ m ∧ 3000 < m)) :
    Calls Try.prog 8 #[.int .i64 n, .int .i64 m] w fun e w' => e = .returned (.bool true) ∧ Below w.heap.size w w' := by
  unfold I64 at hn hm
  rcases hno with h | ⟨h, h'⟩ | ⟨h, h', h2⟩ | ⟨h, h', h2, h3⟩
  all_goals
    go_enter Try.func8, Try.ntmps8
    go_wp2_with fail
    refine (names_any w).mono ?_
    rintro e w1 ⟨rfl, hb1⟩
    have hb1 := Lib.hid hb1
    go_wp2
    go_ret
    exact ⟨rfl, hb1.out⟩

theorem walk (n m : Int) (w : World) (hn : I64 n) (hm : I64 m) :
    Calls Try.prog 8 #[.int .i64 n, .int .i64 m] w fun e w' => e = .returned (.bool true) ∧ Below w.heap.size w w' := by
  by_cases h1 : n < 0
  · exact way_no n m w hn hm (.inl h1)
  by_cases h2 : 3000 < n
  · exact way_no n m w hn hm (.inr (.inl ⟨by omega, h2⟩))
  by_cases h3 : m < 0
  · exact way_no n m w hn hm (.inr (.inr (.inl ⟨by omega, by omega, h3⟩)))
  by_cases h4 : 3000 < m
  · exact way_no n m w hn hm (.inr (.inr (.inr ⟨by omega, by omega, by omega, h4⟩)))
  obtain ⟨a, rfl⟩ : ∃ a : Nat, n = a := ⟨n.toNat, by omega⟩
  obtain ⟨b, rfl⟩ : ∃ b : Nat, m = b := ⟨m.toNat, by omega⟩
  exact way_yes a b w (by omega) (by omega)

theorem own : ownKnob Try.prog.godebug = none := by kernel_rfl

set_option maxRecDepth 100000 in
theorem lifted (os : Os) (started : os.Started) (H : Type) (enc : TypeId × Value → H) :
    ReturnsInHanded {} Try.checked os 8 .any (Rows.sumZerosSpec.pre6 enc Try.prog Try.f8 Rows.sumZerosRow.domain false) (Rows.sumZerosSpec.post enc Try.prog Try.f8 false true false false) := by
  refine returnsInHanded_of_change_sized (C := Try.checked) own started (by kernel_rfl) Try.func8
    (ChangeSpec.witness6 (enc := enc) (C := Try.checked) false ⟨#[], #[.int .i64 0, .int .i64 0], []⟩ 8 (by kernel_rfl) (by kernel_rfl) (by kernel_rfl) (by kernel_rfl)) ?_
  intro W base args ds gs before hval0 hW hcnd hsz0 _
  have hval : ∀ (j : Nat) t v, Try.f8.params[j]? = some t → args[j]? = some v → Value.okWide Try.prog W .any base t v := hval0
  have hsz : (DataW.weightsEach Try.prog (Try.f8.params.toList ++ Rows.sumZerosSpec.plain.varTypes Try.prog) (ds ++ gs)).all (· ≤ reachBytes) = true := hsz0
  have hW' := hW
  obtain ⟨p, q, hA0, hV, rfl, hfz, hnd⟩ := hW
  have hA : DataW.TrodAll enc Try.prog W 0 (fun _ => true) true Try.f8.params.toList args.toList ds p := hA0
  rw [Try.params8] at hA hval hsz
  obtain ⟨v0, vs0, d0, ds0, p0, q0, hargs, rfl, rfl, h0, r0⟩ := trodAll_cons hA
  obtain ⟨v1, vs1, d1, ds1, p1, q1, rfl, rfl, rfl, h1, r1⟩ := trodAll_cons r0
  obtain ⟨rfl, rfl, rfl⟩ := trodAll_nil r1
  obtain rfl : args = #[v0, v1] := by cases args; simp_all
  obtain ⟨rfl, rfl⟩ := trodVars_none hV
  obtain ⟨a0, rfl, rfl, rfl, wf0⟩ := open_int Try.underlying3 (hval 0 3 v0 rfl rfl) h0
  obtain ⟨a1, rfl, rfl, rfl, wf1⟩ := open_int Try.underlying3 (hval 1 3 v1 rfl rfl) h1
  clear hA0 hval0 hsz0
  refine (walk a0 a1 W (wf_i64 wf0) (wf_i64 wf1)).mono fun e W' ⟨he, bel⟩ => ?_
  subst he
  exact ⟨_, rfl, _, _, _, [], _, [], hW', trodAll_mk1 (shut_bool Try.underlying4 _), (trodAll_cons_mk (shut_int Try.underlying3 wf0) (trodAll_cons_mk (shut_int Try.underlying3 wf1) trodAll_mk0)), rfl, bel.frame _, fun h => by cases h⟩

theorem proved : Rows.SumZerosSaid :=
  OpenClaim.holds_of_wide 8 Try.f8 rfl rfl rfl rfl rfl rfl rfl ⟨rfl, rfl, rfl, rfl, rfl⟩ rfl rfl rfl rfl rfl (by kernel_rfl) Try.func8 (by kernel_rfl)
    (of_decide_eq_true (by kernel_rfl)) (by unfold Func.isWrapper; first | (rw [if_pos (by decide +kernel)]; kernel_rfl) | (rw [if_neg (by decide +kernel)]; exact ⟨rfl, rfl⟩))
    (fun os started H enc _ => lifted os started H enc)
end Go.Proofs.Ytbnfciefllbcdaa.lawSumZeros
