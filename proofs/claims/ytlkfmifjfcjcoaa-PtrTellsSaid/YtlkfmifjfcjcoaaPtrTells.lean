/- PtrTells, for every input: the law returns true and each argument reads behind the call as before. No condition. -/
import Derived.Test.YtlkfmifjfcjcoaaPtrD
namespace Go.Proofs.Ytlkfmifjfcjcoaa.lawPtrTells
open Go.ChangeShapes Go.WideShapes Go.ChangeAt Go.RowKit Go.Deep
set_option linter.unusedVariables false

set_option maxHeartbeats 4000000 in
theorem walk (p q : P3) (t : Nat) (w : World) (hp : p.Fit) (hq0 : q.Fit) (ht : t < 18446744073709551616) :
    Calls Try.prog 4 #[p3V p, p3V q, .int .u64 (t : Int)] w fun e w' => e = .returned (.bool true) ∧ Below w.heap.size w w' := by
  have hp := Lib.hid hp
  have hq0 := Lib.hid hq0
  have hq := Lib.hid (((Below.refl w.heap.size w).alloc (Nat.le_refl _) (.cells #[.int .i64 p.a, .int .u64 (p.b : Int), .int .u32 (p.s : Int)] 26)).alloc (by simp) (.cells #[.int .i64 q.a, .int .u64 (q.b : Int), .int .u32 (q.s : Int)] 26))
  unfold p3V
  go_enter Try.func4, Try.ntmps4
  go_wp2
  go_region_held3 (fun w' => w'.cell? ⟨w.heap.size, 0, none⟩ = some (.int .i64 p.a) ∧ w'.cell? ⟨w.heap.size, 1, none⟩ = some (.int .u64 (p.b : Int)) ∧ w'.cell? ⟨w.heap.size, 2, none⟩ = some (.int .u32 (p.s : Int)) ∧ w'.cell? ⟨w.heap.size + 1, 0, none⟩ = some (.int .i64 q.a) ∧ w'.cell? ⟨w.heap.size + 1, 1, none⟩ = some (.int .u64 (q.b : Int)) ∧ w'.cell? ⟨w.heap.size + 1, 2, none⟩ = some (.int .u32 (q.s : Int))) (first | go_keep | exact hkk)
      (first
        | (go_at_call 9
           go_loud (refine (alive_any _).mono ?_)
           rintro e w1 ⟨rfl, hb⟩
           go_loud (have hkk : w1.cell? ⟨w.heap.size, 0, none⟩ = some (.int .i64 p.a) ∧ w1.cell? ⟨w.heap.size, 1, none⟩ = some (.int .u64 (p.b : Int)) ∧ w1.cell? ⟨w.heap.size, 2, none⟩ = some (.int .u32 (p.s : Int)) ∧ w1.cell? ⟨w.heap.size + 1, 0, none⟩ = some (.int .i64 q.a) ∧ w1.cell? ⟨w.heap.size + 1, 1, none⟩ = some (.int .u64 (q.b : Int)) ∧ w1.cell? ⟨w.heap.size + 1, 2, none⟩ = some (.int .u32 (q.s : Int)) := ⟨keepCell hb (by go_keep), keepCell hb (by go_keep), keepCell hb (by go_keep), keepCell hb (by go_keep), keepCell hb (by go_keep), keepCell hb (by go_keep)⟩)
           (first | have hq := Lib.hid (hq.out.trans (hb.mono hq.out.size)) | have hq := Lib.hid (hq.out.drew.trans (hb.mono hq.out.size))))
        | (go_at_call 10
           go_loud (refine (Right_any p.a p.b p.s _ hp.out).mono ?_)
           rintro e w1 ⟨rfl, hb⟩
           go_loud (have hkk : w1.cell? ⟨w.heap.size, 0, none⟩ = some (.int .i64 p.a) ∧ w1.cell? ⟨w.heap.size, 1, none⟩ = some (.int .u64 (p.b : Int)) ∧ w1.cell? ⟨w.heap.size, 2, none⟩ = some (.int .u32 (p.s : Int)) ∧ w1.cell? ⟨w.heap.size + 1, 0, none⟩ = some (.int .i64 q.a) ∧ w1.cell? ⟨w.heap.size + 1, 1, none⟩ = some (.int .u64 (q.b : Int)) ∧ w1.cell? ⟨w.heap.size + 1, 2, none⟩ = some (.int .u32 (q.s : Int)) := ⟨keepCell hb (by go_keep), keepCell hb (by go_keep), keepCell hb (by go_keep), keepCell hb (by go_keep), keepCell hb (by go_keep), keepCell hb (by go_keep)⟩)
           (first | have hq := Lib.hid (hq.out.trans (hb.mono hq.out.size)) | have hq := Lib.hid (hq.out.drew.trans (hb.mono hq.out.size))))
        | (go_at_call 11
           go_loud (refine (refRight_any p.a p.b p.s _ hp.out).mono ?_)
           rintro e w1 ⟨rfl, hb⟩
           go_loud (have hkk : w1.cell? ⟨w.heap.size, 0, none⟩ = some (.int .i64 p.a) ∧ w1.cell? ⟨w.heap.size, 1, none⟩ = some (.int .u64 (p.b : Int)) ∧ w1.cell? ⟨w.heap.size, 2, none⟩ = some (.int .u32 (p.s : Int)) ∧ w1.cell? ⟨w.heap.size + 1, 0, none⟩ = some (.int .i64 q.a) ∧ w1.cell? ⟨w.heap.size + 1, 1, none⟩ = some (.int .u64 (q.b : Int)) ∧ w1.cell? ⟨w.heap.size + 1, 2, none⟩ = some (.int .u32 (q.s : Int)) := ⟨keepCell hb (by go_keep), keepCell hb (by go_keep), keepCell hb (by go_keep), keepCell hb (by go_keep), keepCell hb (by go_keep), keepCell hb (by go_keep)⟩)
           (first | have hq := Lib.hid (hq.out.trans (hb.mono hq.out.size)) | have hq := Lib.hid (hq.out.drew.trans (hb.mono hq.out.size))))
        | (go_at_call 12
           go_loud (refine (Less_any p.a p.b p.s q.a q.b q.s _ hp.out hq0.out).mono ?_)
           rintro e w1 ⟨rfl, hb⟩
           go_loud (have hkk : w1.cell? ⟨w.heap.size, 0, none⟩ = some (.int .i64 p.a) ∧ w1.cell? ⟨w.heap.size, 1, none⟩ = some (.int .u64 (p.b : Int)) ∧ w1.cell? ⟨w.heap.size, 2, none⟩ = some (.int .u32 (p.s : Int)) ∧ w1.cell? ⟨w.heap.size + 1, 0, none⟩ = some (.int .i64 q.a) ∧ w1.cell? ⟨w.heap.size + 1, 1, none⟩ = some (.int .u64 (q.b : Int)) ∧ w1.cell? ⟨w.heap.size + 1, 2, none⟩ = some (.int .u32 (q.s : Int)) := ⟨keepCell hb (by go_keep), keepCell hb (by go_keep), keepCell hb (by go_keep), keepCell hb (by go_keep), keepCell hb (by go_keep), keepCell hb (by go_keep)⟩)
           (first | have hq := Lib.hid (hq.out.trans (hb.mono hq.out.size)) | have hq := Lib.hid (hq.out.drew.trans (hb.mono hq.out.size))))
        | (go_at_call 13
           go_loud (refine (refLess_any p.a p.b p.s q.a q.b q.s _ hp.out hq0.out).mono ?_)
           rintro e w1 ⟨rfl, hb⟩
           go_loud (have hkk : w1.cell? ⟨w.heap.size, 0, none⟩ = some (.int .i64 p.a) ∧ w1.cell? ⟨w.heap.size, 1, none⟩ = some (.int .u64 (p.b : Int)) ∧ w1.cell? ⟨w.heap.size, 2, none⟩ = some (.int .u32 (p.s : Int)) ∧ w1.cell? ⟨w.heap.size + 1, 0, none⟩ = some (.int .i64 q.a) ∧ w1.cell? ⟨w.heap.size + 1, 1, none⟩ = some (.int .u64 (q.b : Int)) ∧ w1.cell? ⟨w.heap.size + 1, 2, none⟩ = some (.int .u32 (q.s : Int)) := ⟨keepCell hb (by go_keep), keepCell hb (by go_keep), keepCell hb (by go_keep), keepCell hb (by go_keep), keepCell hb (by go_keep), keepCell hb (by go_keep)⟩)
           (first | have hq := Lib.hid (hq.out.trans (hb.mono hq.out.size)) | have hq := Lib.hid (hq.out.drew.trans (hb.mono hq.out.size))))
        | (go_at_call 14
           go_loud (refine (Since_any p.a p.b p.s t _ hp.out ht).mono ?_)
           rintro e w1 ⟨rfl, hb⟩
           go_loud (have hkk : w1.cell? ⟨w.heap.size, 0, none⟩ = some (.int .i64 p.a) ∧ w1.cell? ⟨w.heap.size, 1, none⟩ = some (.int .u64 (p.b : Int)) ∧ w1.cell? ⟨w.heap.size, 2, none⟩ = some (.int .u32 (p.s : Int)) ∧ w1.cell? ⟨w.heap.size + 1, 0, none⟩ = some (.int .i64 q.a) ∧ w1.cell? ⟨w.heap.size + 1, 1, none⟩ = some (.int .u64 (q.b : Int)) ∧ w1.cell? ⟨w.heap.size + 1, 2, none⟩ = some (.int .u32 (q.s : Int)) := ⟨keepCell hb (by go_keep), keepCell hb (by go_keep), keepCell hb (by go_keep), keepCell hb (by go_keep), keepCell hb (by go_keep), keepCell hb (by go_keep)⟩)
           (first | have hq := Lib.hid (hq.out.trans (hb.mono hq.out.size)) | have hq := Lib.hid (hq.out.drew.trans (hb.mono hq.out.size))))
        | (go_at_call 15
           go_loud (refine (refSince_any p.a p.b p.s t _ hp.out ht).mono ?_)
           rintro e w1 ⟨rfl, hb⟩
           go_loud (have hkk : w1.cell? ⟨w.heap.size, 0, none⟩ = some (.int .i64 p.a) ∧ w1.cell? ⟨w.heap.size, 1, none⟩ = some (.int .u64 (p.b : Int)) ∧ w1.cell? ⟨w.heap.size, 2, none⟩ = some (.int .u32 (p.s : Int)) ∧ w1.cell? ⟨w.heap.size + 1, 0, none⟩ = some (.int .i64 q.a) ∧ w1.cell? ⟨w.heap.size + 1, 1, none⟩ = some (.int .u64 (q.b : Int)) ∧ w1.cell? ⟨w.heap.size + 1, 2, none⟩ = some (.int .u32 (q.s : Int)) := ⟨keepCell hb (by go_keep), keepCell hb (by go_keep), keepCell hb (by go_keep), keepCell hb (by go_keep), keepCell hb (by go_keep), keepCell hb (by go_keep)⟩)
           (first | have hq := Lib.hid (hq.out.trans (hb.mono hq.out.size)) | have hq := Lib.hid (hq.out.drew.trans (hb.mono hq.out.size)))))
  all_goals go_wp2
  all_goals go_ret
  all_goals exact ⟨rfl, hq.out⟩


theorem own : ownKnob Try.prog.godebug = none := by kernel_rfl

set_option maxRecDepth 100000 in
theorem lifted (os : Os) (started : os.Started) (H : Type) (enc : TypeId × Value → H) :
    ReturnsInHanded {} Try.checked os 4 .any (Rows.ptrTellsSpec.pre6 enc Try.prog Try.f4 Rows.ptrTellsRow.domain false) (Rows.ptrTellsSpec.post enc Try.prog Try.f4 false true false false) := by
  refine returnsInHanded_of_change_sized (C := Try.checked) own started (by kernel_rfl) Try.func4
    (ChangeSpec.witness6 (enc := enc) (C := Try.checked) false ⟨#[], #[.agg #[.int .i64 0, .int .u64 0, .int .u32 0], .agg #[.int .i64 0, .int .u64 0, .int .u32 0], .int .u64 0], []⟩ 8 (by kernel_rfl) (by kernel_rfl) (by kernel_rfl) (by kernel_rfl)) ?_
  intro W base args ds gs before hval0 hW hcnd hsz0 _
  have hval : ∀ (j : Nat) t v, Try.f4.params[j]? = some t → args[j]? = some v → Value.okWide Try.prog W .any base t v := hval0
  have hsz : (DataW.weightsEach Try.prog (Try.f4.params.toList ++ Rows.ptrTellsSpec.plain.varTypes Try.prog) (ds ++ gs)).all (· ≤ reachBytes) = true := hsz0
  have hW' := hW
  obtain ⟨p, q, hA0, hV, rfl, hfz, hnd⟩ := hW
  have hA : DataW.TrodAll enc Try.prog W 0 (fun _ => true) true Try.f4.params.toList args.toList ds p := hA0
  rw [Try.params4] at hA hval hsz
  obtain ⟨v0, vs0, d0, ds0, p0, q0, hargs, rfl, rfl, h0, r0⟩ := trodAll_cons hA
  obtain ⟨v1, vs1, d1, ds1, p1, q1, rfl, rfl, rfl, h1, r1⟩ := trodAll_cons r0
  obtain ⟨v2, vs2, d2, ds2, p2, q2, rfl, rfl, rfl, h2, r2⟩ := trodAll_cons r1
  obtain ⟨rfl, rfl, rfl⟩ := trodAll_nil r2
  obtain rfl : args = #[v0, v1, v2] := by cases args; simp_all
  obtain ⟨rfl, rfl⟩ := trodVars_none hV
  obtain ⟨a0, rfl, rfl, rfl, wf0⟩ := open_ptr (hval 0 26 v0 rfl rfl) h0
  obtain ⟨a1, rfl, rfl, rfl, wf1⟩ := open_ptr (hval 1 26 v1 rfl rfl) h1
  obtain ⟨z2, rfl, rfl, rfl, wf2⟩ := open_int Try.underlying23 (hval 2 23 v2 rfl rfl) h2
  obtain ⟨a2, rfl, b2⟩ := nat_u64 wf2
  clear hA0 hval0 hsz0
  refine (walk a0 a1 a2 W wf0 wf1 b2).mono fun e W' ⟨he, bel⟩ => ?_
  subst he
  exact ⟨_, rfl, _, _, _, [], _, [], hW', trodAll_mk1 (shut_bool Try.underlying4 _), (trodAll_cons_mk (shut_ptr wf0) (trodAll_cons_mk (shut_ptr wf1) (trodAll_cons_mk (shut_int Try.underlying23 wf2) trodAll_mk0))), rfl, bel.frame _, fun h => by cases h⟩

theorem proved : Rows.PtrTellsSaid :=
  OpenClaim.holds_of_wide 4 Try.f4 rfl rfl rfl rfl rfl rfl rfl ⟨rfl, rfl, rfl, rfl, rfl⟩ rfl rfl rfl rfl rfl (by kernel_rfl) Try.func4 (by kernel_rfl)
    (of_decide_eq_true (by kernel_rfl)) (by unfold Func.isWrapper; first | (rw [if_pos (by decide +kernel)]; kernel_rfl) | (rw [if_neg (by decide +kernel)]; exact ⟨rfl, rfl⟩))
    (fun os started H enc _ => lifted os started H enc)
end Go.Proofs.Ytlkfmifjfcjcoaa.lawPtrTells
