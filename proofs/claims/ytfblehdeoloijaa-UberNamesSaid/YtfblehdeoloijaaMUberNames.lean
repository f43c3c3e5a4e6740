/- UberNames, for every input: the law returns true and each argument reads behind the call as before. No condition. -/
import Derived.Test.YtfblehdeoloijaaGUberB
namespace Go.Proofs.Ytfblehdeoloijaa.lawUberNames
open Go.ChangeShapes Go.WideShapes Go.ChangeAt Go.RowKit Go.Deep
set_option linter.unusedVariables false
set_option maxRecDepth 20000

set_option maxHeartbeats 1000000 in
theorem walk (w : World) : Calls Try.prog 3 #[] w fun e w' => e = .returned (.bool true) ∧ Below w.heap.size w w' := by
  have hBest : Hid (∀ (W : World) (d : Nat) (F : Nat → Prop), IsDev W d F (DevM.fresh (DevM.newLen 4)) → Calls Try.prog 9 #[.pointer (some ⟨d, 0, none⟩)] W fun e w' => e = .returned (.tuple #[.agg #[.int .u64 0, .int .u64 0, .int .i64 0, .int .u64 0, .int .u32 0, .int .i64 0, .int .i64 0], .bool false]) ∧ Turned W d F ((DevM.fresh (DevM.newLen 4)).ticks 4) w') := Lib.hid (fun W d F h => by
    have := oBest h
    rw [fresh_best] at this
    exact this)
  go_enter Try.func3, Try.ntmps3
  go_wp2_with fail
  refine (New_D0 4 (by unfold I64; omega) w).mono ?_
  rintro e w1 ⟨d, F, rfl, h1⟩
  have h1 := Lib.hid h1
  go_wp2_with fail
  refine (hBest.out _ _ _ h1.out.dev).mono ?_
  rintro e w2 ⟨rfl, T⟩
  obtain ⟨F2, h2, _, _⟩ := h1.out.turn T
  have h2 := Lib.hid h2
  clear T
  go_wp2_with fail
  refine (uberAlive_any _).mono ?_
  rintro e w3 ⟨rfl, hb⟩
  have q3 : Hid (Below w.heap.size w w3) := Lib.hid ((h2.out.alloc _).q.trans (hb.mono (h2.out.alloc _).q.size))
  clear hb
  go_wp2
  go_ret
  exact ⟨rfl, q3.out⟩

theorem own : ownKnob Try.prog.godebug = none := by kernel_rfl

set_option maxRecDepth 100000 in
theorem lifted (os : Os) (started : os.Started) (H : Type) (enc : TypeId × Value → H) :
    ReturnsInHanded {} Try.checked os 3 .any (Rows.uberNamesSpec.pre6 enc Try.prog Try.f3 Rows.uberNamesRow.domain false) (Rows.uberNamesSpec.post enc Try.prog Try.f3 false true false false) := by
  refine returnsInHanded_of_change_sized (C := Try.checked) own started (by kernel_rfl) Try.func3
    (ChangeSpec.witness6 (enc := enc) (C := Try.checked) false ⟨#[], #[], []⟩ 8 (by kernel_rfl) (by kernel_rfl) (by kernel_rfl) (by kernel_rfl)) ?_
  intro W base args ds gs before hval0 hW hcnd hsz0 _
  have hval : ∀ (j : Nat) t v, Try.f3.params[j]? = some t → args[j]? = some v → Value.okWide Try.prog W .any base t v := hval0
  have hsz : (DataW.weightsEach Try.prog (Try.f3.params.toList ++ Rows.uberNamesSpec.plain.varTypes Try.prog) (ds ++ gs)).all (· ≤ reachBytes) = true := hsz0
  have hW' := hW
  obtain ⟨p, q, hA0, hV, rfl, hfz, hnd⟩ := hW
  have hA : DataW.TrodAll enc Try.prog W 0 (fun _ => true) true Try.f3.params.toList args.toList ds p := hA0
  rw [Try.params3] at hA hval hsz
  obtain ⟨rfl, rfl, rfl⟩ := trodAll_none hA
  obtain ⟨rfl, rfl⟩ := trodVars_none hV
  clear hA0 hval0 hsz0
  refine (walk  W ).mono fun e W' ⟨he, bel⟩ => ?_
  subst he
  exact ⟨_, rfl, _, _, _, [], _, [], hW', trodAll_mk1 (shut_bool Try.underlying4 _), trodAll_mk0, rfl, bel.frame _, fun h => by cases h⟩

theorem proved : Rows.UberNamesSaid :=
  OpenClaim.holds_of_wide 3 Try.f3 rfl rfl rfl rfl rfl rfl rfl ⟨rfl, rfl, rfl, rfl, rfl⟩ rfl rfl rfl rfl rfl (by kernel_rfl) Try.func3 (by kernel_rfl)
    (of_decide_eq_true (by kernel_rfl)) (by unfold Func.isWrapper; first | (rw [if_pos (by decide +kernel)]; kernel_rfl) | (rw [if_neg (by decide +kernel)]; exact ⟨rfl, rfl⟩))
    (fun os started H enc _ => lifted os started H enc)
end Go.Proofs.Ytfblehdeoloijaa.lawUberNames
