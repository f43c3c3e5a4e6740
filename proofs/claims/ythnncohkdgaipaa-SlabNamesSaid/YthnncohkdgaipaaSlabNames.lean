/- SlabNames, for every input: the law returns true and each argument reads behind the call as before. No condition. -/
import Derived.Test.YthnncohkdgaipaaSlabI
namespace Go.Proofs.Ythnncohkdgaipaa.lawSlabNames
open Go.ChangeShapes Go.WideShapes Go.ChangeAt Go.RowKit Go.Deep
set_option linter.unusedVariables false
set_option maxRecDepth 20000

theorem none64 : ∀ j, j < 1024 → newS 64 j ≠ 2 := by
  intro j _ h
  unfold newS at h
  split at h <;> omega

set_option maxHeartbeats 2000000 in
theorem walk (w : World) : Calls Try.prog 3 #[] w fun e w' => e = .returned (.bool true) ∧ Below w.heap.size w w' := by
  have h3 : setS (newS 64) 2 = [] := setS_none none64
  have hN : ∀ (z : Int) (n : Nat), countN (newS z) = n → ∀ (h : I64 z) w, ∃ f, countN f = n ∧ Calls Try.prog 9 #[.int .i64 z] w fun e w' => e = .returned (.pointer (some ⟨w.heap.size, 0, none⟩)) ∧ MapAt w' w.heap.size f ∧ Below w.heap.size w w' :=
    fun z n hc h w => ⟨newS z, hc, New_map z w h⟩
  have h64 : ∀ w, ∃ f, setS f 2 = [] ∧ Calls Try.prog 9 #[.int .i64 64] w fun e w' => e = .returned (.pointer (some ⟨w.heap.size, 0, none⟩)) ∧ MapAt w' w.heap.size f ∧ Below w.heap.size w w' :=
    fun w => ⟨newS 64, h3, New_map 64 w (by unfold I64; omega)⟩
  have hN1 := Lib.hid (hN 5000 1020 names1 (by unfold I64; omega))
  have hN2 := Lib.hid (hN 3 0 names2 (by unfold I64; omega))
  have h64 := Lib.hid h64
  clear h3 hN
  go_enter Try.func3, Try.ntmps3
  go_wp2_with fail
  refine (slabAlive_any w).mono ?_
  rintro e w1 ⟨rfl, b1⟩
  have s1 := b1.size
  have b1 := Lib.hid b1
  go_wp2_with fail
  obtain ⟨f, hc, hcall⟩ := hN1.out w1
  have hc := Lib.hid hc
  refine hcall.mono ?_
  rintro e w2 ⟨rfl, m2, b2⟩
  have s2 := b2.size
  have m2 := Lib.hid m2
  have b2 : Hid (Below w.heap.size w w2) := Lib.hid (b1.out.trans (b2.mono s1))
  clear hcall
  go_wp2_with fail
  refine (Count_map _ _ w2 m2.out).mono ?_
  rintro e w3 ⟨rfl, rfl⟩
  rw [hc.out]
  go_wp2_with fail
  obtain ⟨f', hc', hcall⟩ := hN2.out w3
  have hc' := Lib.hid hc'
  refine hcall.mono ?_
  rintro e w4 ⟨rfl, m4, b4⟩
  have s4 := b4.size
  have m4 := Lib.hid m4
  have b4 : Hid (Below w.heap.size w w4) := Lib.hid (b2.out.trans (b4.mono (by omega)))
  clear hcall
  go_wp2_with fail
  refine (Count_map _ _ w4 m4.out).mono ?_
  rintro e w5 ⟨rfl, rfl⟩
  rw [hc'.out]
  go_wp2_with fail
  obtain ⟨f6, hc6, hcall⟩ := h64.out w5
  have hc6 := Lib.hid hc6
  refine hcall.mono ?_
  rintro e w6 ⟨rfl, m6, b6⟩
  have s6 := b6.size
  have m6 := Lib.hid m6
  have b6 : Hid (Below w.heap.size w w6) := Lib.hid (b4.out.trans (b6.mono (by omega)))
  clear hcall
  go_wp2_with fail
  refine (Taken_set _ _ w6 m6.out).mono ?_
  rintro e w7 ⟨ao, cap, rfl, hs7, _, b7⟩
  rw [hc6.out]
  have b7 : Hid (Below w.heap.size w w7) := Lib.hid (b6.out.trans (b7.mono (by omega)))
  clear hs7
  go_wp2
  go_ret
  exact ⟨rfl, b7.out⟩

theorem own : ownKnob Try.prog.godebug = none := by kernel_rfl

set_option maxRecDepth 100000 in
theorem lifted (os : Os) (started : os.Started) (H : Type) (enc : TypeId × Value → H) :
    ReturnsInHanded {} Try.checked os 3 .any (Rows.slabNamesSpec.pre6 enc Try.prog Try.f3 Rows.slabNamesRow.domain false) (Rows.slabNamesSpec.post enc Try.prog Try.f3 false true false false) := by
  refine returnsInHanded_of_change_sized (C := Try.checked) own started (by kernel_rfl) Try.func3
    (ChangeSpec.witness6 (enc := enc) (C := Try.checked) false ⟨#[], #[], []⟩ 8 (by kernel_rfl) (by kernel_rfl) (by kernel_rfl) (by kernel_rfl)) ?_
  intro W base args ds gs before hval0 hW hcnd hsz0 _
  have hval : ∀ (j : Nat) t v, Try.f3.params[j]? = some t → args[j]? = some v → Value.okWide Try.prog W .any base t v := hval0
  have hsz : (DataW.weightsEach Try.prog (Try.f3.params.toList ++ Rows.slabNamesSpec.plain.varTypes Try.prog) (ds ++ gs)).all (· ≤ reachBytes) = true := hsz0
  have hW' := hW
  obtain ⟨p, q, hA0, hV, rfl, hfz, hnd⟩ := hW
  have hA : DataW.TrodAll enc Try.prog W 0 (fun _ => true) true Try.f3.params.toList args.toList ds p := hA0
  rw [Try.params3] at hA hval hsz
  obtain ⟨rfl, rfl, rfl⟩ := trodAll_none hA
  obtain ⟨rfl, rfl⟩ := trodVars_none hV
  clear hA0 hval0 hsz0
  refine (walk  W ).mono fun e W' ⟨he, bel⟩ => ?_
  subst he
  exact ⟨_, rfl, _, _, _, [], _, [], hW', trodAll_mk1 (shut_bool Try.underlying4 _), trodAll_mk0, rfl, bel.frame _, fun h => by cases h⟩

theorem proved : Rows.SlabNamesSaid :=
  OpenClaim.holds_of_wide 3 Try.f3 rfl rfl rfl rfl rfl rfl rfl ⟨rfl, rfl, rfl, rfl, rfl⟩ rfl rfl rfl rfl rfl (by kernel_rfl) Try.func3 (by kernel_rfl)
    (of_decide_eq_true (by kernel_rfl)) (by unfold Func.isWrapper; first | (rw [if_pos (by decide +kernel)]; kernel_rfl) | (rw [if_neg (by decide +kernel)]; exact ⟨rfl, rfl⟩))
    (fun os started H enc _ => lifted os started H enc)
end Go.Proofs.Ythnncohkdgaipaa.lawSlabNames
