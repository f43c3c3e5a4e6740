/- The chapter's example holds; how arguments read here; a copy of an argument. -/
import Derived.Test.YtkapdagmffbbhaaFieldK
import Derived.Test.YtkapdagmffbbhaaArgs
import Derived.Lib.SlBytesConst
namespace Go.Proofs.Ytkapdagmffbbhaa
open Go.ChangeShapes Go.WideShapes Go.ChangeAt Go.RowKit Go.Deep
set_option linter.unusedVariables false
set_option maxRecDepth 20000

theorem infoInt : (Try.prog.info? 3).map (fun i => (i.zero, i.size, i.bytes)) = some (some (.int .i64 0), 1, 8) := by kernel_rfl

section
variable {H : Type} {enc : TypeId × Value → H} {W : World} {base : Nat} {v : Value} {d : DataW H} {p : List MemPlace}
theorem arg_ints (h : DataW.Trod enc Try.prog W 0 (fun _ => true) true 57 v d p) (hv : Value.okWide Try.prog W .any base 57 v)
    (hw : ∀ es sp, d = .slice es sp → (es.length + sp.length) * Try.prog.bytesOf 3 ≤ reachBytes) : ∃ (ao : Option Addr) (zs : List Int) (cap : Nat), v = .slice ao zs.length cap ∧ Ints W ao zs ∧ I64s zs ∧ (ao = none → cap = 0) := by
  obtain ⟨ao, zs, cap, rfl, hr, hwf, hl, hm, hb, hn⟩ := argK Try.underlying57 Try.underlying3 (by kernel_rfl) h hv hw
  rw [show Try.prog.bytesOf 3 = 8 from by kernel_rfl] at hb
  exact ⟨ao, zs, cap, rfl, hr, ⟨fun z hz => wf_i64 (hwf z hz), by omega⟩, hn⟩
theorem arg_u64s (h : DataW.Trod enc Try.prog W 0 (fun _ => true) true 61 v d p) (hv : Value.okWide Try.prog W .any base 61 v)
    (hw : ∀ es sp, d = .slice es sp → (es.length + sp.length) * Try.prog.bytesOf 27 ≤ reachBytes) : ∃ (ao : Option Addr) (zs : List Nat) (cap : Nat), v = .slice ao zs.length cap ∧ U64s W ao zs ∧ Fit64 zs ∧ (ao = none → cap = 0) := by
  obtain ⟨ao, zs, cap, rfl, hr, hwf, hl, hm, hb, hn⟩ := argK Try.underlying61 Try.underlying27 (by kernel_rfl) h hv hw
  rw [show Try.prog.bytesOf 27 = 8 from by kernel_rfl] at hb
  refine ⟨ao, zs.map Int.toNat, cap, by simp, ?_, ⟨fun z hz => ?_, by simp; omega⟩, hn⟩
  · unfold U64s
    rw [show u64V (zs.map Int.toNat) = zs.map (.int .u64) from ?_]
    · exact hr
    · unfold u64V
      rw [List.map_map]
      refine List.map_congr_left fun z hz => ?_
      have := wf_u64 (hwf z hz)
      simp only [Function.comp_apply]
      congr 1
      omega
  · simp only [List.mem_map] at hz
    obtain ⟨y, hy, rfl⟩ := hz
    have := wf_u64 (hwf y hy)
    omega
end

/-- what a Put answers, opened -/
theorem PutRes.out {o : Option (List UInt8)} {w w' : World} {e : Ending} (h : PutRes o w e w') : ∃ (ao : Option Addr) (cap : Nat), e = .returned (.tuple #[.slice ao (o.getD []).length cap, .int .i64 (errN o)]) ∧ Hid (Bytes w' ao (o.getD [])) ∧ (o.getD []).length ≤ cap ∧ cap ≤ 9223372036854775807 ∧ Hid (ao = none → cap = 0) ∧ Below w.heap.size w w' := by
  obtain ⟨v, rfl, ho, hb⟩ := h
  obtain ⟨ao, cap, rfl, h1, h2, h3, h4, _, _⟩ := ho.shape
  rw [bytesV_length] at h1 ⊢
  exact ⟨ao, cap, rfl, h4, h1, by simpa [maxLen] using h2, h3, hb⟩
theorem GetRes.out {o : Option (List Nat)} {w w' : World} {e : Ending} (h : GetRes o w e w') : ∃ (ao : Option Addr) (cap : Nat), e = .returned (.tuple #[.slice ao (o.getD []).length cap, .int .i64 (errN o)]) ∧ Hid (U64s w' ao (o.getD [])) ∧ (o.getD []).length ≤ cap ∧ cap ≤ 9223372036854775807 ∧ Hid (ao = none → cap = 0) ∧ Below w.heap.size w w' := by
  obtain ⟨v, rfl, ho, hb⟩ := h
  obtain ⟨ao, cap, rfl, h1, h2, h3, h4, _, _⟩ := ho.shape
  rw [u64V_length] at h1 ⊢
  exact ⟨ao, cap, rfl, h4, h1, by simpa [maxLen] using h2, h3, hb⟩
theorem SplitRes.out {o : Option (List (List UInt8))} {w w' : World} {e : Ending} (h : SplitRes o w e w') : ∃ (ao : Option Addr) (cap : Nat), e = .returned (.tuple #[.slice ao (o.getD []).length cap, .int .i64 (errN o)]) ∧ Hid (Texts w' ao (o.getD [])) ∧ (o.getD []).length ≤ cap ∧ Hid (ao = none → cap = 0) ∧ Below w.heap.size w w' := by
  obtain ⟨v, rfl, ho, hb⟩ := h
  obtain ⟨ao, cap, rfl, h1, h2, h3⟩ := ho.shape
  exact ⟨ao, cap, rfl, h3, h1, h2, hb⟩

theorem splitT_length {k : Nat} {b : List UInt8} {ts : List (List UInt8)} (h : splitT k b = some ts) : ts.length = k := by
  induction k generalizing b ts with
  | zero => simp only [splitT] at h; split at h <;> simp at h; subst h; rfl
  | succ k ih =>
    simp only [splitT] at h
    split at h
    · cases e : splitT k ((b.drop 2).drop (valB (b.take 2))) with
      | none => rw [e] at h; cases h
      | some r => rw [e] at h; simp at h; subst h; simp [ih e]
    · cases h
theorem splitL_length {b : List UInt8} : ((splitL b).getD []).length ≤ 65535 := by
  cases e : splitL b with
  | none => simp
  | some ts =>
    unfold splitL at e
    split at e
    · rename_i h
      have := splitT_length e
      have := valB_lt_16 (b.take 2) (by simp; omega)
      simp; omega
    · cases e
end Go.Proofs.Ytkapdagmffbbhaa
