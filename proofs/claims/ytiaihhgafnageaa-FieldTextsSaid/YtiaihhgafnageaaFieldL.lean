/- The chapter's example holds; how arguments read here; a copy of an argument. -/
import Derived.Test.YtiaihhgafnageaaFieldK
import Derived.Test.YtiaihhgafnageaaArgs
import Derived.Lib.SlBytesConst
namespace Go.Proofs.Ytiaihhgafnageaa
open Go.ChangeShapes Go.WideShapes Go.ChangeAt Go.RowKit Go.Deep
set_option linter.unusedVariables false

theorem infoInt : (Try.prog.info? 3).map (fun i => (i.zero, i.size, i.bytes)) = some (some (.int .i64 0), 1, 8) := by kernel_rfl

section
variable {H : Type} {enc : TypeId × Value → H} {W : World} {base : Nat} {v : Value} {d : DataW H} {p : List MemPlace}
theorem arg_ints (h : DataW.Trod enc Try.prog W 0 (fun _ => true) true 28 v d p) (hv : Value.okWide Try.prog W .any base 28 v)
    (hw : ∀ es sp, d = .slice es sp → (es.length + sp.length) * Try.prog.bytesOf 3 ≤ reachBytes) : ∃ (ao : Option Addr) (zs : List Int) (cap : Nat), v = .slice ao zs.length cap ∧ Ints W ao zs ∧ I64s zs ∧ (ao = none → cap = 0) := by
  obtain ⟨ao, zs, cap, rfl, hr, hwf, hl, hm, hb, hn⟩ := argK Try.underlying28 Try.underlying3 (by kernel_rfl) h hv hw
  rw [show Try.prog.bytesOf 3 = 8 from by kernel_rfl] at hb
  exact ⟨ao, zs, cap, rfl, hr, ⟨fun z hz => wf_i64 (hwf z hz), by omega⟩, hn⟩
theorem arg_u64s (h : DataW.Trod enc Try.prog W 0 (fun _ => true) true 22 v d p) (hv : Value.okWide Try.prog W .any base 22 v)
    (hw : ∀ es sp, d = .slice es sp → (es.length + sp.length) * Try.prog.bytesOf 52 ≤ reachBytes) : ∃ (ao : Option Addr) (zs : List Nat) (cap : Nat), v = .slice ao zs.length cap ∧ U64s W ao zs ∧ Fit64 zs ∧ (ao = none → cap = 0) := by
  obtain ⟨ao, zs, cap, rfl, hr, hwf, hl, hm, hb, hn⟩ := argK Try.underlying22 Try.underlying52 (by kernel_rfl) h hv hw
  rw [show Try.prog.bytesOf 52 = 8 from by kernel_rfl] at hb
  refine ⟨ao, zs.map Int.toNat, cap, by simp, ?_, ⟨fun z hz => ?_, by simp; omega⟩, hn⟩
  · unfold U64s
    rw [show u64V (zs.map Int.toNat) = zs.map (.int .u64) from ?_]
    · exact hr
    · unfold u64V
      rw [List.map_map]
      refine List.map_congr_left fun z hz => ?_
      have := wf_u64 (hwf z hz)
      simp only [Function.comp_apply]
      congr 1
      omega
  · simp only [List.mem_map] at hz
    obtain ⟨y, hy, rfl⟩ := hz
    have := wf_u64 (hwf y hy)
    omega
theorem arg_bytes (h : DataW.Trod enc Try.prog W 0 (fun _ => true) true 26 v d p) (hv : Value.okWide Try.prog W .any base 26 v)
    (hw : ∀ es sp, d = .slice es sp → (es.length + sp.length) * Try.prog.bytesOf 5 ≤ reachBytes) : ∃ (ao : Option Addr) (bs : List UInt8) (cap : Nat), v = .slice ao bs.length cap ∧ Bytes W ao bs ∧ (bs.length ≤ cap ∧ cap ≤ 140737488351232) ∧ (ao = none → cap = 0) := by
  obtain ⟨ao, bs, cap, h1, h2, h3, h4, h5⟩ := argBytes Try.underlying26 Try.underlying5 (by kernel_rfl) (by kernel_rfl) h hv hw
  exact ⟨ao, bs, cap, h1, h2, ⟨h3, h4⟩, h5⟩
theorem arg_texts (h : DataW.Trod enc Try.prog W 0 (fun _ => true) true 38 v d p) (hv : Value.okWide Try.prog W .any base 38 v)
    (hw : ∀ es sp, d = .slice es sp → (es.length + sp.length) * Try.prog.bytesOf 26 ≤ reachBytes) : ∃ (ao : Option Addr) (ts : List (List UInt8)) (cap : Nat), v = .slice ao ts.length cap ∧ Texts W ao ts ∧ (ts.length ≤ cap ∧ cap * 24 ≤ 140737488351232) ∧ (ao = none → cap = 0) := by
  obtain ⟨ao, ts, cap, h1, h2, h3, h4, h5⟩ := argTexts Try.underlying38 Try.underlying26 Try.underlying5 (by kernel_rfl) (by kernel_rfl) (by kernel_rfl) h hv hw
  exact ⟨ao, ts, cap, h1, h5, ⟨h2, h3⟩, h4⟩
end

theorem Reads.lit (w : World) (cur : Array Value) (e : TypeId) (fr : Nat × Nat := (0, 0)) : Reads (w.alloc (.cells cur e fr)) (some ⟨w.heap.size, 0, none⟩) cur.toList := by
  intro i hi
  refine ⟨w.heap.size, 0, rfl, ?_⟩
  have hi' : i < cur.size := by simpa using hi
  rw [cell_of_row (w.alloc (.cells cur e fr)) w.heap.size (0 + i) cur e fr (heap_alloc_new w _)]
  simp [hi']

theorem str_at {w : World} {ao : Option Addr} {bs : List UInt8} (n cap : Nat) (h : Bytes w ao bs) (hn : bs.length = n) : (convert 26 9 (.slice ao n cap)).run Try.prog w = .ok (.string (strOf bs)) w := by
  subst hn
  exact run_str 26 9 5 Try.underlying26 Try.underlying5 Try.underlying9 cap h

set_option maxHeartbeats 2000000 in
theorem alive_any (w : World) : Calls Try.prog 11 #[] w fun e w' => e = .returned (.bool true) ∧ Below w.heap.size w w' := by
  have hb0 := Lib.hid (((Below.refl w.heap.size w).alloc (Nat.le_refl _) (.cells #[.int .i64 2] 3)).alloc (by simp) (.cells #[.int .u64 258] 52))
  have hR0 : Ints ((w.alloc (.cells #[.int .i64 2] 3)).alloc (.cells #[.int .u64 258] 52)) (some ⟨w.heap.size, 0, none⟩) [2] := Reads.alloc (Reads.lit w #[.int .i64 2] 3) _
  have hR1 : U64s ((w.alloc (.cells #[.int .i64 2] 3)).alloc (.cells #[.int .u64 258] 52)) (some ⟨w.heap.size + 1, 0, none⟩) [258] := by
    have := Reads.lit (w.alloc (.cells #[.int .i64 2] 3)) #[.int .u64 258] 52
    simpa [U64s, u64V] using this
  have hR0 := Lib.hid hR0
  have hR1 := Lib.hid hR1
  have hcv : ∀ w : World, (convert 26 26 (.slice (some ⟨w.heap.size, 0, none⟩) 2 2)).run Try.prog (w.alloc (.cells #[.int .u8 97, .int .u8 98] 5)) = .ok (.slice (some ⟨w.heap.size, 0, none⟩) 2 2) (w.alloc (.cells #[.int .u8 97, .int .u8 98] 5 (2, 3))) := fun w => Lib.run_convert_bytes_const w 26 5 #[.int .u8 97, .int .u8 98] 2 2 Try.underlying26 Try.underlying5
  go_enter Try.func11, Try.ntmps11
  go_wp2_with fail
  refine (Put_any _ _ 1 1 [2] [258] _ hR0.out hR1.out ⟨by simp [I64], by simp⟩ ⟨by simp, by simp⟩).mono ?_
  rintro e w1 ⟨v1, he, ho1, hb1⟩
  have e1 : e = .returned (.tuple #[v1, .int .i64 0]) := he
  subst e1
  clear he
  obtain ⟨ao, cc, rfl, hcc, hcm, hcn, hr1, _, _⟩ := ho1.shape
  have hs1 : Hid (Bytes w1 ao [2, 1]) := Lib.hid hr1
  have hb1' := Lib.hid (hb0.out.trans (hb1.mono (by simp; omega)))
  rw [show (bytesV ((putL [2] [258]).getD [])).length = 2 from rfl]
  clear ho1 hr1 hb1 hcc hcm hcn hR0 hR1 hb0
  have hsz1 := hb1'.out.size
  have hb2 := Lib.hid ((hb1'.out.alloc hsz1 (.cells #[.int .u8 97, .int .u8 98] 5 (2, 3))).alloc (by simp; omega) (.cells #[.slice (some ⟨w1.heap.size, 0, none⟩) 2 2] 26))
  have hT : Hid (Texts ((w1.alloc (.cells #[.int .u8 97, .int .u8 98] 5 (2, 3))).alloc (.cells #[.slice (some ⟨w1.heap.size, 0, none⟩) 2 2] 26)) (some ⟨w1.heap.size + 1, 0, none⟩) [[97, 98]]) := Lib.hid (by
    refine ⟨[.slice (some ⟨w1.heap.size, 0, none⟩) 2 2], rfl, by simpa using Reads.lit (w1.alloc (.cells #[.int .u8 97, .int .u8 98] 5 (2, 3))) #[.slice (some ⟨w1.heap.size, 0, none⟩) 2 2] 26, fun i hi => ?_⟩
    obtain rfl : i = 0 := by simp at hi; omega
    refine ⟨_, 2, rfl, Nat.le_refl _, by decide, (fun h => by cases h), ?_⟩
    exact Reads.alloc (Reads.lit w1 #[.int .u8 97, .int .u8 98] 5 (2, 3)) _)
  go_wp2_with fail
  refine (Join_any _ 1 [[97, 98]] _ hT.out (by simp)).mono ?_
  rintro e w2 ⟨v2, he, ho2, hb3⟩
  have e2 : e = .returned (.tuple #[v2, .int .i64 0]) := he
  subst e2
  clear he
  obtain ⟨bo, cc2, rfl, hcc, hcm, hcn, hr2, _, _⟩ := ho2.shape
  have q2 : (convert 26 9 (.slice bo 6 cc2)).run Try.prog w2 = .ok (.string { data := #[1, 0, 2, 0, 97, 98] }) w2 := str_at (bs := [1, 0, 2, 0, 97, 98]) 6 cc2 hr2 rfl
  have hs2 := Reads.below (Reads.alloc (Reads.alloc hs1.out (.cells #[.int .u8 97, .int .u8 98] 5 (2, 3))) (.cells #[.slice (some ⟨w1.heap.size, 0, none⟩) 2 2] 26)) hb3
  have q1 : (convert 26 9 (.slice ao 2 cc)).run Try.prog w2 = .ok (.string { data := #[2, 1] }) w2 := str_at (bs := [2, 1]) 2 cc hs2 rfl
  have hb4 := Lib.hid (hb2.out.trans (hb3.mono hb2.out.size))
  rw [show (bytesV ((joinL [[97, 98]]).getD [])).length = 6 from rfl]
  clear ho2 hr2 hb3 hcc hcm hcn hT hb2 hs2
  go_wp2
  go_ret
  exact ⟨rfl, hb4.out⟩

/-- what a Put answers, opened -/
theorem PutRes.out {o : Option (List UInt8)} {w w' : World} {e : Ending} (h : PutRes o w e w') : ∃ (ao : Option Addr) (cap : Nat), e = .returned (.tuple #[.slice ao (o.getD []).length cap, .int .i64 (errN o)]) ∧ Hid (Bytes w' ao (o.getD [])) ∧ (o.getD []).length ≤ cap ∧ cap ≤ 9223372036854775807 ∧ Hid (ao = none → cap = 0) ∧ Below w.heap.size w w' := by
  obtain ⟨v, rfl, ho, hb⟩ := h
  obtain ⟨ao, cap, rfl, h1, h2, h3, h4, _, _⟩ := ho.shape
  rw [bytesV_length] at h1 ⊢
  exact ⟨ao, cap, rfl, h4, h1, by simpa [maxLen] using h2, h3, hb⟩
theorem GetRes.out {o : Option (List Nat)} {w w' : World} {e : Ending} (h : GetRes o w e w') : ∃ (ao : Option Addr) (cap : Nat), e = .returned (.tuple #[.slice ao (o.getD []).length cap, .int .i64 (errN o)]) ∧ Hid (U64s w' ao (o.getD [])) ∧ (o.getD []).length ≤ cap ∧ cap ≤ 9223372036854775807 ∧ Hid (ao = none → cap = 0) ∧ Below w.heap.size w w' := by
  obtain ⟨v, rfl, ho, hb⟩ := h
  obtain ⟨ao, cap, rfl, h1, h2, h3, h4, _, _⟩ := ho.shape
  rw [u64V_length] at h1 ⊢
  exact ⟨ao, cap, rfl, h4, h1, by simpa [maxLen] using h2, h3, hb⟩
theorem SplitRes.out {o : Option (List (List UInt8))} {w w' : World} {e : Ending} (h : SplitRes o w e w') : ∃ (ao : Option Addr) (cap : Nat), e = .returned (.tuple #[.slice ao (o.getD []).length cap, .int .i64 (errN o)]) ∧ Hid (Texts w' ao (o.getD [])) ∧ (o.getD []).length ≤ cap ∧ Hid (ao = none → cap = 0) ∧ Below w.heap.size w w' := by
  obtain ⟨v, rfl, ho, hb⟩ := h
  obtain ⟨ao, cap, rfl, h1, h2, h3⟩ := ho.shape
  exact ⟨ao, cap, rfl, h3, h1, h2, hb⟩

theorem splitT_length {k : Nat} {b : List UInt8} {ts : List (List UInt8)} (h : splitT k b = some ts) : ts.length = k := by
  induction k generalizing b ts with
  | zero => simp only [splitT] at h; split at h <;> simp at h; subst h; rfl
  | succ k ih =>
    simp only [splitT] at h
    split at h
    · cases e : splitT k ((b.drop 2).drop (valB (b.take 2))) with
      | none => rw [e] at h; cases h
      | some r => rw [e] at h; simp at h; subst h; simp [ih e]
    · cases h
theorem splitL_length {b : List UInt8} : ((splitL b).getD []).length ≤ 65535 := by
  cases e : splitL b with
  | none => simp
  | some ts =>
    unfold splitL at e
    split at e
    · rename_i h
      have := splitT_length e
      have := valB_lt_16 (b.take 2) (by simp; omega)
      simp; omega
    · cases e
end Go.Proofs.Ytiaihhgafnageaa
