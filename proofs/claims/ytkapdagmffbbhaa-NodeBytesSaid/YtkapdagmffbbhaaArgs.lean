/- How arguments read: slices of numbers, bytes, and texts; whatever the types' numbers are. -/
import Derived.Test.YtkapdagmffbbhaaRows
import Derived.Test.YtkapdagmffbbhaaNum
import Derived.Deep.Matrix
import Derived.SizedLaws
import Derived.Carry
namespace Go.Proofs.Ytkapdagmffbbhaa
open Go.ChangeShapes Go.WideShapes Go.ChangeAt Go.RowKit Go.Deep
set_option linter.unusedVariables false
set_option maxRecDepth 20000

theorem wf_i64 {z : Int} (h : (Lit.int .i64 z).wf = true) : I64 z := by
  simpa [Lit.wf, IntKind.min, IntKind.max, IntKind.signed, IntKind.bits, I64] using h
theorem wf_u64 {z : Int} (h : (Lit.int .u64 z).wf = true) : 0 ≤ z ∧ z < 18446744073709551616 := by
  have := bounds_u64 h; omega
theorem nat_u8 {z : Int} (h : (Lit.int .u8 z).wf = true) : ∃ n : Nat, z = (n : Int) ∧ n < 256 := ⟨z.toNat, by have := bounds_u8 h; omega, by have := bounds_u8 h; omega⟩
theorem nat_u32 {z : Int} (h : (Lit.int .u32 z).wf = true) : ∃ n : Nat, z = (n : Int) ∧ n < 4294967296 := by
  have h1 : 0 ≤ z ∧ z < 4294967296 := by
    simp [Lit.wf, IntKind.min, IntKind.max, IntKind.signed, IntKind.bits] at h; omega
  exact ⟨z.toNat, by omega, by omega⟩
theorem nat_u64 {z : Int} (h : (Lit.int .u64 z).wf = true) : ∃ n : Nat, z = (n : Int) ∧ n < 18446744073709551616 := ⟨z.toNat, by have := bounds_u64 h; omega, by have := bounds_u64 h; omega⟩
theorem wf_u8 {z : Int} (h : (Lit.int .u8 z).wf = true) : 0 ≤ z ∧ z < 256 := by
  have := bounds_u8 h; omega

section
variable {H : Type} {enc : TypeId × Value → H} {W : World} {base : Nat} {v : Value} {d : DataW H} {p : List MemPlace} {t e : TypeId} {k : IntKind}

theorem argK (ht : Try.prog.underlying t = some (.slice e)) (he : Try.prog.underlying e = some (.int k)) (hc : Try.prog.cellsOf e = 1)
    (h : DataW.Trod enc Try.prog W 0 (fun _ => true) true t v d p) (hv : Value.okWide Try.prog W .any base t v)
    (hw : ∀ es sp, d = .slice es sp → (es.length + sp.length) * Try.prog.bytesOf e ≤ reachBytes) :
    ∃ (ao : Option Addr) (zs : List Int) (cap : Nat), v = .slice ao zs.length cap ∧ Reads W ao (zs.map (.int k)) ∧ (∀ z ∈ zs, (Lit.int k z).wf = true) ∧ zs.length ≤ cap ∧ cap ≤ maxLen ∧ cap * Try.prog.bytesOf e ≤ 140737488351232 ∧ (ao = none → cap = 0) := by
  obtain ⟨a, len, cap, rfl⟩ := okWide_slice ht hv
  obtain ⟨fuel, hf⟩ := h
  rcases open_ints ht he hc hf with ⟨hcs, _⟩ | ⟨x, l, c, zs, hcs, _, hl, hm, hz, hx, hcell, hwz⟩
  · simp [Value.cells] at hcs
    obtain ⟨rfl, rfl, rfl⟩ := hcs
    exact ⟨none, [], 0, rfl, Reads.nil _ _, (fun q hq => by cases hq), by simp, by simp, by simp, fun _ => rfl⟩
  · simp [Value.cells] at hcs
    obtain ⟨rfl, rfl, rfl⟩ := hcs
    simp only [if_true] at hz
    simp only [Prod.mk.injEq] at hx
    have hwt := hw _ _ hx.1
    simp only [lits, List.length_map, List.length_take, List.length_drop] at hwt
    rw [show min len zs.length + (zs.length - len) = cap from by omega] at hwt
    unfold reachBytes at hwt
    refine ⟨some x, zs.take len, cap, by simp; omega, ?_, fun z hz' => hwz z (List.mem_of_mem_take hz'), by simp; omega, hm, hwt, fun h => by cases h⟩
    intro i hi
    have hi' : i < len := by simp at hi; omega
    have hp : 0 < zs.length := by omega
    obtain ⟨b, off, rfl, hc⟩ := ints_at hcell hp
    refine ⟨b, off, rfl, ?_⟩
    rw [hc i (by omega)]
    simp only [List.getElem_map, List.getElem_take]
    rw [List.getD_eq_getElem?_getD, List.getElem?_eq_getElem (by omega)]
    rfl

/-- a byte of a number in bounds -/
theorem byteV_cell {z : Int} (h : 0 ≤ z ∧ z < 256) : Value.int .u8 z = byteV (UInt8.ofNat z.toNat) := by
  unfold byteV
  congr 1
  simp
  omega

theorem bytesV_of {zs : List Int} (h : ∀ z ∈ zs, (Lit.int .u8 z).wf = true) : zs.map (Value.int .u8) = bytesV (zs.map fun z => UInt8.ofNat z.toNat) := by
  unfold bytesV
  rw [List.map_map]
  exact List.map_congr_left fun z hz => byteV_cell (wf_u8 (h z hz))

theorem argBytes (ht : Try.prog.underlying t = some (.slice e)) (he : Try.prog.underlying e = some (.int .u8)) (hc : Try.prog.cellsOf e = 1) (hb : Try.prog.bytesOf e = 1)
    (h : DataW.Trod enc Try.prog W 0 (fun _ => true) true t v d p) (hv : Value.okWide Try.prog W .any base t v)
    (hw : ∀ es sp, d = .slice es sp → (es.length + sp.length) * Try.prog.bytesOf e ≤ reachBytes) :
    ∃ (ao : Option Addr) (bs : List UInt8) (cap : Nat), v = .slice ao bs.length cap ∧ Bytes W ao bs ∧ bs.length ≤ cap ∧ cap ≤ 140737488351232 ∧ (ao = none → cap = 0) := by
  obtain ⟨ao, zs, cap, rfl, hr, hwf, hl, hm, hbd, hn⟩ := argK ht he hc h hv hw
  rw [hb, Nat.mul_one] at hbd
  refine ⟨ao, zs.map fun z => UInt8.ofNat z.toNat, cap, by simp, ?_, by simpa using hl, hbd, hn⟩
  unfold Bytes
  rw [← bytesV_of hwf]
  exact hr

theorem argTexts {q : TypeId} (ht : Try.prog.underlying t = some (.slice e)) (he : Try.prog.underlying e = some (.slice q)) (hq : Try.prog.underlying q = some (.int .u8)) (ce : Try.prog.cellsOf e = 1) (cq : Try.prog.cellsOf q = 1) (hb : Try.prog.bytesOf e = 24)
    (h : DataW.Trod enc Try.prog W 0 (fun _ => true) true t v d p) (hv : Value.okWide Try.prog W .any base t v)
    (hw : ∀ es sp, d = .slice es sp → (es.length + sp.length) * Try.prog.bytesOf e ≤ reachBytes) :
    ∃ (ao : Option Addr) (ts : List (List UInt8)) (cap : Nat), v = .slice ao ts.length cap ∧ ts.length ≤ cap ∧ cap * 24 ≤ 140737488351232 ∧ (ao = none → cap = 0) ∧
      ∃ cs : List Value, cs.length = ts.length ∧ Reads W ao cs ∧ ∀ i (h : i < ts.length), ∃ bo cap, cs[i]? = some (.slice bo ts[i].length cap) ∧ ts[i].length ≤ cap ∧ cap ≤ maxLen ∧ (bo = none → cap = 0) ∧ Bytes W bo ts[i] := by
  obtain ⟨a, len, cap, rfl⟩ := okWide_slice ht hv
  obtain ⟨fuel, hf⟩ := h
  rcases open_int_rows ht he hq ce cq hf with ⟨hcs, _⟩ | ⟨x, l, c, A, L, C, Z, hcs, _, hl, hm, hx, hrow⟩
  · simp [Value.cells] at hcs
    obtain ⟨rfl, rfl, rfl⟩ := hcs
    exact ⟨none, [], 0, rfl, by simp, by simp, fun _ => rfl, [], rfl, Reads.nil _ _, fun i hi => by simp at hi⟩
  · simp [Value.cells] at hcs
    obtain ⟨rfl, rfl, rfl⟩ := hcs
    simp only [Prod.mk.injEq] at hx
    have hwt := hw _ _ hx.1
    simp only [List.length_map, List.length_range] at hwt
    rw [hb, show len + (cap - len) = cap from by omega] at hwt
    unfold reachBytes at hwt
    refine ⟨some x, (List.range len).map (fun r => ((Z r).take (L r)).map fun z => UInt8.ofNat z.toNat), cap, by simp, by simpa using hl, hwt, (fun h => by cases h), (List.range len).map (fun r => .slice (A r) (L r) (C r)), by simp, ?_, ?_⟩
    · intro i hi
      have hi' : i < len := by simpa using hi
      obtain ⟨c0, _⟩ := hrow i (by omega)
      obtain ⟨c00, _⟩ := hrow 0 (by omega)
      obtain ⟨b, off, spot⟩ := x
      have hspot : spot = none := by simpa [Addr.add] using World.cell?_spot c00
      subst hspot
      rw [Go.WideShapes.add_plain] at c0
      exact ⟨b, off, rfl, by rw [c0]; simp⟩
    · intro i hi
      have hi' : i < len := by simpa using hi
      obtain ⟨_, r1, r2, r3, r4, r5, r6⟩ := hrow i (by omega)
      have hlen : (((Z i).take (L i)).map fun z => UInt8.ofNat z.toNat).length = L i := by simp; omega
      refine ⟨A i, C i, ?_, ?_, r2, r5, ?_⟩
      · simp only [List.getElem_map, List.getElem_range, hlen]
        rw [List.getElem?_map, List.getElem?_range hi']; rfl
      · simp only [List.getElem_map, List.getElem_range, hlen]; exact r1
      · simp only [List.getElem_map, List.getElem_range]
        have hwf : ∀ z ∈ (Z i).take (L i), (Lit.int .u8 z).wf = true := fun z hz => r4 z (List.mem_of_mem_take hz)
        unfold Bytes
        rw [← bytesV_of hwf]
        intro j hj
        have hj' : j < L i := by simp at hj; omega
        cases hA : A i with
        | none => have := r5 hA; omega
        | some a' =>
          obtain ⟨_, hcell⟩ := r6 a' hA
          have c0 := hcell 0 (by omega)
          obtain ⟨b, off, spot⟩ := a'
          have hspot : spot = none := by simpa [Addr.add] using World.cell?_spot c0
          subst hspot
          have cj := hcell j (by omega)
          rw [Go.WideShapes.add_plain] at cj
          refine ⟨b, off, rfl, ?_⟩
          rw [cj]
          simp only [List.getElem_map, List.getElem_take]
          rw [List.getD_eq_getElem?_getD, List.getElem?_eq_getElem (by omega)]
          rfl
end
end Go.Proofs.Ytkapdagmffbbhaa
