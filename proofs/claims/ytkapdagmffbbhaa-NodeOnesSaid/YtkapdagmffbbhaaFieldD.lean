/- Lists of numbers and of texts in memory; the document's SameNums and SameTexts. -/
import Derived.Test.YtkapdagmffbbhaaFieldC
namespace Go.Proofs.Ytkapdagmffbbhaa
open Go.ChangeShapes Go.WideShapes Go.ChangeAt Go.RowKit
set_option linter.unusedVariables false
set_option maxRecDepth 20000

theorem infoU64 : (Try.prog.info? 27).map (fun i => (i.zero, i.size, i.bytes)) = some (some (.int .u64 0), 1, 8) := by kernel_rfl
theorem infoBytes : (Try.prog.info? 46).map (fun i => (i.zero, i.size, i.bytes)) = some (some (.slice none 0 0), 1, 24) := by kernel_rfl

def u64V (zs : List Nat) : List Value := zs.map fun z : Nat => .int .u64 (z : Int)
def U64s (w : World) (ao : Option Addr) (zs : List Nat) : Prop := Reads w ao (u64V zs)
def Fit64 (zs : List Nat) : Prop := (∀ z ∈ zs, z < 18446744073709551616) ∧ zs.length * 8 ≤ 140737488351232

theorem u64V_length (zs : List Nat) : (u64V zs).length = zs.length := by simp [u64V]
theorem u64V_append (a b : List Nat) : u64V (a ++ b) = u64V a ++ u64V b := by simp [u64V]
theorem u64V_one (zs : List Nat) : ∀ u ∈ u64V zs, u.oneCell' = true := by
  intro u hu
  simp only [u64V, List.mem_map] at hu
  obtain ⟨b, _, rfl⟩ := hu
  rfl

theorem U64s.at {w : World} {ao : Option Addr} {zs : List Nat} (h : U64s w ao zs) (hf : Fit64 zs) {k : Nat} (hk : k < zs.length) :
    ∃ b off z, ao = some ⟨b, off, none⟩ ∧ w.cell? ⟨b, off + k, none⟩ = some (.int .u64 ((z : Nat) : Int)) ∧ b < w.heap.size ∧ Hid (zs[k]? = some z) ∧ Hid (zs.drop k = z :: zs.drop (k + 1)) ∧ Hid (zs.take (k + 1) = zs.take k ++ [z]) ∧ z < 18446744073709551616 := by
  obtain ⟨b, off, e, c, hb⟩ := Reads.at h (k := k) (by simpa [u64V_length] using hk)
  exact ⟨b, off, zs[k], e, by rw [c]; simp [u64V], hb, List.getElem?_eq_getElem hk, List.drop_eq_getElem_cons hk, take_snoc_b zs k hk, hf.1 _ (List.getElem_mem hk)⟩

/-- texts in memory -/
def Texts (w : World) (ao : Option Addr) (ts : List (List UInt8)) : Prop :=
  ∃ cs : List Value, cs.length = ts.length ∧ Reads w ao cs ∧ ∀ i (h : i < ts.length), ∃ bo cap, cs[i]? = some (.slice bo ts[i].length cap) ∧ ts[i].length ≤ cap ∧ cap ≤ maxLen ∧ (bo = none → cap = 0) ∧ Bytes w bo ts[i]

theorem Texts.below {w w' : World} {ao : Option Addr} {ts : List (List UInt8)} (h : Texts w ao ts) (hb : Below w.heap.size w w') : Texts w' ao ts := by
  obtain ⟨cs, h1, h2, h3⟩ := h
  refine ⟨cs, h1, h2.below hb, fun i hi => ?_⟩
  obtain ⟨bo, cap, k1, k2, k3, k4, k5⟩ := h3 i hi
  exact ⟨bo, cap, k1, k2, k3, k4, Reads.below k5 hb⟩

theorem Texts.nil (w : World) (ao : Option Addr) : Texts w ao [] := ⟨[], rfl, Reads.nil _ _, fun i hi => by simp at hi⟩

theorem Texts.at {w : World} {ao : Option Addr} {ts : List (List UInt8)} (h : Texts w ao ts) {k : Nat} (hk : k < ts.length) :
    ∃ b off t bo cap, ao = some ⟨b, off, none⟩ ∧ w.cell? ⟨b, off + k, none⟩ = some (.slice bo (t : List UInt8).length cap) ∧ b < w.heap.size ∧ Hid (ts.drop k = t :: ts.drop (k + 1)) ∧ Hid (ts.take (k + 1) = ts.take k ++ [t]) ∧
      t.length ≤ cap ∧ cap ≤ 9223372036854775807 ∧ Hid (bo = none → cap = 0) ∧ Hid (Bytes w bo t) ∧ Hid (t ∈ ts) := by
  obtain ⟨cs, h1, h2, h3⟩ := h
  obtain ⟨bo, cap, k1, k2, k3, k4, k5⟩ := h3 k hk
  obtain ⟨b, off, e, c, hb⟩ := h2.at (k := k) (by omega)
  rw [List.getElem?_eq_getElem (by omega)] at k1
  injection k1 with k1
  exact ⟨b, off, ts[k], bo, cap, e, by rw [c, k1], hb, List.drop_eq_getElem_cons hk, take_snoc_b ts k hk, k2, by simpa [maxLen] using k3, k4, k5, List.getElem_mem hk⟩

/-- texts of the call's own -/
def OwnT (w : World) (base : Nat) (v : Value) (ts : List (List UInt8)) : Prop :=
  ∃ vs : List Value, vs.length = ts.length ∧ Own w base 46 v vs ∧ ∀ i (h : i < ts.length), ∃ u, vs[i]? = some u ∧ Own w base 5 u (bytesV ts[i])

theorem OwnT.nil (w : World) (base : Nat) : OwnT w base (.slice none 0 0) [] := ⟨[], rfl, Own.nil _ _ _, fun i hi => by simp at hi⟩

theorem OwnT.below {w w' : World} {base : Nat} {v : Value} {ts : List (List UInt8)} (h : OwnT w base v ts) (hb : Below w.heap.size w w') : OwnT w' base v ts := by
  obtain ⟨vs, h1, h2, h3⟩ := h
  refine ⟨vs, h1, h2.below hb, fun i hi => ?_⟩
  obtain ⟨u, k1, k2⟩ := h3 i hi
  exact ⟨u, k1, k2.below hb⟩

theorem OwnT.le {w : World} {base base' : Nat} {v : Value} {ts : List (List UInt8)} (h : OwnT w base v ts) (hb : base' ≤ base) : OwnT w base' v ts := by
  obtain ⟨vs, h1, h2, h3⟩ := h
  refine ⟨vs, h1, h2.le hb, fun i hi => ?_⟩
  obtain ⟨u, k1, k2⟩ := h3 i hi
  exact ⟨u, k1, k2.le hb⟩

theorem OwnT.shape {w : World} {base : Nat} {v : Value} {ts : List (List UInt8)} (h : OwnT w base v ts) : ∃ ao cap, v = .slice ao ts.length cap ∧ ts.length ≤ cap ∧ (ao = none → cap = 0) ∧ Texts w ao ts := by
  obtain ⟨vs, h1, h2, h3⟩ := h
  obtain ⟨ao, cap, hv, hc, hm, hn, hr, _, _⟩ := h2.shape
  rw [h1] at hv hc
  refine ⟨ao, cap, hv, hc, hn, vs, h1, hr, fun i hi => ?_⟩
  obtain ⟨u, k1, k2⟩ := h3 i hi
  obtain ⟨bo, cc, hu, hc', hm', hn', hr', _, _⟩ := k2.shape
  rw [bytesV_length] at hu hc'
  exact ⟨bo, cc, by rw [k1, hu], hc', hm', hn', hr'⟩

/-- one text more -/
theorem OwnT.push {w w' : World} {base : Nat} {v v' u : Value} {vs : List Value} {ts : List (List UInt8)} {t : List UInt8} (h1 : vs.length = ts.length) (h2 : Own w base 46 v vs)
    (h3 : ∀ i (h : i < ts.length), ∃ u, vs[i]? = some u ∧ Own w base 5 u (bytesV ts[i])) (hu : Own w base 5 u (bytesV t)) (ho : Own w' base 46 v' (vs ++ [u])) (hg : Grew w w' v v') : OwnT w' base v' (ts ++ [t]) := by
  refine ⟨vs ++ [u], by simp [h1], ho, fun i hi => ?_⟩
  by_cases hlt : i < ts.length
  · obtain ⟨x, k1, k2⟩ := h3 i hlt
    refine ⟨x, by rw [List.getElem?_append_left (by omega), k1], ?_⟩
    rw [List.getElem_append_left hlt]
    exact k2.grown hg.1 (k2.ne h2 (by decide))
  · obtain rfl : i = ts.length := by simp at hi; omega
    refine ⟨u, by rw [← h1]; simp, ?_⟩
    simp only [List.getElem_concat_length]
    exact hu.grown hg.1 (hu.ne h2 (by decide))

theorem eq_of_drop {α : Type} {xs ys : List α} {k : Nat} {s s' : α} (h : xs.drop k = s :: xs.drop (k + 1)) (h' : ys.drop k = s' :: ys.drop (k + 1)) (hne : s ≠ s') : xs ≠ ys := by
  rintro rfl
  rw [h] at h'
  injection h' with e _
  exact hne e

end Go.Proofs.Ytkapdagmffbbhaa
