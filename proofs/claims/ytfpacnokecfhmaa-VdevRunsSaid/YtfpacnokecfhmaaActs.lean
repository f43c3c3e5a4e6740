/- How arguments read: slices of bools; what is done with a device, as plain data. -/
import Derived.Test.YtfpacnokecfhmaaVdevN
import Derived.Test.YtfpacnokecfhmaaArgs
import Derived.Deep.Slices
import Derived.OpenShut
import Derived.SizedLaws
namespace Go.Proofs.Ytfpacnokecfhmaa
open Go.ChangeShapes Go.WideShapes Go.ChangeAt Go.RowKit Go.Deep
set_option linter.unusedVariables false

section
variable {H : Type} {P : Program}
/-- each weight of a datum is within the reach -/
def Light (P : Program) (t : TypeId) (d : DataW H) : Prop := ∀ n, n ∈ d.weights P t → n ≤ reachBytes
theorem light_arg {ts : List TypeId} {ds : List (DataW H)} (h : (DataW.weightsEach P ts ds).all (· ≤ reachBytes) = true) {j : Nat} {t : TypeId} {d : DataW H} (ht : ts[j]? = some t) (hd : ds[j]? = some d) : Light P t d := fun n hn => by
  have := List.all_eq_true.1 h n (DataW.weights_mem_each ht hd n hn)
  simpa using this
theorem weightsAll_mem {e : TypeId} {l : List (DataW H)} {d : DataW H} (hd : d ∈ l) {n : Nat} (hn : n ∈ d.weights P e) : n ∈ DataW.weightsAll P e l := by
  induction l with
  | nil => cases hd
  | cons x r ih =>
    simp only [DataW.weightsAll, List.mem_append]
    rcases List.mem_cons.1 hd with rfl | hd
    · exact .inl hn
    · exact .inr (ih hd)
theorem Light.len {t e : TypeId} {l s : List (DataW H)} (ht : P.underlying t = some (.slice e)) (h : Light P t (.slice l s)) : (l.length + s.length) * P.bytesOf e ≤ reachBytes :=
  h _ (by simp [DataW.weights, ht])
theorem Light.elem {t e : TypeId} {l s : List (DataW H)} (ht : P.underlying t = some (.slice e)) (h : Light P t (.slice l s)) {d : DataW H} (hd : d ∈ l) : Light P e d := fun n hn =>
  h n (by simp only [DataW.weights, ht, List.mem_cons, List.mem_append]; exact .inr (.inl (weightsAll_mem hd hn)))
theorem Light.field {t : TypeId} {fs : Array Field} {l : List (DataW H)} (ht : P.underlying t = some (.struct fs)) (h : Light P t (.agg l)) {j : Nat} {f : Field} {d : DataW H} (hf : fs.toList[j]? = some f) (hd : l[j]? = some d) : Light P f.type d := fun n hn =>
  h n (by
    simp only [DataW.weights, ht]
    exact DataW.weights_mem_each (j := j) (by rw [List.getElem?_map, hf]; rfl) hd n hn)
end

section
variable {H : Type} {enc : TypeId × Value → H} {P : Program} {w : World} {base : Nat} {held : Bool} {t e : TypeId} {fuel : Nat} {v : Value} {x : DataW H × List MemPlace}

/-- a slice of bools -/
theorem open_bools (ht : P.underlying t = some (.slice e)) (he : P.underlying e = some .bool) (hc : P.cellsOf e = 1) (hb : P.bytesOf e = 1)
    (h : DataW.trod enc P w base (fun _ => true) held fuel t [v] = some x) (hw : Light P t x.1) :
    ∃ (ao : Option Addr) (bs : List Bool) (cap : Nat), v = .slice ao bs.length cap ∧ Reads w ao (boolsV bs) ∧ bs.length ≤ cap ∧ cap ≤ reachBytes ∧ (ao = none → cap = 0) ∧ (∀ a, ao = some a → bs ≠ [] → a.block < w.heap.size) := by
  rcases open_slice1 ht hc h with ⟨hcs, _⟩ | ⟨a, len, cap, m, n, V, D, Pl, hcs, _, hl, _, hm, hx, hi⟩
  · obtain rfl : v = .slice none 0 0 := by simpa using hcs
    exact ⟨none, [], 0, rfl, Reads.nil _ _, Nat.le_refl _, Nat.zero_le _, fun _ => rfl, fun a e => by cases e⟩
  · obtain rfl : v = .slice (some a) len cap := by simpa using hcs
    simp only [if_true] at hm
    subst hm
    have hwt := hw
    rw [hx] at hwt
    have hlen := hwt.len ht
    simp only [List.length_map, List.length_range, hb, Nat.mul_one] at hlen
    have hB : ∀ i, i < m → ∃ b, V i = .bool b ∧ w.cell? (a.add i) = some (.bool b) := fun i him => by
      obtain ⟨h1, h2⟩ := hi i him
      obtain ⟨b, hv, _⟩ := DataW.trod_bool he h2
      have : V i = .bool b := by simpa using hv
      exact ⟨b, this, by rw [h1, this]⟩
    have hR : Reads w (some a) (boolsV ((List.range len).map fun i => match V i with | .bool b => b | _ => false)) := by
      intro i hi'
      have hil : i < len := by simpa [boolsV] using hi'
      obtain ⟨b, hv, hcell⟩ := hB i (by omega)
      obtain ⟨_, _, c0⟩ := hB 0 (by omega)
      obtain ⟨bl, off, spot⟩ := a
      have hspot : spot = none := by simpa [Addr.add] using World.cell?_spot c0
      subst hspot
      rw [Go.WideShapes.add_plain] at hcell
      exact ⟨bl, off, rfl, by rw [hcell]; simp [boolsV, hv]⟩
    refine ⟨some a, (List.range len).map fun i => match V i with | .bool b => b | _ => false, m, by simp, hR, by simpa using hl, by omega, (fun h => by cases h), fun a' ha hne => ?_⟩
    cases ha
    have hpos : 0 < len := by
      rcases Nat.eq_zero_or_pos len with h0 | h0
      · subst h0; exact absurd rfl hne
      · exact h0
    obtain ⟨b, off, e0, _, hb⟩ := Reads.bool hR (k := 0) (by simpa using hpos)
    cases e0
    exact hb
end

theorem arg_bools {H : Type} {enc : TypeId × Value → H} {W : World} {base : Nat} {v : Value} {d : DataW H} {p : List MemPlace} (h : DataW.Trod enc Try.prog W 0 (fun _ => true) true 34 v d p) (hv : Value.okWide Try.prog W .any base 34 v)
    (hw : Light Try.prog 34 d) : ∃ (ao : Option Addr) (bs : List Bool) (cap : Nat), v = .slice ao bs.length cap ∧ Reads W ao (boolsV bs) ∧ (bs.length ≤ cap ∧ cap ≤ 140737488351232) ∧ (ao = none → cap = 0) := by
  obtain ⟨a, len, cap, rfl⟩ := okWide_slice Try.underlying34 hv
  obtain ⟨fuel, hf⟩ := h
  obtain ⟨ao, bs, c, h1, h2, h3, h4, h5, _⟩ := open_bools (v := .slice a len cap) Try.underlying34 Try.underlying4 (by kernel_rfl) (by kernel_rfl) hf hw
  exact ⟨ao, bs, c, h1, h2, ⟨h3, by unfold reachBytes at h4; exact h4⟩, h5⟩

/-- something done with a device -/
structure ActM where
  kind : Int
  at_ : Int
  data : Sec
  kao : Option Addr
  kcap : Nat
  keep : List Bool
def actL (a : ActM) : List Value := .int .i64 a.kind :: .int .i64 a.at_ :: (secL a.data ++ [.slice a.kao a.keep.length a.kcap])
theorem actL_length (a : ActM) : (actL a).length = 131 := by simp [actL, secL_length]
theorem actL_one (a : ActM) : ∀ v ∈ actL a, v.oneCell' = true := by
  intro v hv
  simp only [actL, List.mem_cons, List.mem_append, List.not_mem_nil, or_false] at hv
  rcases hv with rfl | rfl | hv | rfl
  · rfl
  · rfl
  · exact secL_one _ v hv
  · rfl
structure ActOk (w : World) (a : ActM) : Prop where
  kind : I64 a.kind
  at_ : I64 a.at_
  keep : Reads w a.kao (boolsV a.keep)
  cap : a.keep.length ≤ a.kcap ∧ a.kcap ≤ 140737488351232
  nil : a.kao = none → a.kcap = 0
  low : ∀ b, a.kao = some b → a.keep ≠ [] → b.block < w.heap.size
structure Acts (w : World) (ao : Option Addr) (as_ : List ActM) : Prop where
  cells : Reads w ao (rowsL actL as_)
  each : ∀ a ∈ as_, ActOk w a

/-- a sector -/
theorem open_sec {H : Type} {enc : TypeId × Value → H} {w : World} {base : Nat} {spare : Nat → Bool} {held : Bool} {fuel : Nat} {cs : List Value} {x : DataW H × List MemPlace}
    (h : DataW.trod enc Try.prog w base spare held fuel 33 cs = some x) : ∃ s : Sec, cs = secL s := by
  obtain ⟨xs, m, _, _, hl, hxl, hi⟩ := DataW.trod_array Try.underlying33 h
  have hc : Try.prog.cellsOf 5 = 1 := by kernel_rfl
  have hc2 : Try.prog.cellsOf 33 = 128 := by kernel_rfl
  rw [hc2] at hl
  have hb : ∀ i (h : i < cs.length), ∃ b : UInt8, cs[i] = byteV b := fun i h => by
    have := hi i (by omega)
    rw [hc, Nat.mul_one, List.drop_eq_getElem_cons h, List.getElem?_eq_getElem (by omega)] at this
    obtain ⟨n, hn, _, hwf⟩ := DataW.trod_int Try.underlying5 this
    rw [List.take_succ_cons, List.take_zero] at hn
    injection hn with hn _
    exact ⟨UInt8.ofNat n.toNat, by rw [hn]; exact byteV_cell (wf_u8 hwf)⟩
  refine ⟨⟨cs.map fun v => match v with | .int _ z => UInt8.ofNat z.toNat | _ => 0, by simpa using hl⟩, ?_⟩
  unfold secL bytesV
  apply List.ext_getElem
  · simp
  · intro i h1 h2
    obtain ⟨b, hb'⟩ := hb i h1
    simp [hb', byteV]

theorem arg_acts {H : Type} {enc : TypeId × Value → H} {W : World} {base : Nat} {v : Value} {d : DataW H} {p : List MemPlace} (h : DataW.Trod enc Try.prog W 0 (fun _ => true) true 26 v d p) (hv : Value.okWide Try.prog W .any base 26 v)
    (hw : Light Try.prog 26 d) : ∃ (ao : Option Addr) (as_ : List ActM) (cap : Nat), v = .slice ao as_.length cap ∧ Acts W ao as_ ∧ as_.length ≤ 140737488351232 ∧ (ao = none → cap = 0) := by
  obtain ⟨a, len, cap, rfl⟩ := okWide_slice Try.underlying26 hv
  obtain ⟨fuel, hf⟩ := h
  have cA : Try.prog.cellsOf 36 = 131 := by kernel_rfl
  have bA : Try.prog.bytesOf 36 = 168 := by kernel_rfl
  rcases open_slice Try.underlying26 hf with ⟨hcs, _⟩ | ⟨a', len', cap', m, n, D, Pl, hcs, _, hl, _, hm, hx, hi⟩
  · simp [Value.cells] at hcs
    obtain ⟨rfl, rfl, rfl⟩ := hcs
    exact ⟨none, [], 0, rfl, ⟨Reads.nil _ _, fun a h => by cases h⟩, by simp, fun _ => rfl⟩
  · simp [Value.cells] at hcs
    obtain ⟨rfl, rfl, rfl⟩ := hcs
    simp only [if_true] at hm
    subst hm
    simp only [Prod.mk.injEq] at hx
    rw [hx.1] at hw
    have hlen := hw.len Try.underlying26
    simp only [List.length_map, List.length_range, bA] at hlen
    have key : ∀ i, i < len → ∃ am : ActM, (∀ j u, (actL am)[j]? = some u → W.cell? (a'.add (i * 131 + j)) = some u) ∧ ActOk W am := by
      intro i hil
      obtain ⟨cs, hcells, htr⟩ := hi i (by omega)
      rw [cA] at hcells
      obtain ⟨_, hcl, hcat⟩ := World.cells?_some hcells
      have hD : Light Try.prog 36 (D i) := hw.elem Try.underlying26 (by simp; exact ⟨i, hil, rfl⟩)
      obtain ⟨xs, k, _, hxs, _, hxl, hfld⟩ := DataW.trod_struct Try.underlying36 htr
      simp only [Prod.mk.injEq] at hxs
      rw [hxs.1] at hD
      have cI : Try.prog.cellsOf 3 = 1 := by kernel_rfl
      have cS : Try.prog.cellsOf 33 = 128 := by kernel_rfl
      have cB : Try.prog.cellsOf 34 = 1 := by kernel_rfl
      have g0 : DataW.trod enc Try.prog W 0 (fun _ => true) true k 3 ((cs.drop 0).take (Try.prog.cellsOf 3)) = xs[0]? := hfld 0 _ rfl
      have g1 : DataW.trod enc Try.prog W 0 (fun _ => true) true k 3 ((cs.drop 1).take (Try.prog.cellsOf 3)) = xs[1]? := hfld 1 _ rfl
      have g2 : DataW.trod enc Try.prog W 0 (fun _ => true) true k 33 ((cs.drop 2).take (Try.prog.cellsOf 33)) = xs[2]? := hfld 2 _ rfl
      have g3 : DataW.trod enc Try.prog W 0 (fun _ => true) true k 34 ((cs.drop 130).take (Try.prog.cellsOf 34)) = xs[3]? := hfld 3 _ rfl
      have hxl4 : xs.length = 4 := hxl
      rw [cI] at g0 g1
      rw [cS] at g2
      rw [cB] at g3
      rw [List.getElem?_eq_getElem (by omega)] at g0 g1 g2 g3
      obtain ⟨z0, e0, _, wf0⟩ := DataW.trod_int Try.underlying3 g0
      obtain ⟨z1, e1, _, wf1⟩ := DataW.trod_int Try.underlying3 g1
      obtain ⟨s2, e2⟩ := open_sec g2
      have hq : (cs.drop 130).take 1 = [cs[130]'(by omega)] := by
        rw [List.drop_eq_getElem_cons (by omega)]; rfl
      rw [hq] at g3
      obtain ⟨ko, bs, kc, e3, hkr, hkl, hkc, hkn, hklt⟩ := open_bools Try.underlying34 Try.underlying4 (by kernel_rfl) (by kernel_rfl) g3 (hD.field Try.underlying36 (j := 3) rfl (by rw [List.getElem?_map, List.getElem?_eq_getElem (by omega)]; rfl))
      have hsplit : cs = cs.take 1 ++ ((cs.drop 1).take 1 ++ ((cs.drop 2).take 128 ++ (cs.drop 130).take 1)) := by
        have q1 : (cs.drop 130).take 1 = cs.drop 130 := List.take_of_length_le (by simp; omega)
        have q2 : cs.drop 130 = (cs.drop 2).drop 128 := by rw [List.drop_drop]
        have q3 : cs.drop 2 = (cs.drop 1).drop 1 := by rw [List.drop_drop]
        rw [q1, q2, List.take_append_drop, q3, List.take_append_drop, List.take_append_drop]
      have hcs : cs = actL ⟨z0, z1, s2, ko, kc, bs⟩ := by
        rw [hsplit]
        have e0' : cs.take 1 = [.int .i64 z0] := e0
        rw [e0', e1, e2, hq, e3]
        rfl
      refine ⟨⟨z0, z1, s2, ko, kc, bs⟩, fun j u hu => ?_, ⟨wf_i64 wf0, wf_i64 wf1, hkr, ⟨hkl, by unfold reachBytes at hkc; exact hkc⟩, hkn, hklt⟩⟩
      have hj : j < 131 := by rw [← actL_length ⟨z0, z1, s2, ko, kc, bs⟩]; exact (List.getElem?_eq_some_iff.1 hu).1
      rw [← Go.Deep.add_add, hcat j hj, hcs, hu]
    obtain ⟨f, hf⟩ : ∃ f : Nat → ActM, ∀ i, i < len → (∀ j u, (actL (f i))[j]? = some u → W.cell? (a'.add (i * 131 + j)) = some u) ∧ ActOk W (f i) :=
      ⟨fun i => if h : i < len then (key i h).choose else ⟨0, 0, sec0, none, 0, []⟩, fun i h => by simp only [h, dif_pos]; exact (key i h).choose_spec⟩
    have hll : ((List.range len).map f).length = len := by simp
    refine ⟨some a', (List.range len).map f, m, by rw [hll], ⟨?_, ?_⟩, ?_, fun h => by cases h⟩
    · intro q hq
      rw [rowsL_length actL_length, hll] at hq
      have hi1 : q / 131 < len := Nat.div_lt_of_lt_mul (by omega)
      have hj1 : q % 131 < 131 := Nat.mod_lt _ (by omega)
      have hqq : q / 131 * 131 + q % 131 = q := by omega
      obtain ⟨u, hget⟩ : ∃ u, (actL (f (q / 131)))[q % 131]? = some u := ⟨_, List.getElem?_eq_getElem (by rw [actL_length]; exact hj1)⟩
      have h1 := (hf _ hi1).1 _ _ hget
      have h2 := rowsL_at actL_length ((List.range len).map f) (q / 131) (by rw [hll]; exact hi1) (q % 131) u (by simpa using hget)
      rw [hqq] at h1 h2
      obtain ⟨bl, off, spot⟩ := a'
      have h0 := (hf 0 (by omega)).1 0 _ (List.getElem?_eq_getElem (by rw [actL_length]; omega))
      have hspot : spot = none := by simpa [Addr.add] using World.cell?_spot h0
      subst hspot
      rw [Go.WideShapes.add_plain] at h1
      refine ⟨bl, off, rfl, ?_⟩
      rw [h1]
      obtain ⟨hlt, e⟩ := List.getElem?_eq_some_iff.1 h2
      rw [← e]
    · intro a ha
      obtain ⟨i, hi, rfl⟩ := List.mem_map.1 ha
      exact (hf i (by simpa using hi)).2
    · rw [hll]
      unfold reachBytes at hlen
      omega
end Go.Proofs.Ytfpacnokecfhmaa
