/- Eight pointers in memory: by value, in a block of their own; '==' on them; how they read that came in. -/
import Derived.Test.YtkapdagmffbbhaaNodeM
import Derived.Test.YtkapdagmffbbhaaSecArg
import Derived.Test.YtkapdagmffbbhaaWant
import Derived.Test.YtkapdagmffbbhaaCopy
import Derived.Test.YtkapdagmffbbhaaStore
namespace Go.Proofs.Ytkapdagmffbbhaa
open Go.ChangeShapes Go.WideShapes Go.ChangeAt Go.RowKit Go.Deep
set_option linter.unusedVariables false
set_option maxRecDepth 20000

abbrev P8 := {l : List P3 // l.length = 8}
/-- their cells -/
def p8L (l : P8) : List Value := rowsL p3L l.1
theorem p8L_length (l : P8) : (p8L l).length = 24 := by unfold p8L; rw [rowsL_length p3L_length, l.2]
theorem p8L_one (l : P8) : ∀ v ∈ p8L l, v.oneCell' = true := rowsL_one_cell p3L_one l.1
def holesP : P8 := ⟨holes8, by simp [holes8]⟩
def P8.Fit (l : P8) : Prop := ∀ q ∈ l.1, q.Fit
theorem p3z_fit8 : p3z.Fit := ⟨by unfold I64; decide, by decide, by decide⟩
theorem holesP_fit : holesP.Fit := fun q hq => by
  have : q = p3z := List.eq_of_mem_replicate hq
  rw [this]; exact p3z_fit8
instance : DecidableEq P3 := fun p q => decidable_of_iff (p.eqB q = true) P3.eqB_iff
theorem p3L_inj {p q : P3} (h : p3L p = p3L q) : p = q := by
  unfold p3L at h
  simp only [List.cons.injEq, Value.int.injEq, true_and, and_true] at h
  exact P3.ext' h.1 (by have := h.2.1; omega) (by have := h.2.2; omega)
theorem infoP8 (l : P8) : (Try.prog.info? 31).map (·.size) = some (p8L l).length := by rw [p8L_length]; kernel_rfl
theorem zeroP8 (w : World) : Sem.run Try.prog (zeroValue 31) w = .ok (.agg (p8L holesP).toArray) w := by kernel_rfl
theorem builtP8 : Try.prog.built 31 [] = some (p8L holesP).toArray := by kernel_rfl
theorem wholeP8 {s t : P8} : p8L s = (p8L t).take 0 ++ p8L s ++ (p8L t).drop (0 + (p8L s).length) := whole_new (by rw [p8L_length, p8L_length])
theorem wholeSn {s t : Sec} : secL s = (secL t).take 0 ++ secL s ++ (secL t).drop (0 + (secL s).length) := whole_new (by rw [secL_length, secL_length])
theorem rowP8 {w : World} {g : Nat} {t : TypeId} {l : P8} (h : Blk w g t (p8L l)) : RowRes Try.prog w 31 (.pointer (some ⟨g, 0, none⟩)) (p8L l) :=
  ⟨⟨g, _, rfl, h⟩, ⟨_, Try.underlying31, rfl⟩, infoP8 l⟩
theorem rowSn {w : World} {g : Nat} {t : TypeId} {s : Sec} (h : Blk w g t (secL s)) : RowRes Try.prog w 23 (.pointer (some ⟨g, 0, none⟩)) (secL s) :=
  ⟨⟨g, _, rfl, h⟩, ⟨_, Try.underlying23, rfl⟩, infoSecL s⟩
theorem rangeN {w : World} {g : Nat} {t : TypeId} {cs : List Value} (h : Blk w g t cs) : w.rangeAt g 0 cs := h.range fun j v hv => by simpa using hv
theorem P8.lt (l : P8) {k : Nat} (h : k < 8) : k < l.1.length := by rw [l.2]; exact h
/-- the k-th pointer -/
def P8.get (l : P8) (k : Nat) : P3 := l.1.getD k p3z
theorem P8.get_eq (l : P8) {k : Nat} (h : k < 8) : l.get k = l.1[k]'(l.lt h) := by unfold P8.get; rw [List.getD_eq_getElem?_getD, List.getElem?_eq_getElem (l.lt h)]; rfl
theorem P8.get_fit {l : P8} (hf : l.Fit) {k : Nat} (h : k < 8) : (l.get k).Fit := by rw [l.get_eq h]; exact hf _ (List.getElem_mem _)
theorem P8.mem {l : P8} {q : P3} (h : q ∈ l.1) : ∃ k, k < 8 ∧ l.get k = q := by
  obtain ⟨k, hk, e⟩ := List.getElem_of_mem h
  have hk' : k < 8 := by rw [l.2] at hk; exact hk
  exact ⟨k, hk', by rw [l.get_eq hk']; exact e⟩
theorem P8.get_mem (l : P8) {k : Nat} (h : k < 8) : l.get k ∈ l.1 := by rw [l.get_eq h]; exact List.getElem_mem _
theorem P8.ext8 {l m : P8} (h : ∀ k, k < 8 → l.get k = m.get k) : l = m := by
  apply Subtype.ext
  apply List.ext_getElem (by rw [l.2, m.2])
  intro k h1 h2
  have hk : k < 8 := by rw [l.2] at h1; exact h1
  have := h k hk
  rwa [l.get_eq hk, m.get_eq hk] at this
/-- the k-th is another -/
def P8.set (l : P8) (k : Nat) (q : P3) : P8 := ⟨l.1.set k q, by rw [List.length_set, l.2]⟩
theorem P8.get_set (l : P8) {k j : Nat} (q : P3) (hj : j < 8) : (l.set k q).get j = if k = j then q else l.get j := by
  have hj' := l.lt hj
  unfold P8.get P8.set
  dsimp only
  rw [List.getD_eq_getElem?_getD, List.getD_eq_getElem?_getD, List.getElem?_set]
  by_cases e : k = j
  · subst e; simp [hj']
  · simp [e]
theorem P8.set_fit {l : P8} (hf : l.Fit) (k : Nat) {q : P3} (hq : q.Fit) : (l.set k q).Fit := fun x hx => by
  rcases List.mem_or_eq_of_mem_set hx with h | h
  · exact hf x h
  · rw [h]; exact hq
theorem p8L_at (l : P8) {k : Nat} (h : k < 8) {j : Nat} {v : Value} (hv : (p3L (l.get k))[j]? = some v) : (p8L l)[k * 3 + j]? = some v := by
  rw [l.get_eq h] at hv
  exact rowsL_at p3L_length l.1 k (l.lt h) j v hv
theorem p8L_part (l : P8) {k : Nat} (h : k < 8) : ((p8L l).drop (k * 3)).take 3 = p3L (l.get k) := by
  rw [l.get_eq h]
  unfold p8L
  rw [rowsL_split p3L_length l.1 k (l.lt h)]
  have hl : (rowsL p3L (l.1.take k)).length = k * 3 := by rw [rowsL_length p3L_length, List.length_take, Nat.min_eq_left (by rw [l.2]; omega)]
  rw [List.append_assoc, ← hl, List.drop_left, List.take_left' (p3L_length _)]
theorem p8L_set (l : P8) {k : Nat} (h : k < 8) (q : P3) : p8L (l.set k q) = (p8L l).take (k * 3) ++ p3L q ++ (p8L l).drop (k * 3 + 3) := rowsL_set p3L_length l.1 k (l.lt h) q
theorem p8L_inj {l m : P8} (h : p8L l = p8L m) : l = m := P8.ext8 fun k hk => p3L_inj (by rw [← p8L_part l hk, ← p8L_part m hk, h])
/-- the cells of the k-th pointer -/
theorem p8_cells {w : World} {g : Nat} {t : TypeId} {l : P8} (h : Blk w g t (p8L l)) {k : Nat} (hk : k < 8) :
    w.cell? ⟨g, k * 3, none⟩ = some (.int .i64 (l.get k).a) ∧ w.cell? ⟨g, k * 3 + 1, none⟩ = some (.int .u64 ((l.get k).b : Int)) ∧ w.cell? ⟨g, k * 3 + 2, none⟩ = some (.int .u32 ((l.get k).s : Int)) :=
  ⟨by rw [h.cell]; exact p8L_at l hk (j := 0) rfl, by rw [h.cell]; exact p8L_at l hk (j := 1) rfl, by rw [h.cell]; exact p8L_at l hk (j := 2) rfl⟩
theorem p8_range {w : World} {g : Nat} {t : TypeId} {l : P8} (h : Blk w g t (p8L l)) {k : Nat} (hk : k < 8) : w.rangeAt g (k * 3) (p3L (l.get k)) :=
  h.range fun j v hv => p8L_at l hk hv

/-! ### An element by value -/
theorem nIsAgg {P : Program} (w : World) {e : TypeId} {d : TypeDesc} (he : P.underlying e = some d) (hd : (match d with | .struct _ | .array _ _ => true | _ => false) = true) : (isAgg e).run P w = .ok true w := by
  cases d <;> simp at hd <;> simp [isAgg, run_underlying he]
theorem infoPtr3 : (Try.prog.info? 30).map (·.size) = some 3 := by kernel_rfl
theorem sizePtr (w : World) : (sizeOf 30).run Try.prog w = .ok 3 w := by kernel_rfl
theorem idx8 (l : P8) {k : Nat} (hk : k < 8) (w : World) : Sem.run Try.prog (Instr.index 31 (.agg (p8L l).toArray) (.int .i64 (k : Int))) w = .ok (.agg (p3L (l.get k)).toArray) w := by
  have hp := p8L_part l hk
  have hs := sizePtr w
  simp [Instr.index, run_underlying Try.underlying31, asIntOf, hk, part, hs, go_sem]
  exact hp

/-! ### '==' on eight pointers -/
theorem eqPtr9 (w : World) (p q : P3) : (Op.equalIn 9999 30 (.agg (p3L p).toArray) (.agg (p3L q).toArray)).run Try.prog w = .ok (p.eqB q) w := by
  have : (Op.equalIn 9999 30 (.agg #[.int .i64 p.a, .int .u64 (p.b : Int), .int .u32 (p.s : Int)]) (.agg #[.int .i64 q.a, .int .u64 (q.b : Int), .int .u32 (q.s : Int)])).run Try.prog w = .ok (p.eqB q) w := by
    go_simp
    unfold P3.eqB
    by_cases h1 : p.a = q.a <;> by_cases h2 : p.b = q.b <;> by_cases h3 : p.s = q.s <;> simp [h1, h2, h3, Int.natCast_inj]
  exact this
theorem run_eqRows {P : Program} (w : World) (xs ys : List P3) (hl : xs.length = ys.length) (f : Nat → (Option Bool × Unit) → Sem (ForInStep (Option Bool × Unit)))
    (hf : ∀ i (h : i < xs.length) s, (f i s).run P w = .ok (if xs[i].eqB (ys[i]'(hl ▸ h)) = true then .yield (none, ()) else .done (some false, ())) w) : ∀ (k i : Nat), i + k = xs.length →
    (forIn (m := Sem) (List.range' i k) ((none, ()) : Option Bool × Unit) f).run P w = .ok (if xs.drop i = ys.drop i then (none, ()) else (some false, ())) w := by
  intro k
  induction k with
  | zero =>
    intro i hi
    rw [List.drop_of_length_le (by omega), List.drop_of_length_le (by omega)]
    simp
  | succ k ih =>
    intro i hi
    have hx : i < xs.length := by omega
    have hy : i < ys.length := by omega
    have ih' := ih (i + 1) (by omega)
    rw [List.range'_succ, List.forIn_cons, Sem.run_bind, hf i hx]
    rw [List.drop_eq_getElem_cons hx, List.drop_eq_getElem_cons hy]
    by_cases hb : xs[i] = ys[i]
    · rw [if_pos (P3.eqB_iff.2 hb)]
      simp only [Result.andThen_ok, ih', hb, List.cons.injEq, true_and]
    · rw [if_neg (fun h => hb (P3.eqB_iff.1 h))]
      simp only [Result.andThen_ok, Sem.run_pure, List.cons.injEq, hb, false_and, if_false]
theorem part8 (l : P8) {k : Nat} (hk : k < 8) (w : World) : (part 30 (p8L l).toArray (k * 3)).run Try.prog w = .ok (.agg (p3L (l.get k)).toArray) w := by
  have hp := p8L_part l hk
  have he := nIsAgg (P := Try.prog) w Try.underlying30 rfl
  simp [part, he]
  exact hp
theorem eqP8 (w : World) (l m : P8) : (Op.equalIn 10000 31 (.agg (p8L l).toArray) (.agg (p8L m).toArray)).run Try.prog w = .ok (decide (l = m)) w := by
  rw [show (10000 : Nat) = 9999 + 1 from rfl, Op.equalIn]
  simp only [Sem.run_bind, run_underlying Try.underlying31, Result.andThen_ok, sizePtr]
  rw [Std.Legacy.Range.forIn_eq_forIn_range', show (Std.Legacy.Range.size [:8]) = 8 from by simp [Std.Legacy.Range.size]]
  have hlm : l.1.length = m.1.length := by rw [l.2, m.2]
  rw [run_eqRows (P := Try.prog) w l.1 m.1 hlm _ ?_ 8 0 (by rw [l.2])]
  · by_cases h : l = m
    · subst h; simp
    · have : ¬ l.1 = m.1 := fun e => h (Subtype.ext e)
      simp [h, this]
  · intro i h s
    have hi : i < 8 := by rw [l.2] at h; exact h
    simp only [Sem.run_bind, part8 l hi, part8 m hi, Result.andThen_ok, eqPtr9]
    rw [l.get_eq hi, m.get_eq hi]
    cases hb : l.1[i].eqB m.1[i]
    · simp
    · simp

/-! ### Eight pointers that came in -/
section
variable {H : Type} {enc : TypeId × Value → H} {W : World} {base : Nat} {spare : Nat → Bool} {held : Bool} {fuel : Nat} {cs : List Value} {x : DataW H × List MemPlace}
theorem nList3 {α : Type} {l : List α} (h : l.length = 3) : ∃ a b c, l = [a, b, c] := by
  match l, h with
  | [a, b, c], _ => exact ⟨a, b, c, rfl⟩
theorem nOpenPtr (h : DataW.trod enc Try.prog W base spare held fuel 30 cs = some x) : ∃ p : P3, cs = p3L p ∧ p.Fit := by
  obtain ⟨xs, k, _, hxs, hcl, hxl, hfld⟩ := DataW.trod_struct Try.underlying30 h
  have cI : Try.prog.cellsOf 3 = 1 := by kernel_rfl
  have cU : Try.prog.cellsOf 27 = 1 := by kernel_rfl
  have cW : Try.prog.cellsOf 28 = 1 := by kernel_rfl
  have c3 : Try.prog.cellsOf 30 = 3 := by kernel_rfl
  rw [c3] at hcl
  obtain ⟨v0, v1, v2, rfl⟩ := nList3 hcl
  have hl3 : xs.length = 3 := hxl
  have g0 : DataW.trod enc Try.prog W base spare held k 3 ((List.drop 0 [v0, v1, v2]).take (Try.prog.cellsOf 3)) = xs[0]? := hfld 0 _ rfl
  have g1 : DataW.trod enc Try.prog W base spare held k 27 ((List.drop 1 [v0, v1, v2]).take (Try.prog.cellsOf 27)) = xs[1]? := hfld 1 _ rfl
  have g2 : DataW.trod enc Try.prog W base spare held k 28 ((List.drop 2 [v0, v1, v2]).take (Try.prog.cellsOf 28)) = xs[2]? := hfld 2 _ rfl
  rw [List.getElem?_eq_getElem (by omega)] at g0 g1 g2
  obtain ⟨a, e0, _, wa⟩ := DataW.trod_int Try.underlying3 g0
  obtain ⟨b, e1, _, wb⟩ := DataW.trod_int Try.underlying27 g1
  obtain ⟨s, e2, _, ws⟩ := DataW.trod_int Try.underlying28 g2
  rw [show (List.drop 0 [v0, v1, v2]).take (Try.prog.cellsOf 3) = [v0] from by rw [cI]; rfl] at e0
  rw [show (List.drop 1 [v0, v1, v2]).take (Try.prog.cellsOf 27) = [v1] from by rw [cU]; rfl] at e1
  rw [show (List.drop 2 [v0, v1, v2]).take (Try.prog.cellsOf 28) = [v2] from by rw [cW]; rfl] at e2
  cases e0; cases e1; cases e2
  obtain ⟨b', rfl, hb⟩ := nat_u64 wb
  obtain ⟨s', rfl, hs⟩ := nat_u32 ws
  exact ⟨⟨a, b', s'⟩, rfl, wf_i64 wa, hb, hs⟩
end
/-- rows that are known one by one -/
theorem rows_of {α : Type} {f : α → List Value} {c : Nat} (hf : ∀ x, (f x).length = c) : ∀ (n : Nat) (l : List Value) (g : Nat → α), l.length = n * c → (∀ i, i < n → (l.drop (i * c)).take c = f (g i)) → l = rowsL f ((List.range n).map g)
  | 0, l, g, hl, _ => by
    have : l = [] := List.eq_nil_of_length_eq_zero (by omega)
    subst this; rfl
  | n + 1, l, g, hl, h => by
    rw [Nat.add_mul] at hl
    have h1 := rows_of hf n (l.take (n * c)) g (by rw [List.length_take]; omega) (fun i hi => by
      rw [← h i (by omega), List.drop_take, List.take_take, Nat.min_eq_left]
      have : (i + 1) * c ≤ n * c := Nat.mul_le_mul_right _ hi
      rw [Nat.add_mul] at this
      omega)
    rw [List.range_succ, List.map_append, rowsL_append, ← h1]
    have h2 := h n (by omega)
    rw [List.take_of_length_le (by rw [List.length_drop]; omega)] at h2
    show l = l.take (n * c) ++ rowsL f [g n]
    rw [rowsL_one, ← h2, List.take_append_drop]
section
variable {H : Type} {enc : TypeId × Value → H} {W : World} {base : Nat} {v : Value} {d : DataW H} {ps : List MemPlace}
theorem open_ptrs8 (h : DataW.Trod enc Try.prog W 0 (fun _ => true) true 31 v d ps) (hv : Value.okWide Try.prog W .any base 31 v) : ∃ l : P8, v = .agg (p8L l).toArray ∧ l.Fit := by
  obtain ⟨cs, rfl⟩ : ∃ cs, v = .agg cs := by
    simp only [Value.okWide, Try.underlying31] at hv
    obtain ⟨cs, h1, _⟩ := hv
    exact ⟨cs, h1⟩
  obtain ⟨fuel, hf⟩ := h
  obtain ⟨xs, m, _, _, hl, hxl, hi⟩ := DataW.trod_array Try.underlying31 hf
  have hc : Try.prog.cellsOf 30 = 3 := by kernel_rfl
  have hc2 : Try.prog.cellsOf 31 = 24 := by kernel_rfl
  rw [hc2] at hl
  have key : ∀ i, ∃ p : P3, i < 8 → (cs.toList.drop (i * 3)).take 3 = p3L p ∧ p.Fit := fun i => by
    by_cases hi8 : i < 8
    · have := hi i (by omega)
      rw [hc, List.getElem?_eq_getElem (by omega)] at this
      obtain ⟨p, h1, h2⟩ := nOpenPtr this
      exact ⟨p, fun _ => ⟨h1, h2⟩⟩
    · exact ⟨p3z, fun h => absurd h hi8⟩
  obtain ⟨g, hg⟩ : ∃ g : Nat → P3, ∀ i, i < 8 → (cs.toList.drop (i * 3)).take 3 = p3L (g i) ∧ (g i).Fit := ⟨fun i => (key i).choose, fun i => (key i).choose_spec⟩
  refine ⟨⟨(List.range 8).map g, by simp⟩, ?_, fun q hq => ?_⟩
  · congr 1
    apply Array.toList_inj.1
    rw [rows_of p3L_length 8 cs.toList g hl (fun i hi => (hg i hi).1)]
    rfl
  · simp only [List.mem_map, List.mem_range] at hq
    obtain ⟨i, hi, rfl⟩ := hq
    exact (hg i hi).2
end

/-! ### A sector's parts -/
theorem nPart {w : World} {g : Nat} {t : TypeId} {s : Sec} (h : Blk w g t (secL s)) (k : Nat) : Bytes w (some ⟨g, 16 * k, none⟩) (part16 s.1 k) := by
  intro i hi
  have hi' : 16 * k + i < (secL s).length := by
    simp only [part16, bytesV, List.length_map, List.length_take, List.length_drop] at hi
    simp only [secL, bytesV, List.length_map]; omega
  refine ⟨g, 16 * k, rfl, ?_⟩
  rw [h.cell, List.getElem?_eq_getElem hi']
  simp [secL, bytesV, part16]
end Go.Proofs.Ytkapdagmffbbhaa
