/- Node: the texts NodeM, NodeA, NodeB, NodeC, NodeD, NodeE, NodeF, one behind the other. -/
import Derived.Test.YtgdefibkemkejaaGPtr
import Derived.Test.YtgdefibkemkejaaGBase
import Derived.Test.YtgdefibkemkejaaGPileB
import Derived.Deep.Cut
/- Eight pointers in a sector, as plain data: there and back. -/
namespace Go.Proofs.Ytgdefibkemkejaa
open Go.RowKit
set_option linter.unusedVariables false
set_option maxRecDepth 20000

def nodeB (qs : List P3) : List UInt8 := qs.flatMap P3.bytes
theorem nodeB_nil : nodeB [] = [] := rfl
theorem nodeB_cons (q : P3) (qs : List P3) : nodeB (q :: qs) = q.bytes ++ nodeB qs := by simp [nodeB]
theorem nodeB_append (xs ys : List P3) : nodeB (xs ++ ys) = nodeB xs ++ nodeB ys := by simp [nodeB]
theorem nodeB_length (qs : List P3) : (nodeB qs).length = 16 * qs.length := by
  induction qs with
  | nil => rfl
  | cons q r ih => rw [nodeB_cons, List.length_append, P3.bytes_length, ih, List.length_cons]; omega
/-- the k-th sixteen bytes -/
def part16 (bs : List UInt8) (k : Nat) : List UInt8 := (bs.drop (16 * k)).take 16
theorem part16_length {bs : List UInt8} {k : Nat} (h : 16 * k + 16 ≤ bs.length) : (part16 bs k).length = 16 := by
  unfold part16; simp; omega
theorem nodeB_part {qs : List P3} {k : Nat} (h : k < qs.length) : part16 (nodeB qs) k = qs[k].bytes := by
  have e : nodeB qs = nodeB (qs.take k) ++ (qs[k].bytes ++ nodeB (qs.drop (k + 1))) := by
    rw [← nodeB_cons, ← List.drop_eq_getElem_cons h, ← nodeB_append, List.take_append_drop]
  have hl : (nodeB (qs.take k)).length = 16 * k := by rw [nodeB_length, List.length_take]; omega
  unfold part16
  rw [e, List.drop_append_of_le_length (by omega), List.drop_of_length_le (by omega), List.nil_append, List.take_append_of_le_length (by rw [P3.bytes_length]; omega), List.take_of_length_le (by rw [P3.bytes_length]; omega)]
/-- the sector of eight pointers -/
def nodeS (qs : List P3) : Sec := if h : (nodeB qs).length = 128 then ⟨nodeB qs, h⟩ else sec0
theorem nodeS_val {qs : List P3} (h : qs.length = 8) : (nodeS qs).1 = nodeB qs := by
  have : (nodeB qs).length = 128 := by rw [nodeB_length, h]
  unfold nodeS
  rw [dif_pos this]
def nodeRight (qs : List P3) : Bool := qs.all P3.rightB
def nodeO (qs : List P3) : Option Sec := if nodeRight qs = true then some (nodeS qs) else none
/-- the eight pointers that a sector's bytes are -/
def nodeOf (s : Sec) : List P3 := (List.range 8).map fun k => p3Of (part16 s.1 k)
theorem nodeOf_length (s : Sec) : (nodeOf s).length = 8 := by simp [nodeOf]
theorem nodeOf_get (s : Sec) {k : Nat} (h : k < 8) : (nodeOf s)[k]'(by rw [nodeOf_length]; exact h) = p3Of (part16 s.1 k) := by simp [nodeOf]
theorem part_len (s : Sec) {k : Nat} (h : k < 8) : (part16 s.1 k).length = 16 := part16_length (by rw [s.2]; omega)
theorem nodeOf_fit (s : Sec) : ∀ q ∈ nodeOf s, q.Fit := by
  intro q hq
  simp only [nodeOf, List.mem_map, List.mem_range] at hq
  obtain ⟨k, hk, rfl⟩ := hq
  exact P3.fit_of (part_len s hk)
def nodeR (s : Sec) : Option (List P3) := if nodeRight (nodeOf s) = true then some (nodeOf s) else none
/-- bytes are their own parts -/
theorem parts_join : ∀ (n : Nat) (bs : List UInt8), bs.length = 16 * n → (List.range n).flatMap (fun k => part16 bs k) = bs
  | 0, bs, h => by
    have : bs = [] := List.eq_nil_of_length_eq_zero (by omega)
    subst this; rfl
  | n + 1, bs, h => by
    rw [List.range_succ, List.flatMap_append]
    have h1 := parts_join n (bs.take (16 * n)) (by simp; omega)
    have e : (List.range n).flatMap (fun k => part16 bs k) = (List.range n).flatMap (fun k => part16 (bs.take (16 * n)) k) := by
      rw [List.flatMap_def, List.flatMap_def]
      congr 1
      refine List.map_congr_left fun k hk => ?_
      have hk := List.mem_range.1 hk
      unfold part16
      rw [List.drop_take, List.take_take, Nat.min_eq_left (by omega)]
    rw [e, h1]
    have : [n].flatMap (fun k => part16 bs k) = bs.drop (16 * n) := by
      simp only [List.flatMap_cons, List.flatMap_nil, List.append_nil]
      unfold part16
      rw [List.take_of_length_le (by simp; omega)]
    rw [this, List.take_append_drop]
theorem nodeS_of (s : Sec) : nodeS (nodeOf s) = s := by
  refine Subtype.ext ?_
  rw [nodeS_val (nodeOf_length s)]
  unfold nodeB nodeOf
  rw [List.flatMap_map]
  have : (List.range 8).flatMap (fun k => (p3Of (part16 s.1 k)).bytes) = (List.range 8).flatMap (fun k => part16 s.1 k) := by
    rw [List.flatMap_def, List.flatMap_def]
    congr 1
    exact List.map_congr_left fun k hk => bytes_p3Of (part_len s (List.mem_range.1 hk))
  rw [this]
  exact parts_join 8 s.1 (by rw [s.2])
theorem nodeOf_S {qs : List P3} (h : qs.length = 8) (hf : ∀ q ∈ qs, q.Fit) (hr : nodeRight qs = true) : nodeOf (nodeS qs) = qs := by
  apply List.ext_getElem
  · rw [nodeOf_length, h]
  · intro k h1 h2
    rw [nodeOf_get _ (by omega), nodeS_val h, nodeB_part h2]
    have hm := List.getElem_mem h2
    exact p3Of_bytes (hf _ hm) (List.all_eq_true.1 hr _ hm)
theorem nodeR_S {qs : List P3} (h : qs.length = 8) (hf : ∀ q ∈ qs, q.Fit) (hr : nodeRight qs = true) : nodeR (nodeS qs) = some qs := by
  unfold nodeR; rw [nodeOf_S h hf hr, if_pos hr]
theorem nodeO_R {s : Sec} {qs : List P3} (h : nodeR s = some qs) : nodeO qs = some s ∧ qs.length = 8 ∧ ∀ q ∈ qs, q.Fit := by
  unfold nodeR at h
  split at h
  · rename_i hr
    cases h
    exact ⟨by unfold nodeO; rw [if_pos hr, nodeS_of], nodeOf_length s, nodeOf_fit s⟩
  · cases h
theorem nodeS_inj {xs ys : List P3} (hx : xs.length = 8) (hy : ys.length = 8) (fx : ∀ q ∈ xs, q.Fit) (fy : ∀ q ∈ ys, q.Fit) (rx : nodeRight xs = true) (ry : nodeRight ys = true) (e : nodeS xs = nodeS ys) : xs = ys := by
  rw [← nodeOf_S hx fx rx, ← nodeOf_S hy fy ry, e]
def nodeEmpty (qs : List P3) : Bool := qs.all P3.holeB
def newestN : Nat → List P3 → Nat
  | n, [] => n
  | n, q :: r => newestN (if n < q.b then q.b else n) r
theorem newestN_le (n : Nat) (qs : List P3) : n ≤ newestN n qs ∧ ∀ q ∈ qs, q.b ≤ newestN n qs := by
  induction qs generalizing n with
  | nil => exact ⟨Nat.le_refl _, fun q h => by cases h⟩
  | cons x r ih =>
    unfold newestN
    have h1 := ih (if n < x.b then x.b else n)
    refine ⟨Nat.le_trans (by split <;> omega) h1.1, fun q hq => ?_⟩
    rcases List.mem_cons.1 hq with rfl | hq
    · exact Nat.le_trans (by split <;> omega) h1.1
    · exact h1.2 q hq
theorem newestN_append (n : Nat) (xs ys : List P3) : newestN n (xs ++ ys) = newestN (newestN n xs) ys := by
  induction xs generalizing n with
  | nil => rfl
  | cons x r ih => exact ih _
theorem newestN_lt {n : Nat} {qs : List P3} (hn : n < 18446744073709551616) (hf : ∀ q ∈ qs, q.Fit) : newestN n qs < 18446744073709551616 := by
  induction qs generalizing n with
  | nil => exact hn
  | cons x r ih =>
    unfold newestN
    refine ih ?_ fun q hq => hf q (.tail _ hq)
    have := (hf x (.head _)).2.1
    split <;> omega
theorem not_since (qs : List P3) {q : P3} (h : q ∈ qs) : q.sinceB (newestN 0 qs) = false := by
  unfold P3.sinceB
  have := (newestN_le 0 qs).2 q h
  simp
  intro _
  omega
def holes8 : List P3 := List.replicate 8 p3z
theorem nodeS_holes : nodeS holes8 = sec0 := by
  refine Subtype.ext ?_
  rw [nodeS_val (by simp [holes8])]
  decide +kernel
/-- one pointer behind holes -/
theorem holes_part {q : P3} {i : Nat} (hi : i < 8) {k : Nat} (hk : k < 8) : part16 (nodeS (holes8.set i q)).1 k = if k = i then q.bytes else List.replicate 16 0 := by
  have hl : (holes8.set i q).length = 8 := by simp [holes8]
  rw [nodeS_val hl, nodeB_part (by rw [hl]; exact hk), List.getElem_set]
  by_cases e : i = k
  · subst e; simp
  · have : ¬ k = i := fun h => e h.symm
    rw [if_neg e, if_neg this]
    simp only [holes8, List.getElem_replicate]
    decide +kernel
end Go.Proofs.Ytgdefibkemkejaa

/- Eight pointers in memory: by value, in a block of their own; '==' on them; how they read that came in. -/
namespace Go.Proofs.Ytgdefibkemkejaa
open Go.ChangeShapes Go.WideShapes Go.ChangeAt Go.RowKit Go.Deep
set_option linter.unusedVariables false
set_option maxRecDepth 20000

abbrev P8 := {l : List P3 // l.length = 8}
/-- their cells -/
def p8L (l : P8) : List Value := rowsL p3L l.1
theorem p8L_length (l : P8) : (p8L l).length = 24 := by unfold p8L; rw [rowsL_length p3L_length, l.2]
theorem p8L_one (l : P8) : ∀ v ∈ p8L l, v.oneCell' = true := rowsL_one_cell p3L_one l.1
def holesP : P8 := ⟨holes8, by simp [holes8]⟩
def P8.Fit (l : P8) : Prop := ∀ q ∈ l.1, q.Fit
theorem p3z_fit8 : p3z.Fit := ⟨by unfold I64; decide, by decide, by decide⟩
theorem holesP_fit : holesP.Fit := fun q hq => by
  have : q = p3z := List.eq_of_mem_replicate hq
  rw [this]; exact p3z_fit8
instance : DecidableEq P3 := fun p q => decidable_of_iff (p.eqB q = true) P3.eqB_iff
theorem p3L_inj {p q : P3} (h : p3L p = p3L q) : p = q := by
  unfold p3L at h
  simp only [List.cons.injEq, Value.int.injEq, true_and, and_true] at h
  exact P3.ext' h.1 (by have := h.2.1; omega) (by have := h.2.2; omega)
theorem infoP8 (l : P8) : (Try.prog.info? 66).map (·.size) = some (p8L l).length := by rw [p8L_length]; kernel_rfl
theorem zeroP8 (w : World) : Sem.run Try.prog (zeroValue 66) w = .ok (.agg (p8L holesP).toArray) w := by kernel_rfl
theorem builtP8 : Try.prog.built 66 [] = some (p8L holesP).toArray := by kernel_rfl
theorem wholeP8 {s t : P8} : p8L s = (p8L t).take 0 ++ p8L s ++ (p8L t).drop (0 + (p8L s).length) := whole_new (by rw [p8L_length, p8L_length])
theorem wholeSn {s t : Sec} : secL s = (secL t).take 0 ++ secL s ++ (secL t).drop (0 + (secL s).length) := whole_new (by rw [secL_length, secL_length])
theorem rowP8 {w : World} {g : Nat} {t : TypeId} {l : P8} (h : Blk w g t (p8L l)) : RowRes Try.prog w 66 (.pointer (some ⟨g, 0, none⟩)) (p8L l) :=
  ⟨⟨g, _, rfl, h⟩, ⟨_, Try.underlying66, rfl⟩, infoP8 l⟩
theorem rowSn {w : World} {g : Nat} {t : TypeId} {s : Sec} (h : Blk w g t (secL s)) : RowRes Try.prog w 23 (.pointer (some ⟨g, 0, none⟩)) (secL s) :=
  ⟨⟨g, _, rfl, h⟩, ⟨_, Try.underlying23, rfl⟩, infoSecL s⟩
theorem rangeN {w : World} {g : Nat} {t : TypeId} {cs : List Value} (h : Blk w g t cs) : w.rangeAt g 0 cs := h.range fun j v hv => by simpa using hv
theorem P8.lt (l : P8) {k : Nat} (h : k < 8) : k < l.1.length := by rw [l.2]; exact h
/-- the k-th pointer -/
def P8.get (l : P8) (k : Nat) : P3 := l.1.getD k p3z
theorem P8.get_eq (l : P8) {k : Nat} (h : k < 8) : l.get k = l.1[k]'(l.lt h) := by unfold P8.get; rw [List.getD_eq_getElem?_getD, List.getElem?_eq_getElem (l.lt h)]; rfl
theorem P8.get_fit {l : P8} (hf : l.Fit) {k : Nat} (h : k < 8) : (l.get k).Fit := by rw [l.get_eq h]; exact hf _ (List.getElem_mem _)
theorem P8.mem {l : P8} {q : P3} (h : q ∈ l.1) : ∃ k, k < 8 ∧ l.get k = q := by
  obtain ⟨k, hk, e⟩ := List.getElem_of_mem h
  have hk' : k < 8 := by rw [l.2] at hk; exact hk
  exact ⟨k, hk', by rw [l.get_eq hk']; exact e⟩
theorem P8.get_mem (l : P8) {k : Nat} (h : k < 8) : l.get k ∈ l.1 := by rw [l.get_eq h]; exact List.getElem_mem _
theorem P8.ext8 {l m : P8} (h : ∀ k, k < 8 → l.get k = m.get k) : l = m := by
  apply Subtype.ext
  apply List.ext_getElem (by rw [l.2, m.2])
  intro k h1 h2
  have hk : k < 8 := by rw [l.2] at h1; exact h1
  have := h k hk
  rwa [l.get_eq hk, m.get_eq hk] at this
/-- the k-th is another -/
def P8.set (l : P8) (k : Nat) (q : P3) : P8 := ⟨l.1.set k q, by rw [List.length_set, l.2]⟩
theorem P8.get_set (l : P8) {k j : Nat} (q : P3) (hj : j < 8) : (l.set k q).get j = if k = j then q else l.get j := by
  have hj' := l.lt hj
  unfold P8.get P8.set
  dsimp only
  rw [List.getD_eq_getElem?_getD, List.getD_eq_getElem?_getD, List.getElem?_set]
  by_cases e : k = j
  · subst e; simp [hj']
  · simp [e]
theorem P8.set_fit {l : P8} (hf : l.Fit) (k : Nat) {q : P3} (hq : q.Fit) : (l.set k q).Fit := fun x hx => by
  rcases List.mem_or_eq_of_mem_set hx with h | h
  · exact hf x h
  · rw [h]; exact hq
theorem p8L_at (l : P8) {k : Nat} (h : k < 8) {j : Nat} {v : Value} (hv : (p3L (l.get k))[j]? = some v) : (p8L l)[k * 3 + j]? = some v := by
  rw [l.get_eq h] at hv
  exact rowsL_at p3L_length l.1 k (l.lt h) j v hv
theorem p8L_part (l : P8) {k : Nat} (h : k < 8) : ((p8L l).drop (k * 3)).take 3 = p3L (l.get k) := by
  rw [l.get_eq h]
  unfold p8L
  rw [rowsL_split p3L_length l.1 k (l.lt h)]
  have hl : (rowsL p3L (l.1.take k)).length = k * 3 := by rw [rowsL_length p3L_length, List.length_take, Nat.min_eq_left (by rw [l.2]; omega)]
  rw [List.append_assoc, ← hl, List.drop_left, List.take_left' (p3L_length _)]
theorem p8L_set (l : P8) {k : Nat} (h : k < 8) (q : P3) : p8L (l.set k q) = (p8L l).take (k * 3) ++ p3L q ++ (p8L l).drop (k * 3 + 3) := rowsL_set p3L_length l.1 k (l.lt h) q
theorem p8L_inj {l m : P8} (h : p8L l = p8L m) : l = m := P8.ext8 fun k hk => p3L_inj (by rw [← p8L_part l hk, ← p8L_part m hk, h])
/-- the cells of the k-th pointer -/
theorem p8_cells {w : World} {g : Nat} {t : TypeId} {l : P8} (h : Blk w g t (p8L l)) {k : Nat} (hk : k < 8) :
    w.cell? ⟨g, k * 3, none⟩ = some (.int .i64 (l.get k).a) ∧ w.cell? ⟨g, k * 3 + 1, none⟩ = some (.int .u64 ((l.get k).b : Int)) ∧ w.cell? ⟨g, k * 3 + 2, none⟩ = some (.int .u32 ((l.get k).s : Int)) :=
  ⟨by rw [h.cell]; exact p8L_at l hk (j := 0) rfl, by rw [h.cell]; exact p8L_at l hk (j := 1) rfl, by rw [h.cell]; exact p8L_at l hk (j := 2) rfl⟩
theorem p8_range {w : World} {g : Nat} {t : TypeId} {l : P8} (h : Blk w g t (p8L l)) {k : Nat} (hk : k < 8) : w.rangeAt g (k * 3) (p3L (l.get k)) :=
  h.range fun j v hv => p8L_at l hk hv

/-! ### An element by value -/
theorem nIsAgg {P : Program} (w : World) {e : TypeId} {d : TypeDesc} (he : P.underlying e = some d) (hd : (match d with | .struct _ | .array _ _ => true | _ => false) = true) : (isAgg e).run P w = .ok true w := by
  cases d <;> simp at hd <;> simp [isAgg, run_underlying he]
theorem sizePtr (w : World) : (sizeOf 32).run Try.prog w = .ok 3 w := by kernel_rfl
theorem idx8 (l : P8) {k : Nat} (hk : k < 8) (w : World) : Sem.run Try.prog (Instr.index 66 (.agg (p8L l).toArray) (.int .i64 (k : Int))) w = .ok (.agg (p3L (l.get k)).toArray) w := by
  have hp := p8L_part l hk
  have hs := sizePtr w
  simp [Instr.index, run_underlying Try.underlying66, asIntOf, hk, part, hs, go_sem]
  exact hp

/-! ### '==' on eight pointers -/
theorem eqPtr9 (w : World) (p q : P3) : (Op.equalIn 9999 32 (.agg (p3L p).toArray) (.agg (p3L q).toArray)).run Try.prog w = .ok (p.eqB q) w := by
  have : (Op.equalIn 9999 32 (.agg #[.int .i64 p.a, .int .u64 (p.b : Int), .int .u32 (p.s : Int)]) (.agg #[.int .i64 q.a, .int .u64 (q.b : Int), .int .u32 (q.s : Int)])).run Try.prog w = .ok (p.eqB q) w := by
    go_simp
    unfold P3.eqB
    by_cases h1 : p.a = q.a <;> by_cases h2 : p.b = q.b <;> by_cases h3 : p.s = q.s <;> simp [h1, h2, h3, Int.natCast_inj]
  exact this
theorem run_eqRows {P : Program} (w : World) (xs ys : List P3) (hl : xs.length = ys.length) (f : Nat → (Option Bool × Unit) → Sem (ForInStep (Option Bool × Unit)))
    (hf : ∀ i (h : i < xs.length) s, (f i s).run P w = .ok (if xs[i].eqB (ys[i]'(hl ▸ h)) = true then .yield (none, ()) else .done (some false, ())) w) : ∀ (k i : Nat), i + k = xs.length →
    (forIn (m := Sem) (List.range' i k) ((none, ()) : Option Bool × Unit) f).run P w = .ok (if xs.drop i = ys.drop i then (none, ()) else (some false, ())) w := by
  intro k
  induction k with
  | zero =>
    intro i hi
    rw [List.drop_of_length_le (by omega), List.drop_of_length_le (by omega)]
    simp
  | succ k ih =>
    intro i hi
    have hx : i < xs.length := by omega
    have hy : i < ys.length := by omega
    have ih' := ih (i + 1) (by omega)
    rw [List.range'_succ, List.forIn_cons, Sem.run_bind, hf i hx]
    rw [List.drop_eq_getElem_cons hx, List.drop_eq_getElem_cons hy]
    by_cases hb : xs[i] = ys[i]
    · rw [if_pos (P3.eqB_iff.2 hb)]
      simp only [Result.andThen_ok, ih', hb, List.cons.injEq, true_and]
    · rw [if_neg (fun h => hb (P3.eqB_iff.1 h))]
      simp only [Result.andThen_ok, Sem.run_pure, List.cons.injEq, hb, false_and, if_false]
theorem part8 (l : P8) {k : Nat} (hk : k < 8) (w : World) : (part 32 (p8L l).toArray (k * 3)).run Try.prog w = .ok (.agg (p3L (l.get k)).toArray) w := by
  have hp := p8L_part l hk
  have he := nIsAgg (P := Try.prog) w Try.underlying32 rfl
  simp [part, he]
  exact hp
theorem eqP8 (w : World) (l m : P8) : (Op.equalIn 10000 66 (.agg (p8L l).toArray) (.agg (p8L m).toArray)).run Try.prog w = .ok (decide (l = m)) w := by
  rw [show (10000 : Nat) = 9999 + 1 from rfl, Op.equalIn]
  simp only [Sem.run_bind, run_underlying Try.underlying66, Result.andThen_ok, sizePtr]
  rw [Std.Legacy.Range.forIn_eq_forIn_range', show (Std.Legacy.Range.size [:8]) = 8 from by simp [Std.Legacy.Range.size]]
  have hlm : l.1.length = m.1.length := by rw [l.2, m.2]
  rw [run_eqRows (P := Try.prog) w l.1 m.1 hlm _ ?_ 8 0 (by rw [l.2])]
  · by_cases h : l = m
    · subst h; simp
    · have : ¬ l.1 = m.1 := fun e => h (Subtype.ext e)
      simp [h, this]
  · intro i h s
    have hi : i < 8 := by rw [l.2] at h; exact h
    simp only [Sem.run_bind, part8 l hi, part8 m hi, Result.andThen_ok, eqPtr9]
    rw [l.get_eq hi, m.get_eq hi]
    cases hb : l.1[i].eqB m.1[i]
    · simp
    · simp

/-! ### Eight pointers that came in -/
section
variable {H : Type} {enc : TypeId × Value → H} {W : World} {base : Nat} {spare : Nat → Bool} {held : Bool} {fuel : Nat} {cs : List Value} {x : DataW H × List MemPlace}
theorem nList3 {α : Type} {l : List α} (h : l.length = 3) : ∃ a b c, l = [a, b, c] := by
  match l, h with
  | [a, b, c], _ => exact ⟨a, b, c, rfl⟩
theorem nOpenPtr (h : DataW.trod enc Try.prog W base spare held fuel 32 cs = some x) : ∃ p : P3, cs = p3L p ∧ p.Fit := by
  obtain ⟨xs, k, _, hxs, hcl, hxl, hfld⟩ := DataW.trod_struct Try.underlying32 h
  have cI : Try.prog.cellsOf 3 = 1 := by kernel_rfl
  have cU : Try.prog.cellsOf 29 = 1 := by kernel_rfl
  have cW : Try.prog.cellsOf 30 = 1 := by kernel_rfl
  have c3 : Try.prog.cellsOf 32 = 3 := by kernel_rfl
  rw [c3] at hcl
  obtain ⟨v0, v1, v2, rfl⟩ := nList3 hcl
  have hl3 : xs.length = 3 := hxl
  have g0 : DataW.trod enc Try.prog W base spare held k 3 ((List.drop 0 [v0, v1, v2]).take (Try.prog.cellsOf 3)) = xs[0]? := hfld 0 _ rfl
  have g1 : DataW.trod enc Try.prog W base spare held k 29 ((List.drop 1 [v0, v1, v2]).take (Try.prog.cellsOf 29)) = xs[1]? := hfld 1 _ rfl
  have g2 : DataW.trod enc Try.prog W base spare held k 30 ((List.drop 2 [v0, v1, v2]).take (Try.prog.cellsOf 30)) = xs[2]? := hfld 2 _ rfl
  rw [List.getElem?_eq_getElem (by omega)] at g0 g1 g2
  obtain ⟨a, e0, _, wa⟩ := DataW.trod_int Try.underlying3 g0
  obtain ⟨b, e1, _, wb⟩ := DataW.trod_int Try.underlying29 g1
  obtain ⟨s, e2, _, ws⟩ := DataW.trod_int Try.underlying30 g2
  rw [show (List.drop 0 [v0, v1, v2]).take (Try.prog.cellsOf 3) = [v0] from by rw [cI]; rfl] at e0
  rw [show (List.drop 1 [v0, v1, v2]).take (Try.prog.cellsOf 29) = [v1] from by rw [cU]; rfl] at e1
  rw [show (List.drop 2 [v0, v1, v2]).take (Try.prog.cellsOf 30) = [v2] from by rw [cW]; rfl] at e2
  cases e0; cases e1; cases e2
  obtain ⟨b', rfl, hb⟩ := nat_u64 wb
  obtain ⟨s', rfl, hs⟩ := nat_u32 ws
  exact ⟨⟨a, b', s'⟩, rfl, wf_i64 wa, hb, hs⟩
end
/-- rows that are known one by one -/
theorem rows_of {α : Type} {f : α → List Value} {c : Nat} (hf : ∀ x, (f x).length = c) : ∀ (n : Nat) (l : List Value) (g : Nat → α), l.length = n * c → (∀ i, i < n → (l.drop (i * c)).take c = f (g i)) → l = rowsL f ((List.range n).map g)
  | 0, l, g, hl, _ => by
    have : l = [] := List.eq_nil_of_length_eq_zero (by omega)
    subst this; rfl
  | n + 1, l, g, hl, h => by
    rw [Nat.add_mul] at hl
    have h1 := rows_of hf n (l.take (n * c)) g (by rw [List.length_take]; omega) (fun i hi => by
      rw [← h i (by omega), List.drop_take, List.take_take, Nat.min_eq_left]
      have : (i + 1) * c ≤ n * c := Nat.mul_le_mul_right _ hi
      rw [Nat.add_mul] at this
      omega)
    rw [List.range_succ, List.map_append, rowsL_append, ← h1]
    have h2 := h n (by omega)
    rw [List.take_of_length_le (by rw [List.length_drop]; omega)] at h2
    show l = l.take (n * c) ++ rowsL f [g n]
    rw [rowsL_one, ← h2, List.take_append_drop]
section
variable {H : Type} {enc : TypeId × Value → H} {W : World} {base : Nat} {v : Value} {d : DataW H} {ps : List MemPlace}
theorem open_ptrs8 (h : DataW.Trod enc Try.prog W 0 (fun _ => true) true 66 v d ps) (hv : Value.okWide Try.prog W .any base 66 v) : ∃ l : P8, v = .agg (p8L l).toArray ∧ l.Fit := by
  obtain ⟨cs, rfl⟩ : ∃ cs, v = .agg cs := by
    simp only [Value.okWide, Try.underlying66] at hv
    obtain ⟨cs, h1, _⟩ := hv
    exact ⟨cs, h1⟩
  obtain ⟨fuel, hf⟩ := h
  obtain ⟨xs, m, _, _, hl, hxl, hi⟩ := DataW.trod_array Try.underlying66 hf
  have hc : Try.prog.cellsOf 32 = 3 := by kernel_rfl
  have hc2 : Try.prog.cellsOf 66 = 24 := by kernel_rfl
  rw [hc2] at hl
  have key : ∀ i, ∃ p : P3, i < 8 → (cs.toList.drop (i * 3)).take 3 = p3L p ∧ p.Fit := fun i => by
    by_cases hi8 : i < 8
    · have := hi i (by omega)
      rw [hc, List.getElem?_eq_getElem (by omega)] at this
      obtain ⟨p, h1, h2⟩ := nOpenPtr this
      exact ⟨p, fun _ => ⟨h1, h2⟩⟩
    · exact ⟨p3z, fun h => absurd h hi8⟩
  obtain ⟨g, hg⟩ : ∃ g : Nat → P3, ∀ i, i < 8 → (cs.toList.drop (i * 3)).take 3 = p3L (g i) ∧ (g i).Fit := ⟨fun i => (key i).choose, fun i => (key i).choose_spec⟩
  refine ⟨⟨(List.range 8).map g, by simp⟩, ?_, fun q hq => ?_⟩
  · congr 1
    apply Array.toList_inj.1
    rw [rows_of p3L_length 8 cs.toList g hl (fun i hi => (hg i hi).1)]
    rfl
  · simp only [List.mem_map, List.mem_range] at hq
    obtain ⟨i, hi, rfl⟩ := hq
    exact (hg i hi).2
end

/-! ### A sector's parts -/
theorem nPart {w : World} {g : Nat} {t : TypeId} {s : Sec} (h : Blk w g t (secL s)) (k : Nat) : Bytes w (some ⟨g, 16 * k, none⟩) (part16 s.1 k) := by
  intro i hi
  have hi' : 16 * k + i < (secL s).length := by
    simp only [part16, bytesV, List.length_map, List.length_take, List.length_drop] at hi
    simp only [secL, bytesV, List.length_map]; omega
  refine ⟨g, 16 * k, rfl, ?_⟩
  rw [h.cell, List.getElem?_eq_getElem hi']
  simp [secL, bytesV, part16]
end Go.Proofs.Ytgdefibkemkejaa

/- Empty and Newest of eight pointers: the program's and the document's. -/
namespace Go.Proofs.Ytgdefibkemkejaa
open Go.ChangeShapes Go.WideShapes Go.ChangeAt Go.RowKit
set_option linter.unusedVariables false
set_option maxRecDepth 20000

theorem nodeEmpty_iff (l : P8) : nodeEmpty l.1 = decide (l = holesP) := by
  rw [Bool.eq_iff_iff, decide_eq_true_iff]
  unfold nodeEmpty
  rw [List.all_eq_true]
  have hole : ∀ q : P3, q.holeB = true ↔ q = p3z := fun q => by
    unfold P3.holeB
    simp only [Bool.and_eq_true, decide_eq_true_iff]
    exact ⟨fun ⟨h1, h2, h3⟩ => P3.ext' h1 h2 h3, fun h => by subst h; exact ⟨rfl, rfl, rfl⟩⟩
  constructor
  · intro h
    refine P8.ext8 fun k hk => ?_
    rw [(hole _).1 (h _ (l.get_mem hk))]
    have := P8.get_mem holesP hk
    exact (List.eq_of_mem_replicate this).symm
  · rintro rfl q hq
    exact (hole q).2 (List.eq_of_mem_replicate hq)

set_option maxHeartbeats 2000000 in
theorem Empty_any (l : P8) (w : World) :
    Calls Try.prog 47 #[.agg (p8L l).toArray] w fun e w' => e = .returned (.bool (nodeEmpty l.1)) ∧ Below w.heap.size w w' := by
  rw [nodeEmpty_iff]
  have heq := fun w => eqP8 w l holesP
  generalize decide (l = holesP) = b at *
  have h0 := Lib.hid (Blk.new w 66 (p8L l))
  go_enter Try.func47, Try.ntmps47
  go_wp2_with (first
    | ((with_reducible refine guardList ?_); refine wantList_load (by rfl) 66 _ rfl w.heap.size 0 (by rfl) (p8L l) _ (rangeN h0.out) Try.underlying66 rfl (infoP8 _) ?_)
    | ((with_reducible refine guardList ?_); refine wantList_build (by rfl) 66 [] rfl (p8L holesP) _ (by rfl) builtP8 ?_))
  go_ret
  exact ⟨rfl, (Below.refl _ _).alloc (Nat.le_refl _) _⟩

/-- are the first k holes? -/
def holesUpto (l : P8) (k : Nat) : Bool := nodeEmpty (l.1.take k)
theorem holesUpto_succ (l : P8) {k : Nat} (h : k < 8) : holesUpto l (k + 1) = (holesUpto l k && (l.get k).holeB) := by
  unfold holesUpto nodeEmpty
  rw [List.take_succ_eq_append_getElem (l.lt h), List.all_append, l.get_eq h]
  simp
theorem holesUpto_eight (l : P8) : holesUpto l 8 = nodeEmpty l.1 := by
  unfold holesUpto
  rw [List.take_of_length_le (by rw [l.2]; omega)]
theorem holesUpto_no {l : P8} {k : Nat} (hk : k < 8) (h : (l.get k).holeB = false) : nodeEmpty l.1 = false := by
  unfold nodeEmpty
  rw [List.all_eq_false]
  exact ⟨_, l.get_mem hk, by rw [h]; decide⟩

/-- the greatest birth of the first k -/
def newUpto (l : P8) (k : Nat) : Nat := newestN 0 (l.1.take k)
theorem newUpto_succ (l : P8) {k : Nat} (h : k < 8) : newUpto l (k + 1) = if newUpto l k < (l.get k).b then (l.get k).b else newUpto l k := by
  unfold newUpto
  rw [List.take_succ_eq_append_getElem (l.lt h), newestN_append, l.get_eq h]
  rfl
theorem newUpto_eight (l : P8) : newUpto l 8 = newestN 0 l.1 := by
  unfold newUpto
  rw [List.take_of_length_le (by rw [l.2]; omega)]

end Go.Proofs.Ytgdefibkemkejaa

/- Eight pointers as a sector: the program's Bytes. -/
namespace Go.Proofs.Ytgdefibkemkejaa
open Go.ChangeShapes Go.WideShapes Go.ChangeAt Go.RowKit
set_option linter.unusedVariables false
set_option maxRecDepth 20000

def P8.sec (l : P8) : Sec := nodeS l.1
def P8.right (l : P8) : Bool := nodeRight l.1
def P8.secO (l : P8) : Option Sec := if l.right = true then some l.sec else none
/-- a sector and an error -/
def NSRes (n : Int) (o : Option Sec) (w : World) (e : Ending) (w' : World) : Prop :=
  e = .returned (.tuple #[.agg (secL (o.getD sec0)).toArray, .int .i64 (errI n o)]) ∧ Below w.heap.size w w'

/-- are the first k right? -/
def rightUpto (l : P8) (k : Nat) : Bool := nodeRight (l.1.take k)
theorem rightUpto_succ (l : P8) {k : Nat} (h : k < 8) : rightUpto l (k + 1) = (rightUpto l k && (l.get k).rightB) := by
  unfold rightUpto nodeRight
  rw [List.take_succ_eq_append_getElem (l.lt h), List.all_append, l.get_eq h]
  simp
theorem rightUpto_eight (l : P8) : rightUpto l 8 = l.right := by
  unfold rightUpto P8.right
  rw [List.take_of_length_le (by rw [l.2]; omega)]
theorem right_no {l : P8} {k : Nat} (hk : k < 8) (h : (l.get k).rightB = false) : l.right = false := by
  unfold P8.right nodeRight
  rw [List.all_eq_false]
  exact ⟨_, l.get_mem hk, by rw [h]; decide⟩
theorem right_at {l : P8} {k : Nat} (hk : k < 8) (h : l.right = true) : (l.get k).rightB = true := by
  unfold P8.right nodeRight at h
  exact List.all_eq_true.1 h _ (l.get_mem hk)

/-- the bytes of the first k, and zeros -/
def nodeUp (l : P8) (k : Nat) : List UInt8 := nodeB (l.1.take k) ++ List.replicate (128 - 16 * k) 0
theorem nodeB_take (l : P8) {k : Nat} (h : k ≤ 8) : (nodeB (l.1.take k)).length = 16 * k := by rw [nodeB_length, List.length_take, l.2, Nat.min_eq_left h]
theorem nodeUp_length (l : P8) {k : Nat} (h : k ≤ 8) : (bytesV (nodeUp l k)).length = 128 := by
  rw [bytesV_length, nodeUp, List.length_append, nodeB_take l h, List.length_replicate]; omega
theorem nodeUp_zero (l : P8) : bytesV (nodeUp l 0) = secL sec0 := rfl
theorem nodeUp_eight (l : P8) : bytesV (nodeUp l 8) = secL l.sec := by
  unfold nodeUp secL P8.sec
  rw [nodeS_val l.2, List.take_of_length_le (by rw [l.2]; omega)]
  simp
theorem nodeUp_step (l : P8) {k : Nat} (h : k < 8) : bytesV (nodeUp l (k + 1)) = (bytesV (nodeUp l k)).take (16 * k) ++ (bytesV (l.get k).bytes ++ (bytesV (nodeUp l k)).drop (16 * k + 16)) := by
  have h1 := nodeB_take l (k := k) (by omega)
  have e : (nodeUp l (k + 1)) = (nodeUp l k).take (16 * k) ++ ((l.get k).bytes ++ (nodeUp l k).drop (16 * k + 16)) := by
    unfold nodeUp
    rw [List.take_succ_eq_append_getElem (l.lt h), nodeB_append, l.get_eq h]
    have e1 : nodeB [l.1[k]'(l.lt h)] = (l.1[k]'(l.lt h)).bytes := by simp [nodeB]
    rw [e1]
    generalize nodeB (l.1.take k) = X at *
    generalize (l.1[k]'(l.lt h)).bytes = Y
    rw [← h1, List.take_left, ← List.drop_drop, List.drop_left, List.drop_replicate, List.append_assoc, h1]
    congr 3
  rw [e]
  unfold bytesV
  rw [List.map_append, List.map_append, List.map_take, List.map_drop]

/-- a sector's bytes from here on -/
theorem cutSec_l (g : Nat) {k : Nat} (h : k < 8) (w : World) :
    Sem.run Try.prog (Instr.sliceAt 23 (.pointer (some ⟨g, 0, none⟩)) (some (.int .i64 ((k : Int) * 16))) none none) w = .ok (.slice (some ⟨g, 16 * k, none⟩) (128 - 16 * k) (128 - 16 * k)) w := by
  have hn : Try.prog.arrayLen 23 = 128 := by kernel_rfl
  have hu : Try.prog.underlying 23 = some (.array (Try.prog.arrayLen 23) (Try.prog.elem 23)) := by kernel_rfl
  have he : Try.prog.elem 23 = 5 := by kernel_rfl
  have hr := run_sliceAt_array_l (P := Try.prog) w 23 ⟨g, 0, none⟩ hu .i64 ((k : Int) * 16) (by omega) (by rw [hn]; omega)
  rw [hr, he, cells5]
  simp only [Result.andThen, hn, slicedAt]
  rw [if_neg (by omega), Nat.mul_one, Go.WideShapes.add_plain, Nat.zero_add, show ((k : Int) * 16).toNat = 16 * k from by omega]

/-- in the midst of Bytes: the zero of the result, the sector under way -/
structure NB (w0 w : World) (cs : List Value) : Prop where
  z : Blk w (w0.heap.size + 1) 23 (secL sec0)
  a : Blk w (w0.heap.size + 2) 23 cs
  q : Below w0.heap.size w0 w
namespace NB
variable {w0 w w' : World} {cs cs' : List Value}
theorem call (h : NB w0 w cs) (hb : Below w.heap.size w w') : NB w0 w' cs := ⟨blk_out h.z hb, blk_out h.a hb, h.q.trans (hb.mono h.q.size)⟩
theorem alloc (h : NB w0 w cs) (o : Obj) : NB w0 (w.alloc o) cs := h.call ((Below.refl _ _).alloc (Nat.le_refl _) o)
theorem copy (h : NB w0 w cs) (k : Kept (· = w0.heap.size + 2) w w') (hb : Blk w' (w0.heap.size + 2) 23 cs') : NB w0 w' cs' :=
  ⟨h.z.kept k (by omega), hb, Kept.out h.q k (fun i _ e => by omega) h.q.size⟩
theorem lt (h : NB w0 w cs) : w0.heap.size + 2 < w.heap.size := h.a.lt
end NB

set_option maxHeartbeats 4000000 in
theorem nBytes_any (l : P8) (w : World) (hf : l.Fit) :
    Calls Try.prog 60 #[.agg (p8L l).toArray] w (NSRes 51 l.secO w) := by
  obtain ⟨wb, hwb⟩ : ∃ wb : World, Hid (wb = ((w.alloc (.cells (p8L l).toArray 66)).alloc (.cells (secL sec0).toArray 23)).alloc (.cells (secL sec0).toArray 23)) := ⟨_, Lib.hid rfl⟩
  have hL : Hid (Blk wb w.heap.size 66 (p8L l)) := Lib.hid (by rw [hwb.out]; exact ((Blk.new w _ _).alloc _).alloc _)
  have H0 : Hid (NB w wb (bytesV (nodeUp l 0))) := Lib.hid (by
    rw [hwb.out, nodeUp_zero]
    refine ⟨(two_new w _ _ _).alloc _, ?_, ?_⟩
    · have := Blk.new ((w.alloc (.cells (p8L l).toArray 66)).alloc (.cells (secL sec0).toArray 23)) 23 (secL sec0)
      simpa using this
    · exact (two_below w _ _).alloc (by simp; omega) _)
  have hB : Hid (∀ k : Nat, k < 8 → ∀ W : World, Calls Try.prog 68 #[p3V (l.get k)] W (BRes 51 (l.get k).bytesO W)) := Lib.hid fun k hk W => pBytes_any _ _ _ W (P8.get_fit hf hk)
  have hx : Hid (∀ k : Nat, k < 8 → ∀ W : World, Sem.run Try.prog (Instr.index 66 (.agg (p8L l).toArray) (.int .i64 (k : Int))) W = .ok (.agg (p3L (l.get k)).toArray) W) := Lib.hid fun k hk W => idx8 l hk W
  have hr : Hid (∀ k : Nat, k < 8 → rightUpto l (k + 1) = (rightUpto l k && (l.get k).rightB)) := Lib.hid fun k hk => rightUpto_succ l hk
  have hno : Hid (∀ k : Nat, k < 8 → (l.get k).rightB = false → l.secO = none) := Lib.hid fun k hk h => by unfold P8.secO; rw [right_no hk h]; rfl
  have hyes : Hid (rightUpto l 8 = true → l.secO = some l.sec) := Lib.hid fun h => by unfold P8.secO; rw [← rightUpto_eight l, h]; rfl
  have hst : Hid (∀ k : Nat, k < 8 → bytesV (nodeUp l (k + 1)) = (bytesV (nodeUp l k)).take (16 * k) ++ (bytesV (l.get k).bytes ++ (bytesV (nodeUp l k)).drop (16 * k + 16))) := Lib.hid fun k hk => nodeUp_step l hk
  have h8 : Hid (bytesV (nodeUp l 8) = secL l.sec) := Lib.hid (nodeUp_eight l)
  have hln : Hid (∀ k : Nat, k ≤ 8 → (bytesV (nodeUp l k)).length = 128) := Lib.hid fun k hk => nodeUp_length l hk
  have hr0 : Hid (rightUpto l 0 = true) := Lib.hid rfl
  have hz := zeroSec
  generalize l.secO = O at *
  generalize l.sec = S at *
  go_enter Try.func60, Try.ntmps60
  go_upto_region 2 with (fail)
  rw [← hwb.out]
  go_wp2_with ((with_reducible refine guardList ?_); refine wantList_load (by rfl) 66 _ rfl w.heap.size 0 (by rfl) (p8L l) _ (rangeN hL.out) Try.underlying66 rfl (infoP8 _) ?_)
  generalize (p8L l).toArray = L at *
  go_loopw [10] (fun i wr => ∃ k : Nat, k ≤ 8 ∧ i = .int .i64 k ∧ Hid (rightUpto l k = true) ∧ Hid (NB w wr (bytesV (nodeUp l k))))
    (fun i _ => 8 - (intOf i).toNat)
  case atStart => exact ⟨0, by omega, rfl, hr0, H0⟩
  case round =>
    clear H0 hL hwb
    obtain ⟨k, hk, rfl, hR, H⟩ := hrel
    by_cases hlt : k < 8
    · have hB1 := hB.out k hlt
      have hx0 := hx.out k hlt
      have hr1 := hr.out k hlt
      have hno1 := hno.out k hlt
      have hst1 := Lib.hid (hst.out k hlt)
      have hln1 := Lib.hid (hln.out k (by omega))
      have hrw : rightUpto l (k + 1) = (l.get k).rightB := by rw [hr1, hR.out, Bool.true_and]
      clear hr1
      have hbl : Hid ((bytesV (l.get k).bytes).length = 16) := Lib.hid (by rw [bytesV_length, P3.bytes_length])
      generalize l.get k = qq at *
      have hbo : qq.bytesO = if qq.rightB then some qq.bytes else none := rfl
      generalize qq.rightB = rb at *
      generalize qq.bytes = BS at *
      generalize qq.bytesO = BO at *
      obtain ⟨a, b, s⟩ := qq
      unfold p3V at hB1
      dsimp only at hB1
      have hx1 : ∀ W, Sem.run Try.prog (Instr.index 66 (.agg L) (.int .i64 (k : Int))) W = .ok (.agg #[.int .i64 a, .int .u64 (b : Int), .int .u32 (s : Int)]) W := hx0
      clear hx0
      have hB1 := Lib.hid hB1
      have hcut := fun W => cutSec_l (w.heap.size + 2) hlt W
      have hgs := H.out.lt
      cases rb with
      | false =>
        obtain rfl : BO = none := hbo
        obtain rfl : O = none := hno1 rfl
        clear hcut hrw
        go_wp2_with fail
        refine (hB1.out _).mono ?_
        intro e w2 hR2
        obtain ⟨ao, cap, rfl, _, _, b2⟩ := hR2.nope rfl
        have H2 := Lib.hid ((H.out.alloc _).call b2)
        clear b2 hR2
        go_wp2_with (first
          | ((with_reducible refine guardList ?_); refine wantList_build (by rfl) 23 [] rfl (secL sec0) _ (by rfl) built_sec0 ?_)
          | ((with_reducible refine guardList ?_)
             refine wantList_store (by rfl) 23 _ _ rfl (w.heap.size + 1) 0 (by rfl) (secL sec0) (by rfl) _ (secL sec0) (secL sec0) H2.out.z (by simp only [secL_length]; decide) (secL_one _) (infoSecL _) wholeSn ?_
             intro w5 hR5 k5 z5
             have hR5 := Lib.hid hR5
             have q5 := Lib.hid (Kept.out H2.out.q k5 (fun i _ e => by omega) H2.out.q.size)
             clear z5 k5))
        refine bodyPost_ret (results_row_tmp rfl (rowSn hR5.out)) rfl ⟨rfl, q5.out⟩
      | true =>
        obtain rfl : BO = some BS := hbo
        have hrw := Lib.hid hrw
        clear hno1
        go_wp2_with fail
        refine (hB1.out _).mono ?_
        intro e w2 hR2
        obtain ⟨ao, cap, rfl, hrd, hc1, hc2, hnil, b2⟩ := hR2.yes rfl (m := 16) (by have := hbl.out; rwa [bytesV_length] at this)
        have H2 := Lib.hid ((H.out.alloc _).call b2)
        clear b2 hR2
        go_wp2_with (first
          | (refine wpList_copyR rfl (.tmp 24) (.tmp 25) 39 39 rfl 5 Try.underlying39 infoU8' (w.heap.size + 2) (16 * k) (128 - 16 * k) (128 - 16 * k) (by rfl) ao 16 cap (by rfl) 23 _ (bytesV (nodeUp l (k + 1))) (bytesV BS) H2.out.a hbl.out (by omega) (by omega) hrd.out (by rw [hln1.out]; omega) (bytesV_one _) hst1.out ?_
             intro w6 hb6 k6 z6
             have H6 := Lib.hid (H2.out.copy k6 hb6)
             clear hb6 k6 z6))
        go_roundw
        case rel => exact ⟨k + 1, by omega, by go_num, hrw, H6⟩
        case measure => simp [intOf] <;> omega
    · obtain rfl : k = 8 := by omega
      obtain rfl : O = some S := hyes.out hR.out
      rw [h8.out] at H
      go_wp2_with (first
        | ((with_reducible refine guardList ?_); refine wantList_load (by rfl) 23 _ rfl (w.heap.size + 2) 0 (by rfl) (secL S) _ (rangeN H.out.a) Try.underlying23 rfl (infoSecL _) ?_)
        | ((with_reducible refine guardList ?_)
           refine wantList_store (by rfl) 23 _ _ rfl (w.heap.size + 1) 0 (by rfl) (secL S) (by rfl) _ (secL sec0) (secL S) H.out.z (by simp only [secL_length]; decide) (secL_one _) (infoSecL _) wholeSn ?_
           intro w5 hR5 k5 z5
           have hR5 := Lib.hid hR5
           have q5 := Lib.hid (Kept.out H.out.q k5 (fun i _ e => by omega) H.out.q.size)
           clear z5 k5))
      refine bodyPost_ret (results_row_tmp rfl (rowSn hR5.out)) rfl ⟨rfl, q5.out⟩
end Go.Proofs.Ytgdefibkemkejaa

/- Eight pointers as a sector: the document's own Bytes. -/
namespace Go.Proofs.Ytgdefibkemkejaa
open Go.ChangeShapes Go.WideShapes Go.ChangeAt Go.RowKit
set_option linter.unusedVariables false
set_option maxRecDepth 20000

/-- in the midst of it: the box, the zero of the result, the bytes so far -/
structure NRB (w0 w : World) (l : P8) (v : Value) (bs : List UInt8) : Prop where
  u : Blk w w0.heap.size 66 (p8L l)
  z : Blk w (w0.heap.size + 1) 23 (secL sec0)
  q : Below w0.heap.size w0 w
  own : Own w (w0.heap.size + 2) 5 v (bytesV bs)
namespace NRB
variable {w0 w w' : World} {l : P8} {v v' : Value} {bs cs : List UInt8}
theorem base (h : NRB w0 w l v bs) : w0.heap.size + 2 ≤ w.heap.size := h.z.lt
theorem call (h : NRB w0 w l v bs) (hb : Below w.heap.size w w') : NRB w0 w' l v bs := ⟨blk_out h.u hb, blk_out h.z hb, h.q.trans (hb.mono h.q.size), h.own.below hb⟩
theorem app (h : NRB w0 w l v bs) (ho : Own w' (w0.heap.size + 2) 5 v' (bytesV bs ++ bytesV cs)) (hg : Grew w w' v v') : NRB w0 w' l v' (bs ++ cs) := by
  have hb : Below (w0.heap.size + 2) w w' := hg.out h.base (fun g hg' => (h.own.lt g hg').1)
  exact ⟨h.u.below hb (by omega), h.z.below hb (by omega), h.q.trans (hb.mono (by omega)), by rw [bytesV_append]; exact ho⟩
end NRB
theorem nFill {bs : List UInt8} (h : bs.length = 128) {k : Nat} (hk : k < bs.length) : (bytesV (bs.take k ++ List.replicate (128 - k) 0)).set k (byteV bs[k]) = bytesV (bs.take (k + 1) ++ List.replicate (128 - (k + 1)) 0) := by
  have hl : (bs.take k).length = k := by rw [List.length_take]; omega
  have e : List.replicate (128 - k) (0 : UInt8) = 0 :: List.replicate (128 - (k + 1)) 0 := by rw [← List.replicate_succ]; congr 1; omega
  have e2 : (bs.take k ++ List.replicate (128 - k) 0).set k bs[k] = bs.take (k + 1) ++ List.replicate (128 - (k + 1)) 0 := by
    rw [e, List.set_append_right _ _ (by omega), hl, Nat.sub_self, List.set_cons_zero, List.take_succ_eq_append_getElem hk, List.append_assoc]
    rfl
  rw [← e2]
  unfold bytesV
  rw [List.map_set]
theorem nodeB_next (l : P8) {k : Nat} (h : k < 8) : nodeB (l.1.take (k + 1)) = nodeB (l.1.take k) ++ (l.get k).bytes := by
  rw [List.take_succ_eq_append_getElem (l.lt h), nodeB_append, l.get_eq h]
  simp [nodeB]
theorem nodeB_all (l : P8) : nodeB (l.1.take 8) = l.sec.1 := by
  unfold P8.sec
  rw [nodeS_val l.2, List.take_of_length_le (by rw [l.2]; omega)]

end Go.Proofs.Ytgdefibkemkejaa

/- The eight pointers of a sector: the program's Read. -/
namespace Go.Proofs.Ytgdefibkemkejaa
open Go.ChangeShapes Go.WideShapes Go.ChangeAt Go.RowKit
set_option linter.unusedVariables false
set_option maxRecDepth 20000

def nodeP (s : Sec) : P8 := ⟨nodeOf s, nodeOf_length s⟩
theorem nodeP_get (s : Sec) {k : Nat} (h : k < 8) : (nodeP s).get k = p3Of (part16 s.1 k) := by rw [P8.get_eq _ h]; exact nodeOf_get s h
theorem nodeP_fit (s : Sec) : (nodeP s).Fit := nodeOf_fit s
def nodeRP (s : Sec) : Option P8 := if (nodeP s).right = true then some (nodeP s) else none
theorem nodeP_O (s : Sec) {k : Nat} (h : k < 8) : p3O (part16 s.1 k) = if ((nodeP s).get k).rightB = true then some ((nodeP s).get k) else none := by
  unfold p3O
  rw [nodeP_get s h, part_len s h]
  simp
/-- eight pointers and an error -/
def NRRes (n : Int) (o : Option P8) (w : World) (e : Ending) (w' : World) : Prop :=
  e = .returned (.tuple #[.agg (p8L (o.getD holesP)).toArray, .int .i64 (errI n o)]) ∧ Below w.heap.size w w'

/-- the first k, and holes -/
def readUp (s : Sec) : Nat → P8
  | 0 => holesP
  | k + 1 => (readUp s k).set k ((nodeP s).get k)
theorem readUp_get (s : Sec) : ∀ (k : Nat) {j : Nat}, j < 8 → (readUp s k).get j = if j < k then (nodeP s).get j else p3z
  | 0, j, h => by
    have := P8.get_mem holesP h
    rw [if_neg (by omega)]
    exact List.eq_of_mem_replicate this
  | k + 1, j, h => by
    show ((readUp s k).set k ((nodeP s).get k)).get j = _
    rw [P8.get_set _ _ h, readUp_get s k h]
    by_cases e : k = j
    · subst e; rw [if_pos rfl, if_pos (by omega)]
    · rw [if_neg e]
      by_cases h2 : j < k
      · rw [if_pos h2, if_pos (by omega)]
      · rw [if_neg h2, if_neg (by omega)]
theorem readUp_eight (s : Sec) : readUp s 8 = nodeP s := P8.ext8 fun k hk => by rw [readUp_get s 8 hk, if_pos hk]
theorem readUp_step (s : Sec) {k : Nat} (h : k < 8) : p8L (readUp s (k + 1)) = (p8L (readUp s k)).take (k * 3) ++ p3L ((nodeP s).get k) ++ (p8L (readUp s k)).drop (k * 3 + (p3L ((nodeP s).get k)).length) := by
  rw [p3L_length]; exact p8L_set _ h _

theorem nRead16 (bo : Option Addr) (cap : Nat) (bs : List UInt8) (hl : bs.length = 16) (w : World) (hy : Bytes w bo bs) (hc : 16 ≤ cap) (hm : cap ≤ 9223372036854775807) :
    Calls Try.prog 66 #[.slice bo 16 cap] w (RRes 51 (p3O bs) w) := by
  have := pRead_any bo cap bs w hy (by omega) hm
  rwa [hl] at this
/-- sixteen of a sector's bytes -/
theorem cutSec_lh (g : Nat) {k : Nat} (h : k < 8) (x y : Int) (hx : x = 16 * k) (hy : y = 16 * k + 16) (w : World) :
    Sem.run Try.prog (Instr.sliceAt 23 (.pointer (some ⟨g, 0, none⟩)) (some (.int .i64 x)) (some (.int .i64 y)) none) w = .ok (.slice (some ⟨g, 16 * k, none⟩) 16 (128 - 16 * k)) w := by
  subst hx hy
  have hn : Try.prog.arrayLen 23 = 128 := by kernel_rfl
  have hu : Try.prog.underlying 23 = some (.array (Try.prog.arrayLen 23) (Try.prog.elem 23)) := by kernel_rfl
  have he : Try.prog.elem 23 = 5 := by kernel_rfl
  have hr := run_sliceAt_array_lh (P := Try.prog) w 23 ⟨g, 0, none⟩ hu .i64 .i64 (16 * (k : Int)) (16 * (k : Int) + 16) (by omega) (by omega) (by rw [hn]; omega)
  rw [hr, he, cells5]
  simp only [Result.andThen, hn, slicedAt]
  rw [if_neg (by omega), Nat.mul_one, Go.WideShapes.add_plain, Nat.zero_add, show (16 * (k : Int)).toNat = 16 * k from by omega, show (16 * (k : Int) + 16).toNat - 16 * k = 16 from by omega]

/-- in the midst of Read: the sector's box, the zero of the result, the pointers under way -/
structure NR (w0 w : World) (s : Sec) (m : P8) : Prop where
  u : Blk w w0.heap.size 23 (secL s)
  z : Blk w (w0.heap.size + 1) 66 (p8L holesP)
  a : Blk w (w0.heap.size + 2) 66 (p8L m)
  q : Below w0.heap.size w0 w
namespace NR
variable {w0 w w' : World} {s : Sec} {m m' : P8}
theorem call (h : NR w0 w s m) (hb : Below w.heap.size w w') : NR w0 w' s m := ⟨blk_out h.u hb, blk_out h.z hb, blk_out h.a hb, h.q.trans (hb.mono h.q.size)⟩
theorem alloc (h : NR w0 w s m) (o : Obj) : NR w0 (w.alloc o) s m := h.call ((Below.refl _ _).alloc (Nat.le_refl _) o)
theorem lay (h : NR w0 w s m) (k : Kept (· = w0.heap.size + 2) w w') (hb : Blk w' (w0.heap.size + 2) 66 (p8L m')) : NR w0 w' s m' :=
  ⟨h.u.kept k (by omega), h.z.kept k (by omega), hb, Kept.out h.q k (fun i _ e => by omega) h.q.size⟩
theorem lt (h : NR w0 w s m) : w0.heap.size + 2 < w.heap.size := h.a.lt
end NR
theorem NR.first (s : Sec) (w : World) : NR w (((w.alloc (.cells (secL s).toArray 23)).alloc (.cells (p8L holesP).toArray 66)).alloc (.cells (p8L holesP).toArray 66)) s holesP := by
  refine ⟨((Blk.new w _ _).alloc _).alloc _, (two_new w _ _ _).alloc _, ?_, (two_below w _ _).alloc (by simp; omega) _⟩
  have := Blk.new ((w.alloc (.cells (secL s).toArray 23)).alloc (.cells (p8L holesP).toArray 66)) 66 (p8L holesP)
  simpa using this

set_option maxHeartbeats 4000000 in
theorem nRead_any (s : Sec) (w : World) :
    Calls Try.prog 56 #[.agg (secL s).toArray] w (NRRes 51 (nodeRP s) w) := by
  obtain ⟨wb, hwb⟩ : ∃ wb : World, Hid (wb = ((w.alloc (.cells (secL s).toArray 23)).alloc (.cells (p8L holesP).toArray 66)).alloc (.cells (p8L holesP).toArray 66)) := ⟨_, Lib.hid rfl⟩
  have H0 : Hid (NR w wb s (readUp s 0)) := Lib.hid (by rw [hwb.out]; exact NR.first s w)
  have hO : Hid (∀ k : Nat, k < 8 → p3O (part16 s.1 k) = if ((nodeP s).get k).rightB = true then some ((nodeP s).get k) else none) := Lib.hid fun k hk => nodeP_O s hk
  have hP : Hid (∀ k : Nat, k < 8 → (part16 s.1 k).length = 16) := Lib.hid fun k hk => part_len s hk
  have hr : Hid (∀ k : Nat, k < 8 → rightUpto (nodeP s) (k + 1) = (rightUpto (nodeP s) k && ((nodeP s).get k).rightB)) := Lib.hid fun k hk => rightUpto_succ _ hk
  have hno : Hid (∀ k : Nat, k < 8 → ((nodeP s).get k).rightB = false → nodeRP s = none) := Lib.hid fun k hk h => by unfold nodeRP; rw [right_no hk h]; rfl
  have hyes : Hid (rightUpto (nodeP s) 8 = true → nodeRP s = some (nodeP s)) := Lib.hid fun h => by unfold nodeRP; rw [← rightUpto_eight, h]; rfl
  have hst : Hid (∀ k : Nat, k < 8 → p8L (readUp s (k + 1)) = (p8L (readUp s k)).take (k * 3) ++ p3L ((nodeP s).get k) ++ (p8L (readUp s k)).drop (k * 3 + (p3L ((nodeP s).get k)).length)) := Lib.hid fun k hk => readUp_step s hk
  have h8 : Hid (readUp s 8 = nodeP s) := Lib.hid (readUp_eight s)
  have hr0 : Hid (rightUpto (nodeP s) 0 = true) := Lib.hid rfl
  have hz := zeroP8
  generalize nodeRP s = O at *
  generalize nodeP s = N at *
  go_enter Try.func56, Try.ntmps56
  go_upto_region 2 with (fail)
  rw [← hwb.out]
  go_wp2
  go_loopw [8] (fun i wr => ∃ k : Nat, k ≤ 8 ∧ i = .int .i64 k ∧ Hid (rightUpto N k = true) ∧ Hid (NR w wr s (readUp s k)))
    (fun i _ => 8 - (intOf i).toNat)
  case atStart => exact ⟨0, by omega, rfl, hr0, H0⟩
  case round =>
    clear H0 hwb
    obtain ⟨k, hk, rfl, hR, H⟩ := hrel
    by_cases hlt : k < 8
    · have hr1 := hr.out k hlt
      have hno1 := hno.out k hlt
      have hst1 := hst.out k hlt
      have hO1 := hO.out k hlt
      have hP1 := Lib.hid (hP.out k hlt)
      have hrw : rightUpto N (k + 1) = (N.get k).rightB := by rw [hr1, hR.out, Bool.true_and]
      clear hr1
      generalize N.get k = qq at *
      generalize hrb : qq.rightB = rb at *
      have hcut := fun W => cutSec_lh w.heap.size hlt ((k : Int) * 16) (((k : Int) + 1) * 16) (by omega) (by omega) W
      have hgs := H.out.lt
      cases rb with
      | false =>
        obtain rfl : O = none := hno1 rfl
        have hO2 : Hid (p3O (part16 s.1 k) = none) := Lib.hid (by rw [hO1]; rfl)
        clear hrw hst1 hO1 hno1 hrb
        go_wp2_with fail
        refine (nRead16 (some ⟨w.heap.size, 16 * k, none⟩) (128 - 16 * k) (part16 s.1 k) hP1.out _ (nPart H.out.u k) (by omega) (by omega)).mono ?_
        rw [hO2.out]
        intro e w2 hR2
        obtain ⟨rfl, b2⟩ := RRes.nope hR2 rfl
        clear hR2
        have H2 := Lib.hid ((H.out.call b2).alloc (.cells #[.int .i64 0, .int .u64 0, .int .u32 0] 32))
        clear b2 hcut
        go_wp2_with (first
          | ((with_reducible refine guardList ?_); refine wantList_build (by rfl) 66 [] rfl (p8L holesP) _ (by rfl) builtP8 ?_)
          | ((with_reducible refine guardList ?_)
             refine wantList_store (by rfl) 66 _ _ rfl (w.heap.size + 1) 0 (by rfl) (p8L holesP) (by rfl) _ (p8L holesP) (p8L holesP) H2.out.z (by simp only [p8L_length]; decide) (p8L_one _) (infoP8 _) wholeP8 ?_
             intro w5 hR5 k5 z5
             have hR5 := Lib.hid hR5
             have q5 := Lib.hid (Kept.out H2.out.q k5 (fun i _ e => by omega) H2.out.q.size)
             clear z5 k5))
        refine bodyPost_ret (results_row_tmp rfl (rowP8 hR5.out)) rfl ⟨rfl, q5.out⟩
      | true =>
        have hrw := Lib.hid hrw
        have hO2 : Hid (p3O (part16 s.1 k) = some qq) := Lib.hid (by rw [hO1]; rfl)
        obtain ⟨a, b, sm⟩ := qq
        have hst1 := Lib.hid hst1
        clear hno1 hO1 hrb
        go_wp2_with fail
        refine (nRead16 (some ⟨w.heap.size, 16 * k, none⟩) (128 - 16 * k) (part16 s.1 k) hP1.out _ (nPart H.out.u k) (by omega) (by omega)).mono ?_
        rw [hO2.out]
        intro e w2 hR2
        obtain ⟨rfl, b2⟩ := RRes.yes hR2 rfl
        dsimp only
        have H2 := Lib.hid ((H.out.call b2).alloc (.cells #[.int .i64 a, .int .u64 (b : Int), .int .u32 (sm : Int)] 32))
        have hg2 := (H.out.call b2).lt
        clear b2 hcut hR2
        go_wp2_with (first
          | ((with_reducible refine guardList ?_)
             refine wantList_store (by rfl) 32 _ _ rfl (w.heap.size + 2) (k * 3) (by rfl) (p3L ⟨a, b, sm⟩) (by rfl) _ (p8L (readUp s k)) (p8L (readUp s (k + 1))) H2.out.a (by simp only [p8L_length, p3L_length]; omega) (p3L_one _) (infoPtr _) hst1.out ?_
             intro w5 hR5 k5 z5
             have H5 := Lib.hid (H2.out.lay k5 hR5)
             clear z5 k5 hR5))
        go_roundw
        case rel => exact ⟨k + 1, by omega, by go_num, hrw, H5⟩
        case measure => simp [intOf] <;> omega
    · obtain rfl : k = 8 := by omega
      obtain rfl : O = some N := hyes.out hR.out
      rw [h8.out] at H
      go_wp2_with (first
        | ((with_reducible refine guardList ?_); refine wantList_load (by rfl) 66 _ rfl (w.heap.size + 2) 0 (by rfl) (p8L N) _ (rangeN H.out.a) Try.underlying66 rfl (infoP8 _) ?_)
        | ((with_reducible refine guardList ?_)
           refine wantList_store (by rfl) 66 _ _ rfl (w.heap.size + 1) 0 (by rfl) (p8L N) (by rfl) _ (p8L holesP) (p8L N) H.out.z (by simp only [p8L_length]; decide) (p8L_one _) (infoP8 _) wholeP8 ?_
           intro w5 hR5 k5 z5
           have hR5 := Lib.hid hR5
           have q5 := Lib.hid (Kept.out H.out.q k5 (fun i _ e => by omega) H.out.q.size)
           clear z5 k5))
      refine bodyPost_ret (results_row_tmp rfl (rowP8 hR5.out)) rfl ⟨rfl, q5.out⟩
end Go.Proofs.Ytgdefibkemkejaa

/- The eight pointers of a sector: the document's own Read. -/
namespace Go.Proofs.Ytgdefibkemkejaa
open Go.ChangeShapes Go.WideShapes Go.ChangeAt Go.RowKit
set_option linter.unusedVariables false
set_option maxRecDepth 20000

end Go.Proofs.Ytgdefibkemkejaa
