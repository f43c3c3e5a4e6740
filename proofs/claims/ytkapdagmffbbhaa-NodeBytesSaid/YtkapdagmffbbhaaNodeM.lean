/- Eight pointers in a sector, as plain data: there and back. -/
import Derived.Test.YtkapdagmffbbhaaPtrE
import Derived.Test.YtkapdagmffbbhaaSec
namespace Go.Proofs.Ytkapdagmffbbhaa
open Go.RowKit
set_option linter.unusedVariables false
set_option maxRecDepth 20000

def nodeB (qs : List P3) : List UInt8 := qs.flatMap P3.bytes
theorem nodeB_nil : nodeB [] = [] := rfl
theorem nodeB_cons (q : P3) (qs : List P3) : nodeB (q :: qs) = q.bytes ++ nodeB qs := by simp [nodeB]
theorem nodeB_append (xs ys : List P3) : nodeB (xs ++ ys) = nodeB xs ++ nodeB ys := by simp [nodeB]
theorem nodeB_length (qs : List P3) : (nodeB qs).length = 16 * qs.length := by
  induction qs with
  | nil => rfl
  | cons q r ih => rw [nodeB_cons, List.length_append, P3.bytes_length, ih, List.length_cons]; omega
/-- the k-th sixteen bytes -/
def part16 (bs : List UInt8) (k : Nat) : List UInt8 := (bs.drop (16 * k)).take 16
theorem part16_length {bs : List UInt8} {k : Nat} (h : 16 * k + 16 ≤ bs.length) : (part16 bs k).length = 16 := by
  unfold part16; simp; omega
theorem nodeB_part {qs : List P3} {k : Nat} (h : k < qs.length) : part16 (nodeB qs) k = qs[k].bytes := by
  have e : nodeB qs = nodeB (qs.take k) ++ (qs[k].bytes ++ nodeB (qs.drop (k + 1))) := by
    rw [← nodeB_cons, ← List.drop_eq_getElem_cons h, ← nodeB_append, List.take_append_drop]
  have hl : (nodeB (qs.take k)).length = 16 * k := by rw [nodeB_length, List.length_take]; omega
  unfold part16
  rw [e, List.drop_append_of_le_length (by omega), List.drop_of_length_le (by omega), List.nil_append, List.take_append_of_le_length (by rw [P3.bytes_length]; omega), List.take_of_length_le (by rw [P3.bytes_length]; omega)]
/-- the sector of eight pointers -/
def nodeS (qs : List P3) : Sec := if h : (nodeB qs).length = 128 then ⟨nodeB qs, h⟩ else sec0
theorem nodeS_val {qs : List P3} (h : qs.length = 8) : (nodeS qs).1 = nodeB qs := by
  have : (nodeB qs).length = 128 := by rw [nodeB_length, h]
  unfold nodeS
  rw [dif_pos this]
def nodeRight (qs : List P3) : Bool := qs.all P3.rightB
def nodeO (qs : List P3) : Option Sec := if nodeRight qs = true then some (nodeS qs) else none
/-- the eight pointers that a sector's bytes are -/
def nodeOf (s : Sec) : List P3 := (List.range 8).map fun k => p3Of (part16 s.1 k)
theorem nodeOf_length (s : Sec) : (nodeOf s).length = 8 := by simp [nodeOf]
theorem nodeOf_get (s : Sec) {k : Nat} (h : k < 8) : (nodeOf s)[k]'(by rw [nodeOf_length]; exact h) = p3Of (part16 s.1 k) := by simp [nodeOf]
theorem part_len (s : Sec) {k : Nat} (h : k < 8) : (part16 s.1 k).length = 16 := part16_length (by rw [s.2]; omega)
theorem nodeOf_fit (s : Sec) : ∀ q ∈ nodeOf s, q.Fit := by
  intro q hq
  simp only [nodeOf, List.mem_map, List.mem_range] at hq
  obtain ⟨k, hk, rfl⟩ := hq
  exact P3.fit_of (part_len s hk)
def nodeR (s : Sec) : Option (List P3) := if nodeRight (nodeOf s) = true then some (nodeOf s) else none
/-- bytes are their own parts -/
theorem parts_join : ∀ (n : Nat) (bs : List UInt8), bs.length = 16 * n → (List.range n).flatMap (fun k => part16 bs k) = bs
  | 0, bs, h => by
    have : bs = [] := List.eq_nil_of_length_eq_zero (by omega)
    subst this; rfl
  | n + 1, bs, h => by
    rw [List.range_succ, List.flatMap_append]
    have h1 := parts_join n (bs.take (16 * n)) (by simp; omega)
    have e : (List.range n).flatMap (fun k => part16 bs k) = (List.range n).flatMap (fun k => part16 (bs.take (16 * n)) k) := by
      rw [List.flatMap_def, List.flatMap_def]
      congr 1
      refine List.map_congr_left fun k hk => ?_
      have hk := List.mem_range.1 hk
      unfold part16
      rw [List.drop_take, List.take_take, Nat.min_eq_left (by omega)]
    rw [e, h1]
    have : [n].flatMap (fun k => part16 bs k) = bs.drop (16 * n) := by
      simp only [List.flatMap_cons, List.flatMap_nil, List.append_nil]
      unfold part16
      rw [List.take_of_length_le (by simp; omega)]
    rw [this, List.take_append_drop]
theorem nodeS_of (s : Sec) : nodeS (nodeOf s) = s := by
  refine Subtype.ext ?_
  rw [nodeS_val (nodeOf_length s)]
  unfold nodeB nodeOf
  rw [List.flatMap_map]
  have : (List.range 8).flatMap (fun k => (p3Of (part16 s.1 k)).bytes) = (List.range 8).flatMap (fun k => part16 s.1 k) := by
    rw [List.flatMap_def, List.flatMap_def]
    congr 1
    exact List.map_congr_left fun k hk => bytes_p3Of (part_len s (List.mem_range.1 hk))
  rw [this]
  exact parts_join 8 s.1 (by rw [s.2])
theorem nodeOf_S {qs : List P3} (h : qs.length = 8) (hf : ∀ q ∈ qs, q.Fit) (hr : nodeRight qs = true) : nodeOf (nodeS qs) = qs := by
  apply List.ext_getElem
  · rw [nodeOf_length, h]
  · intro k h1 h2
    rw [nodeOf_get _ (by omega), nodeS_val h, nodeB_part h2]
    have hm := List.getElem_mem h2
    exact p3Of_bytes (hf _ hm) (List.all_eq_true.1 hr _ hm)
theorem nodeR_S {qs : List P3} (h : qs.length = 8) (hf : ∀ q ∈ qs, q.Fit) (hr : nodeRight qs = true) : nodeR (nodeS qs) = some qs := by
  unfold nodeR; rw [nodeOf_S h hf hr, if_pos hr]
theorem nodeO_R {s : Sec} {qs : List P3} (h : nodeR s = some qs) : nodeO qs = some s ∧ qs.length = 8 ∧ ∀ q ∈ qs, q.Fit := by
  unfold nodeR at h
  split at h
  · rename_i hr
    cases h
    exact ⟨by unfold nodeO; rw [if_pos hr, nodeS_of], nodeOf_length s, nodeOf_fit s⟩
  · cases h
theorem nodeS_inj {xs ys : List P3} (hx : xs.length = 8) (hy : ys.length = 8) (fx : ∀ q ∈ xs, q.Fit) (fy : ∀ q ∈ ys, q.Fit) (rx : nodeRight xs = true) (ry : nodeRight ys = true) (e : nodeS xs = nodeS ys) : xs = ys := by
  rw [← nodeOf_S hx fx rx, ← nodeOf_S hy fy ry, e]
def nodeEmpty (qs : List P3) : Bool := qs.all P3.holeB
def newestN : Nat → List P3 → Nat
  | n, [] => n
  | n, q :: r => newestN (if n < q.b then q.b else n) r
theorem newestN_le (n : Nat) (qs : List P3) : n ≤ newestN n qs ∧ ∀ q ∈ qs, q.b ≤ newestN n qs := by
  induction qs generalizing n with
  | nil => exact ⟨Nat.le_refl _, fun q h => by cases h⟩
  | cons x r ih =>
    unfold newestN
    have h1 := ih (if n < x.b then x.b else n)
    refine ⟨Nat.le_trans (by split <;> omega) h1.1, fun q hq => ?_⟩
    rcases List.mem_cons.1 hq with rfl | hq
    · exact Nat.le_trans (by split <;> omega) h1.1
    · exact h1.2 q hq
theorem newestN_append (n : Nat) (xs ys : List P3) : newestN n (xs ++ ys) = newestN (newestN n xs) ys := by
  induction xs generalizing n with
  | nil => rfl
  | cons x r ih => exact ih _
theorem newestN_lt {n : Nat} {qs : List P3} (hn : n < 18446744073709551616) (hf : ∀ q ∈ qs, q.Fit) : newestN n qs < 18446744073709551616 := by
  induction qs generalizing n with
  | nil => exact hn
  | cons x r ih =>
    unfold newestN
    refine ih ?_ fun q hq => hf q (.tail _ hq)
    have := (hf x (.head _)).2.1
    split <;> omega
theorem not_since (qs : List P3) {q : P3} (h : q ∈ qs) : q.sinceB (newestN 0 qs) = false := by
  unfold P3.sinceB
  have := (newestN_le 0 qs).2 q h
  simp
  intro _
  omega
def holes8 : List P3 := List.replicate 8 p3z
theorem nodeS_holes : nodeS holes8 = sec0 := by
  refine Subtype.ext ?_
  rw [nodeS_val (by simp [holes8])]
  decide +kernel
/-- one pointer behind holes -/
theorem holes_part {q : P3} {i : Nat} (hi : i < 8) {k : Nat} (hk : k < 8) : part16 (nodeS (holes8.set i q)).1 k = if k = i then q.bytes else List.replicate 16 0 := by
  have hl : (holes8.set i q).length = 8 := by simp [holes8]
  rw [nodeS_val hl, nodeB_part (by rw [hl]; exact hk), List.getElem_set]
  by_cases e : i = k
  · subst e; simp
  · have : ¬ k = i := fun h => e h.symm
    rw [if_neg e, if_neg this]
    simp only [holes8, List.getElem_replicate]
    decide +kernel
end Go.Proofs.Ytkapdagmffbbhaa
