/- There and back; nothing else reads so. -/
import Derived.Test.YtkapdagmffbbhaaFieldL
namespace Go.Proofs.Ytkapdagmffbbhaa
open Go.ChangeShapes Go.WideShapes Go.ChangeAt Go.RowKit
set_option linter.unusedVariables false
set_option maxRecDepth 20000

theorem getL_putL {ws : List Int} {zs : List Nat} {b : List UInt8} (h : putL ws zs = some b) : getL ws b = some zs := by
  induction ws generalizing zs b with
  | nil =>
    cases zs with
    | nil => simp [putL] at h; subst h; rfl
    | cons z zs => simp [putL] at h
  | cons x ws ih =>
    cases zs with
    | nil => simp [putL] at h
    | cons z zs =>
      unfold putL at h
      split at h
      · rename_i hc
        cases h' : putL ws zs with
        | none => rw [h'] at h; simp at h
        | some b' =>
          rw [h'] at h
          simp at h
          subst h
          have hl := leB_length x.toNat z
          have e1 : (leB x.toNat z ++ b').take x.toNat = leB x.toNat z := by rw [List.take_append_of_le_length (by omega), List.take_of_length_le (by omega)]
          have e2 : (leB x.toNat z ++ b').drop x.toNat = b' := by rw [List.drop_append_of_le_length (by omega), List.drop_of_length_le (by omega)]; rfl
          have hc' : 1 ≤ x ∧ x ≤ 8 ∧ x.toNat ≤ (leB x.toNat z ++ b').length := ⟨hc.1, hc.2.1, by simp; omega⟩
          simp only [getL, if_pos hc', e1, e2, ih h', valB_leB _ _ hc.2.2, Option.map_some]
      · cases h

theorem putL_getL {ws : List Int} {b : List UInt8} {zs : List Nat} (h : getL ws b = some zs) : putL ws zs = some b := by
  induction ws generalizing b zs with
  | nil =>
    cases b with
    | nil => simp [getL] at h; subst h; rfl
    | cons z zs => simp [getL] at h
  | cons x ws ih =>
    unfold getL at h
    split at h
    · rename_i hc
      cases h' : getL ws (b.drop x.toNat) with
      | none => rw [h'] at h; simp at h
      | some l =>
        rw [h'] at h
        simp at h
        subst h
        have hl : (b.take x.toNat).length = x.toNat := by simp; omega
        have hv := valB_lt (b.take x.toNat)
        rw [hl] at hv
        have e := leB_valB (b.take x.toNat)
        rw [hl] at e
        simp only [putL, if_pos (show 1 ≤ x ∧ x ≤ 8 ∧ valB (b.take x.toNat) < 256 ^ x.toNat from ⟨hc.1, hc.2.1, hv⟩), ih h', Option.map_some, e, List.take_append_drop]
    · cases h

theorem joinT_splitT {k : Nat} {b : List UInt8} {ts : List (List UInt8)} (h : splitT k b = some ts) : joinT ts = some b := by
  induction k generalizing b ts with
  | zero =>
    simp only [splitT] at h
    split at h
    · rename_i h0
      simp at h; subst h
      rw [List.eq_nil_of_length_eq_zero h0]; rfl
    · cases h
  | succ k ih =>
    simp only [splitT] at h
    split at h
    · rename_i hc
      cases h' : splitT k ((b.drop 2).drop (valB (b.take 2))) with
      | none => rw [h'] at h; cases h
      | some r =>
        rw [h'] at h
        simp only [Option.map_some, Option.some.injEq] at h
        subst h
        have hl2 : (b.take 2).length = 2 := by simp; omega
        have hV := valB_lt_16 (b.take 2) hl2
        have e := leB_valB (b.take 2)
        rw [hl2] at e
        have hl : ((b.drop 2).take (valB (b.take 2))).length = valB (b.take 2) := by simp; omega
        have hle : valB (b.take 2) ≤ 65535 := by omega
        simp only [joinT, if_pos hle, ih h', Option.map_some, hl, e, List.append_assoc, List.take_append_drop]
    · cases h

theorem joinL_splitL {b : List UInt8} {ts : List (List UInt8)} (h : splitL b = some ts) : joinL ts = some b := by
  unfold splitL at h
  split at h
  · rename_i h2
    have hl := splitT_length h
    have hl2 : (b.take 2).length = 2 := by simp; omega
    have hV := valB_lt_16 (b.take 2) hl2
    have e := leB_valB (b.take 2)
    rw [hl2] at e
    simp only [joinL, if_pos (show valB (b.take 2) ≤ 65535 by omega), joinT_splitT h, Option.map_some, hl, e, List.take_append_drop]
  · cases h

theorem take2 (z : Nat) (r : List UInt8) : (leB 2 z ++ r).take 2 = leB 2 z := by
  have := leB_length 2 z
  rw [List.take_append_of_le_length (by omega), List.take_of_length_le (by omega)]
theorem drop2 (z : Nat) (r : List UInt8) : (leB 2 z ++ r).drop 2 = r := by
  have := leB_length 2 z
  rw [List.drop_append_of_le_length (by omega), List.drop_of_length_le (by omega)]; rfl
theorem val2 {z : Nat} (h : z ≤ 65535) : valB (leB 2 z) = z := valB_leB 2 z (by simp; omega)

theorem splitT_joinT {b : List UInt8} {ts : List (List UInt8)} (h : joinT ts = some b) : splitT ts.length b = some ts := by
  induction ts generalizing b with
  | nil => simp [joinT] at h; subst h; rfl
  | cons t r ih =>
    simp only [joinT] at h
    split at h
    · rename_i hc
      cases h' : joinT r with
      | none => rw [h'] at h; cases h
      | some b' =>
        rw [h'] at h
        simp only [Option.map_some, Option.some.injEq, List.append_assoc] at h
        subst h
        have hl := leB_length 2 t.length
        simp only [List.length_cons, splitT, take2, drop2, val2 hc]
        rw [if_pos ⟨by simp; omega, by simp; omega⟩, List.drop_append_of_le_length (Nat.le_refl _), List.drop_of_length_le (Nat.le_refl _), List.nil_append, ih h', List.take_append_of_le_length (Nat.le_refl _), List.take_of_length_le (Nat.le_refl _)]
        rfl
    · cases h

theorem splitL_joinL {b : List UInt8} {ts : List (List UInt8)} (h : joinL ts = some b) : splitL b = some ts := by
  unfold joinL at h
  split at h
  · rename_i hc
    cases h' : joinT ts with
    | none => rw [h'] at h; cases h
    | some b' =>
      rw [h'] at h
      simp only [Option.map_some, Option.some.injEq] at h
      subst h
      have hl := leB_length 2 ts.length
      simp only [splitL, take2, drop2, val2 hc]
      rw [if_pos (by simp; omega)]
      exact splitT_joinT h'
  · cases h

theorem splitT_more {k : Nat} {b r : List UInt8} {ts : List (List UInt8)} (h : splitT k b = some ts) (hr : r ≠ []) : splitT k (b ++ r) = none := by
  induction k generalizing b ts with
  | zero =>
    simp only [splitT] at h ⊢
    have : 0 < r.length := List.length_pos_iff.2 hr
    rw [if_neg (by rw [List.length_append]; omega)]
  | succ k ih =>
    simp only [splitT] at h
    split at h
    · rename_i hc
      cases h' : splitT k ((b.drop 2).drop (valB (b.take 2))) with
      | none => rw [h'] at h; cases h
      | some l =>
        have e1 : (b ++ r).take 2 = b.take 2 := List.take_append_of_le_length hc.1
        have e2 : (b ++ r).drop 2 = b.drop 2 ++ r := List.drop_append_of_le_length hc.1
        have e3 : (b.drop 2 ++ r).drop (valB (b.take 2)) = (b.drop 2).drop (valB (b.take 2)) ++ r := List.drop_append_of_le_length (by simp; omega)
        simp only [splitT, e1, e2, e3, ih h', Option.map_none, ite_self]
    · cases h

theorem splitL_more {b r : List UInt8} {ts : List (List UInt8)} (h : splitL b = some ts) (hr : r ≠ []) : splitL (b ++ r) = none := by
  unfold splitL at h
  split at h
  · rename_i h2
    have e1 : (b ++ r).take 2 = b.take 2 := List.take_append_of_le_length h2
    have e2 : (b ++ r).drop 2 = b.drop 2 ++ r := List.drop_append_of_le_length h2
    simp only [splitL, e1, e2, splitT_more h hr, ite_self]
  · cases h

theorem splitL_cut {b : List UInt8} {ts : List (List UInt8)} {c : Nat} (h : splitL b = some ts) (hc : c < b.length) : splitL (b.take c) = none := by
  cases e : splitL (b.take c) with
  | none => rfl
  | some l =>
    have hr : b.drop c ≠ [] := by intro h0; have := congrArg List.length h0; simp at this; omega
    have := splitL_more e hr
    rw [List.take_append_drop, h] at this
    cases this

theorem putL_inj {ws : List Int} {a b : List Nat} {x y : List UInt8} (h : putL ws a = some x) (k : putL ws b = some y) : x = y ↔ a = b := by
  constructor
  · rintro rfl
    have h1 := getL_putL h
    have h2 := getL_putL k
    rw [h1] at h2
    simpa using h2
  · rintro rfl
    rw [h] at k
    simpa using k

section
variable {w w' : World} {e : Ending}
theorem PutRes.yes {o : Option (List UInt8)} (h : PutRes o w e w') {x : List UInt8} (ho : o = some x) : ∃ (ao : Option Addr) (cap : Nat), e = .returned (.tuple #[.slice ao x.length cap, .int .i64 0]) ∧ Hid (Bytes w' ao x) ∧ x.length ≤ cap ∧ cap ≤ 9223372036854775807 ∧ Hid (ao = none → cap = 0) ∧ Below w.heap.size w w' := by
  subst ho; exact h.out
theorem PutRes.nope {o : Option (List UInt8)} (h : PutRes o w e w') (ho : o = none) : ∃ (ao : Option Addr) (cap : Nat), e = .returned (.tuple #[.slice ao 0 cap, .int .i64 21]) ∧ Below w.heap.size w w' := by
  subst ho
  obtain ⟨ao, cap, h1, _, _, _, _, h2⟩ := h.out
  exact ⟨ao, cap, h1, h2⟩
theorem GetRes.yes {o : Option (List Nat)} (h : GetRes o w e w') {x : List Nat} (ho : o = some x) : ∃ (ao : Option Addr) (cap : Nat), e = .returned (.tuple #[.slice ao x.length cap, .int .i64 0]) ∧ Hid (U64s w' ao x) ∧ Below w.heap.size w w' := by
  subst ho
  obtain ⟨ao, cap, h1, h2, _, _, _, h3⟩ := h.out
  exact ⟨ao, cap, h1, h2, h3⟩
theorem GetRes.nope {o : Option (List Nat)} (h : GetRes o w e w') (ho : o = none) : ∃ (ao : Option Addr) (cap : Nat), e = .returned (.tuple #[.slice ao 0 cap, .int .i64 21]) ∧ Below w.heap.size w w' := by
  subst ho
  obtain ⟨ao, cap, h1, _, _, _, _, h2⟩ := h.out
  exact ⟨ao, cap, h1, h2⟩
theorem SplitRes.yes {o : Option (List (List UInt8))} (h : SplitRes o w e w') {x : List (List UInt8)} (ho : o = some x) : ∃ (ao : Option Addr) (cap : Nat), e = .returned (.tuple #[.slice ao x.length cap, .int .i64 0]) ∧ Hid (Texts w' ao x) ∧ Below w.heap.size w w' := by
  subst ho
  obtain ⟨ao, cap, h1, h2, _, _, h3⟩ := h.out
  exact ⟨ao, cap, h1, h2, h3⟩
theorem SplitRes.nope {o : Option (List (List UInt8))} (h : SplitRes o w e w') (ho : o = none) : ∃ (ao : Option Addr) (cap : Nat), e = .returned (.tuple #[.slice ao 0 cap, .int .i64 21]) ∧ Below w.heap.size w w' := by
  subst ho
  obtain ⟨ao, cap, h1, _, _, _, h2⟩ := h.out
  exact ⟨ao, cap, h1, h2⟩
end
end Go.Proofs.Ytkapdagmffbbhaa
