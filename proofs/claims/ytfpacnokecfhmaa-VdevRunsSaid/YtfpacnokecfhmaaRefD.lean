/- The document's own device: a copy of a slice of rows; what is stable behind some of the pending writes. -/
import Derived.Test.YtfpacnokecfhmaaRefC
namespace Go.Proofs.Ytfpacnokecfhmaa
open Go.ChangeShapes Go.WideShapes Go.ChangeAt Go.RowKit
set_option linter.unusedVariables false

section
variable {P : Program} {ops : Array Oper} {rest : List Oper} {o : Oper} {a : Act} {Q : Exit → Act → World → Prop}
/-- 'append([]T{}, x...)': a copy of whatever slice -/
theorem wpList_copyN (hgd : o.guard = none) (s x : Operand) (t : TypeId)
    (ho : o.op = .call { callee := .builtin .append, args := #[s, x], argTypes := #[t, t] })
    (e : TypeId) (i : TypeInfo) (z : Value) (size bytes : Nat) (ht : P.underlying t = some (.slice e)) (hi : P.info? e = some i) (hz : i.zero = some z)
    (hsize : i.size = size) (hby : i.bytes = bytes) (hzs : z.cells.size = size) (hsz : 0 < size)
    (w : World) (hs : a.eval s = .slice (some ⟨w.heap.size, 0, none⟩) 0 0)
    (ao : Option Addr) (m c : Nat) (news : List Value) (hx : a.eval x = .slice ao m c) (hnil : ao = none → c = 0) (hl : news.length = m * size) (hnews : Reads w ao news) (h1 : ∀ u ∈ news, u.oneCell' = true)
    (h63 : m ≤ 9223372036854775807) (hbytes : m * bytes ≤ 140737488355328)
    (h : ∀ co cc w', w'.ownsRow w.heap.size e size (.slice co m cc) m news → m ≤ cc → (co = none → cc = 0) → Below w.heap.size w w' → wpList P ops Q rest (a.put o.dst (.slice co m cc)) w') :
    wpList P ops Q (o :: rest) a (w.alloc (.cells #[] e)) := by
  have hO : (w.alloc (.cells #[] e)).ownsRow w.heap.size e size (.slice (some ⟨w.heap.size, 0, none⟩) 0 0) 0 [] := World.ownsRow_made w #[] 0 (Nat.le_refl _) (by decide) (by simp)
  refine wpList_append_src hgd s x t ho w.heap.size e i z size bytes ht hi hz hsize hby hzs hsz (.slice (some ⟨w.heap.size, 0, none⟩) 0 0) 0 [] _ hs hO ao m c news hx ?_ hl ?_ h1 (by omega) (by simpa using hbytes) (by simp) ?_
  · intro e0
    subst e0
    have := hnews.none_nil
    subst this
    refine ⟨?_, hnil rfl⟩
    rcases Nat.mul_eq_zero.1 (by simpa using hl.symm : m * size = 0) with h | h
    · exact h
    · omega
  · intro ad had
    exact (hnews.alloc _).cellsAt ad had
  · intro v' w' ho' hg'
    have hb : Below w.heap.size w w' := ((Below.refl _ _).alloc (Nat.le_refl _) _).trans ((Below.refl w.heap.size _).grown hg' (by simp) (fun g hg => by simp [Value.ownBlock] at hg; omega))
    rw [List.nil_append, Nat.zero_add] at ho'
    have hc := ho'
    obtain ⟨hl', ⟨rfl, hn⟩ | ⟨g, cap, cur, rfl, g1, g2, g3, _⟩⟩ := ho'
    · subst hn
      exact h none 0 w' hc (Nat.le_refl _) (fun _ => rfl) hb
    · exact h _ cap w' hc g3 (fun h => by cases h) hb
end

/-- a row of sectors of the call's own, ready for a store -/
theorem owns_open {w : World} {base : Nat} {e : TypeId} {co : Option Addr} {n cc : Nat} {ss : List Sec} (h : w.ownsRow base e 128 (.slice co n cc) n (rowsL secL ss)) (hn : ss.length = n) (h0 : 0 < n) :
    ∃ g tail, co = some ⟨g, 0, none⟩ ∧ base ≤ g ∧ Blk w g e (rowsL secL ss ++ tail) ∧
      (∀ w' ss', ss'.length = n → Blk w' g e (rowsL secL ss' ++ tail) → w'.ownsRow base e 128 (.slice co n cc) n (rowsL secL ss')) := by
  obtain ⟨hl, ⟨_, hz⟩ | ⟨g, cap, cur, hv, g1, g2, g3, g4, g5, g6⟩⟩ := h
  · omega
  · injection hv with hv1 hv2 hv3
    subst hv1 hv3
    have hcur : cur.toList = rowsL secL ss ++ cur.toList.drop (n * 128) := by rw [← g6, List.take_append_drop]
    refine ⟨g, cur.toList.drop (n * 128), rfl, g1, ?_, ?_⟩
    · unfold Blk
      rw [g2, ← hcur]
    · intro w' ss' hs' hb
      have e1 : (rowsL secL ss').length = n * 128 := by rw [rowsL_length secL_length, hs']
      refine ⟨e1, .inr ⟨g, cc, _, rfl, g1, hb, g3, g4, ?_, ?_⟩⟩
      · have hcl : cur.toList.length = cc * 128 := by simpa using g5
        simp [e1]
        have : n * 128 ≤ cc * 128 := Nat.mul_le_mul_right _ g3
        omega
      · simp [e1]
theorem rows_put (ss : List Sec) (tail : List Value) (i : Nat) (h : i < ss.length) (y : Sec) : rowsL secL (ss.set i y) ++ tail = (rowsL secL ss ++ tail).take (i * 128) ++ secL y ++ (rowsL secL ss ++ tail).drop (i * 128 + (secL y).length) := by
  have hl : (rowsL secL ss).length = ss.length * 128 := rowsL_length secL_length _
  have h2 : (i + 1) * 128 ≤ ss.length * 128 := Nat.mul_le_mul_right _ h
  rw [secL_length, rowsL_set secL_length _ _ h, List.take_append_of_le_length (by omega), List.drop_append_of_le_length (by omega)]
  simp
theorem owns_low {w : World} {base base' : Nat} {e : TypeId} {size n : Nat} {v : Value} {xs : List Value} (h : w.ownsRow base e size v n xs) (hb : base' ≤ base) : w.ownsRow base' e size v n xs := by
  obtain ⟨hl, h | ⟨g, cap, cur, h1, h2, h3⟩⟩ := h
  · exact ⟨hl, .inl h⟩
  · exact ⟨hl, .inr ⟨g, cap, cur, h1, Nat.le_trans hb h2, h3⟩⟩
theorem owns_reads {w : World} {base : Nat} {e : TypeId} {size n cc : Nat} {co : Option Addr} {xs : List Value} (h : w.ownsRow base e size (.slice co n cc) n xs) : Reads w co xs := by
  intro i hi
  have hc := h
  obtain ⟨hl, ⟨hv, hz⟩ | ⟨g, cap, cur, hv, _⟩⟩ := h
  · subst hz; simp at hl; subst hl; simp at hi
  · injection hv with hv1 _ _
    subst hv1
    refine ⟨g, 0, rfl, ?_⟩
    rw [Nat.zero_add, World.ownsRow.cellAt hc i (by omega)]
    exact List.getElem?_eq_getElem hi
section
variable {ops : Array Oper} {rest : List Oper} {o : Oper} {a : Act} {Q : Exit → Act → World → Prop}
theorem wpList_copySecs (hgd : o.guard = none) (s x : Operand) (ho : o.op = .call { callee := .builtin .append, args := #[s, x], argTypes := #[27, 27] })
    (w : World) (hs : a.eval s = .slice (some ⟨w.heap.size, 0, none⟩) 0 0) (ao : Option Addr) (m c : Nat) (st : List Sec) (hx : a.eval x = .slice ao m c) (hnil : ao = none → c = 0) (hl : st.length = m) (hr : Reads w ao (rowsL secL st)) (hm : m ≤ 1000000000)
    (h : ∀ co cc w', w'.ownsRow w.heap.size 33 128 (.slice co m cc) m (rowsL secL st) → m ≤ cc → (co = none → cc = 0) → Below w.heap.size w w' → wpList Try.prog ops Q rest (a.put o.dst (.slice co m cc)) w') :
    wpList Try.prog ops Q (o :: rest) a (w.alloc (.cells #[] 33)) := by
  obtain ⟨i0, hi0, hz0, hz1, hz2⟩ := info_parts infoSec3
  have hzs : (Value.agg (secL sec0).toArray).cells.size = 128 := List.size_toArray.trans (secL_length _)
  exact wpList_copyN hgd s x 27 ho 33 i0 _ 128 128 Try.underlying27 hi0 hz0 hz1 hz2 hzs (by omega) w hs ao m c (rowsL secL st) hx hnil (by rw [rowsL_length secL_length, hl]) hr (rowsL_one_cell secL_one _) (by omega) (by omega) h
end
end Go.Proofs.Ytfpacnokecfhmaa
