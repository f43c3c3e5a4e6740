/- TreeB: the texts TreeF, TreeG, TreeH, one behind the other. -/
import Derived.Test.YtgdefibkemkejaaGTree
import Derived.Test.YtgdefibkemkejaaGSlabB
/- A list that a call made, kept beside a pile; blocks that are trimmed one after the other. -/
namespace Go.Proofs.Ytgdefibkemkejaa
open Go.ChangeShapes Go.WideShapes Go.ChangeAt Go.RowKit
set_option linter.unusedVariables false
set_option maxRecDepth 20000

/-- a list beside a pile and behind block x -/
structure Lst (w : World) (F : Nat → Prop) (x : Nat) (ao : Option Addr) (cs : List Value) : Prop where
  reads : Reads w ao cs
  out : ∀ a, ao = some a → a.block < w.heap.size ∧ ¬ F a.block ∧ x < a.block
namespace Lst
variable {w w' : World} {F F' G : Nat → Prop} {x : Nat} {ao : Option Addr} {cs : List Value}
theorem kept (h : Lst w F x ao cs) (k : Kept G w w') (hG : ∀ a, ao = some a → ¬ G a.block) : Lst w' F x ao cs :=
  ⟨h.reads.keep fun p hp ⟨a, ha, hb⟩ => k.cell hp (by rw [hb]; exact hG a ha), fun a ha => ⟨Nat.lt_of_lt_of_le (h.out a ha).1 k.size, (h.out a ha).2⟩⟩
theorem below (h : Lst w F x ao cs) (hb : Below w.heap.size w w') : Lst w' F x ao cs := h.kept (G := fun _ => False) (Kept.of_below hb _) fun _ _ => id
theorem alloc (h : Lst w F x ao cs) (o : Obj) : Lst (w.alloc o) F x ao cs := h.below ((Below.refl _ _).alloc (Nat.le_refl _) o)
theorem drew (h : Lst w F x ao cs) : Lst w.drew F x ao cs := ⟨h.reads, h.out⟩
theorem turn (h : Lst w F x ao cs) (k : Kept F w w') (g : Grows w.heap.size F F') : Lst w' F' x ao cs :=
  ⟨(h.kept k fun a ha => (h.out a ha).2.1).reads, fun a ha => ⟨Nat.lt_of_lt_of_le (h.out a ha).1 k.size, g.not (h.out a ha).2.1 (h.out a ha).1, (h.out a ha).2.2⟩⟩
theorem over (h : Lst w F x ao cs) {y : Nat} (k : Kept (· = y) w w') (hy : y ≤ x ∨ w.heap.size ≤ y ∨ ∀ a, ao = some a → a.block ≠ y) : Lst w' F x ao cs := h.kept k fun a ha e => by
  have h1 := h.out a ha
  rcases hy with hy | hy | hy
  · omega
  · omega
  · exact hy a ha e
end Lst
/-- the k-th number of such a list -/
theorem Lst.num {w : World} {F : Nat → Prop} {x : Nat} {ao : Option Addr} {L : List Nat} (h : Lst w F x ao (L.map fun i : Nat => Value.int .i64 (i : Int))) {k : Nat} (hk : k < L.length) :
    ∃ b off, ao = some ⟨b, off, none⟩ ∧ b < w.heap.size ∧ w.cell? ⟨b, off + k, none⟩ = some (.int .i64 (L[k] : Int)) := by
  obtain ⟨b, off, e, c, hb⟩ := h.reads.at (k := k) (by simpa using hk)
  exact ⟨b, off, e, hb, by rw [c]; simp⟩

/-- of these blocks the first k, from one on and round, have been trimmed -/
def Left (t : Tree) (bl : List Nat) (fr k : Nat) : Prop := ∀ j, j < 64 → t.leaf j ≠ p3z → ∃ y, bl[y]? = some j ∧ ∀ x, x < k → (fr + x) % bl.length ≠ y
theorem Left.first (t : Tree) (fr : Nat) : Left t t.blocksL fr 0 := fun j hj h => by
  obtain ⟨y, hy, e⟩ := List.getElem_of_mem (mem_blocksL.2 ⟨hj, h⟩)
  exact ⟨y, by rw [List.getElem?_eq_getElem hy, e], fun x hx => absurd hx (Nat.not_lt_zero x)⟩
theorem Left.next {t t' : Tree} {bl : List Nat} {fr k b : Nat} (h : Left t bl fr k) (hb : bl[(fr + k) % bl.length]? = some b) (ht : ∀ j, j < 64 → t'.leaf j = if j = b then p3z else t.leaf j) : Left t' bl fr (k + 1) := fun j hj hn => by
  rw [ht j hj] at hn
  by_cases e : j = b
  · rw [if_pos e] at hn; exact absurd rfl hn
  · rw [if_neg e] at hn
    obtain ⟨y, hy, hx⟩ := h j hj hn
    refine ⟨y, hy, fun x hlt => ?_⟩
    by_cases e2 : x = k
    · subst e2
      intro e3
      rw [e3, hy] at hb
      cases hb
      exact e rfl
    · exact hx x (by omega)
theorem Left.last {t : Tree} {bl : List Nat} {fr : Nat} (h : Left t bl fr bl.length) : ∀ j, j < 64 → t.leaf j = p3z := fun j hj => by
  by_cases e : t.leaf j = p3z
  · exact e
  · obtain ⟨y, hy, hx⟩ := h j hj e
    have hyl : y < bl.length := (List.getElem?_eq_some_iff.1 hy).1
    have hpos : 0 < bl.length := by omega
    exfalso
    have hr : fr % bl.length < bl.length := Nat.mod_lt _ hpos
    by_cases hc : fr % bl.length ≤ y
    · refine hx (y - fr % bl.length) (by omega) ?_
      have e1 : fr + (y - fr % bl.length) = y + bl.length * (fr / bl.length) := by
        have := Nat.div_add_mod fr bl.length
        generalize bl.length * (fr / bl.length) = z at *
        omega
      rw [e1, Nat.add_mul_mod_self_left, Nat.mod_eq_of_lt hyl]
    · refine hx (y + bl.length - fr % bl.length) (by omega) ?_
      have e1 : fr + (y + bl.length - fr % bl.length) = y + bl.length * (fr / bl.length + 1) := by
        have := Nat.div_add_mod fr bl.length
        rw [Nat.mul_add, Nat.mul_one]
        generalize bl.length * (fr / bl.length) = z at *
        omega
      rw [e1, Nat.add_mul_mod_self_left, Nat.mod_eq_of_lt hyl]
theorem blocks_lt {t : Tree} {y b : Nat} (h : t.blocksL[y]? = some b) : b < 64 := by
  obtain ⟨hy, e⟩ := List.getElem?_eq_some_iff.1 h
  exact (mem_blocksL.1 (e ▸ List.getElem_mem hy)).1
theorem blocks_none {t : Tree} (h : ∀ j, j < 64 → t.leaf j = p3z) : t.blocksL = [] := by
  cases e : t.blocksL with
  | nil => rfl
  | cons a r =>
    have := mem_blocksL.1 (show a ∈ t.blocksL by rw [e]; exact .head _)
    exact absurd (h a this.1) this.2
end Go.Proofs.Ytgdefibkemkejaa

/- The document's own Same of two lists of pointers that are the same. -/
namespace Go.Proofs.Ytgdefibkemkejaa
open Go.ChangeShapes Go.WideShapes Go.ChangeAt Go.RowKit
set_option linter.unusedVariables false
set_option maxRecDepth 20000

/-- the k-th pointer's cells -/
theorem cellsP {w : World} {ao : Option Addr} {L : List P3} (h : Reads w ao (rowsL p3L L)) {k : Nat} (hk : k < L.length) : ∃ b off, ao = some ⟨b, off, none⟩ ∧ b < w.heap.size ∧ w.cell? ⟨b, off + k * 3, none⟩ = some (.int .i64 L[k].a) ∧ w.cell? ⟨b, off + k * 3 + 1, none⟩ = some (.int .u64 (L[k].b : Int)) ∧ w.cell? ⟨b, off + k * 3 + 2, none⟩ = some (.int .u32 (L[k].s : Int)) := by
  obtain ⟨b, off, e, hb, hr⟩ := rangeP h hk
  exact ⟨b, off, e, hb, hr 0 _ rfl, hr 1 _ rfl, hr 2 _ rfl⟩

/-- a row of a law's own that grows: pointers -/
structure YL (ws w : World) (v : Value) (ys : List P3) : Prop where
  own : w.ownsRow ws.heap.size 32 3 v ys.length (rowsL p3L ys)
  q : Below ws.heap.size ws w
namespace YL
variable {ws w w' : World} {v v' : Value} {ys : List P3}
theorem first (w : World) : YL w (w.alloc (.cells #[] 32)) (.slice (some ⟨w.heap.size, 0, none⟩) 0 0) [] :=
  ⟨⟨rfl, .inr ⟨w.heap.size, 0, #[], rfl, Nat.le_refl _, heap_alloc_new w _, Nat.le_refl _, Nat.zero_le _, rfl, rfl⟩⟩, (Below.refl _ _).alloc (Nat.le_refl _) _⟩
theorem below (h : YL ws w v ys) (hb : Below w.heap.size w w') : YL ws w' v ys := ⟨owns_kept (F := fun _ => False) h.own (Kept.of_below hb _) (fun _ _ => id), h.q.trans (hb.mono h.q.size)⟩
theorem alloc (h : YL ws w v ys) (o : Obj) : YL ws (w.alloc o) v ys := h.below ((Below.refl _ _).alloc (Nat.le_refl _) o)
theorem push (h : YL ws w v ys) (u : P3) (ho : w'.ownsRow ws.heap.size 32 3 v' (ys.length + 1) (rowsL p3L ys ++ p3L u)) (hg : Grew w w' v v') : YL ws w' v' (ys ++ [u]) :=
  ⟨by rw [rowsL_append, rowsL_one, List.length_append]; exact ho, h.q.trans (hg.out h.q.size fun g hg => (World.ownsRow.lt h.own g hg).1)⟩
theorem reads (h : YL ws w v ys) : ∃ ao cap, v = .slice ao ys.length cap ∧ Reads w ao (rowsL p3L ys) := by
  have hc := h.own
  obtain ⟨hl, ⟨hv, hz⟩ | ⟨g, cap, cur, hv, _⟩⟩ := h.own
  · exact ⟨none, 0, by rw [hv, hz], by rw [List.eq_nil_of_length_eq_zero hz]; exact Reads.nil _ _⟩
  · refine ⟨some ⟨g, 0, none⟩, cap, hv, fun i hi => ⟨g, 0, rfl, ?_⟩⟩
    subst hv
    rw [Nat.zero_add, World.ownsRow.cellAt hc i (by omega)]
    simp [hi]
end YL

set_option maxHeartbeats 4000000 in
theorem Same11_any (ao bo : Option Addr) (cap cap' : Nat) (L : List P3) (hL : L.length ≤ 1000000) (w : World) (hx : Reads w ao (rowsL p3L L)) (hy : Reads w bo (rowsL p3L L)) :
    Calls Try.prog 22 #[.slice ao L.length cap, .slice bo L.length cap'] w fun e w' => e = .returned (.bool true) ∧ Below w.heap.size w w' := by
  have hx := Lib.hid hx
  have hy := Lib.hid hy
  go_enter Try.func22, Try.ntmps22
  go_wp2
  go_loopw [13] (fun i wr => ∃ k : Nat, k ≤ L.length ∧ i = .int .i64 k ∧ Hid (Below w.heap.size w wr))
    (fun i _ => L.length - (intOf i).toNat)
  case atStart => exact ⟨0, by omega, rfl, Lib.hid (Below.refl _ _)⟩
  case round =>
    obtain ⟨k, hk, rfl, hb⟩ := hrel
    by_cases hlt : k < L.length
    · obtain ⟨b, off, rfl, hbb, c0, c1, c2⟩ := cellsP (hx.out.below hb.out) hlt
      obtain ⟨b', off', rfl, hbb', c0', c1', c2'⟩ := cellsP (hy.out.below hb.out) hlt
      generalize L[k] = q at *
      obtain ⟨qa, qb, qs⟩ := q
      dsimp only at c0 c1 c2 c0' c1' c2'
      go_wp2
      go_quiet (fail)
      go_wp2
      go_roundw
      case rel => exact ⟨k + 1, by omega, by go_num, Lib.hid (below_drewN' hb.out _)⟩
      case measure => simp [intOf] <;> omega
    · obtain rfl : k = L.length := by omega
      go_wp2
      go_ret
      exact ⟨rfl, hb.out⟩
end Go.Proofs.Ytgdefibkemkejaa

/- A list of pointers of a law's own that grows by whole lists, beside a pile. -/
namespace Go.Proofs.Ytgdefibkemkejaa
open Go.ChangeShapes Go.WideShapes Go.ChangeAt Go.RowKit
set_option linter.unusedVariables false
set_option maxRecDepth 20000

/-- an append of a whole list of elements of some cells each -/
theorem wpList_appN {P : Program} {ops : Array Oper} {rest : List Oper} {o : Oper} {a : Act} {Q : Exit → Act → World → Prop} (hgd : o.guard = none) (s x : Operand) (t : TypeId)
    (ho : o.op = .call { callee := .builtin .append, args := #[s, x], argTypes := #[t, t] })
    (base : Nat) (e : TypeId) (i : TypeInfo) (z : Value) (size bytes : Nat) (ht : P.underlying t = some (.slice e)) (hi : P.info? e = some i) (hz : i.zero = some z)
    (hsize : i.size = size) (hby : i.bytes = bytes) (hzs : z.cells.size = size) (hsz : 0 < size)
    (v : Value) (n : Nat) (xs : List Value) (w : World) (hs : a.eval s = v) (hown : w.ownsRow base e size v n xs)
    (ao : Option Addr) (m c : Nat) (news : List Value) (hx : a.eval x = .slice ao m c) (hnil : ao = none → m = 0 ∧ c = 0) (hl : news.length = m * size) (hnews : Reads w ao news) (h1 : ∀ u ∈ news, u.oneCell' = true)
    (h63 : n + m ≤ 9223372036854775807) (hbytes : (n + m) * bytes ≤ 140737488355328) (hbase : base ≤ w.heap.size)
    (h : ∀ v' w', w'.ownsRow base e size v' (n + m) (xs ++ news) → Grew w w' v v' → wpList P ops Q rest (a.put o.dst v') w') :
    wpList P ops Q (o :: rest) a w := by
  cases ao with
  | none =>
    obtain ⟨rfl, rfl⟩ := hnil rfl
    have hn : news = [] := List.eq_nil_of_length_eq_zero (by simpa using hl)
    subst hn
    refine wpList_append_own_none hgd s x t ho base e i size ht hi v n xs hs hown hx ?_
    exact h v w (by simpa using hown) (Grew.refl _ _)
  | some ad =>
    refine wpList_append_own_at _ hgd s x t ho base e i z size bytes ht hi hz hsize hby hzs hsz v n xs hs hown ad m c news hx hl (hnews.cellsAt ad rfl) h1 (by unfold maxLen; omega) hbytes hbase ?_
    intro v' w' h2 h3 _ h4
    refine h v' w' h2 ⟨h3, ?_⟩
    rcases h4 with h4 | h4
    · exact .inl h4
    · exact .inr ⟨_, h4, Nat.le_refl _⟩

/-- a list of pointers of a law's own, beside a pile and the block x -/
structure OL (w0 w : World) (F : Nat → Prop) (x : Nat) (v : Value) (qs : List P3) : Prop where
  own : w.ownsRow w0.heap.size 32 3 v qs.length (rowsL p3L qs)
  out : ∀ b, v.ownBlock = some b → ¬ F b ∧ b ≠ x
namespace OL
variable {w0 w w' : World} {F F' : Nat → Prop} {x : Nat} {v v' : Value} {qs L : List P3}
theorem lt (h : OL w0 w F x v qs) : ∀ b, v.ownBlock = some b → w0.heap.size ≤ b ∧ b < w.heap.size := World.ownsRow.lt h.own
theorem below (h : OL w0 w F x v qs) (hb : Below w.heap.size w w') : OL w0 w' F x v qs := ⟨owns_kept (F := fun _ => False) h.own (Kept.of_below hb _) (fun _ _ => id), h.out⟩
theorem alloc (h : OL w0 w F x v qs) (o : Obj) : OL w0 (w.alloc o) F x v qs := h.below ((Below.refl _ _).alloc (Nat.le_refl _) o)
theorem drew (h : OL w0 w F x v qs) : OL w0 w.drew F x v qs := ⟨h.own, h.out⟩
theorem turn (h : OL w0 w F x v qs) (k : Kept F w w') (g : Grows w.heap.size F F') : OL w0 w' F' x v qs :=
  ⟨owns_kept h.own k fun b hb => (h.out b hb).1, fun b hb => ⟨g.not (h.out b hb).1 (h.lt b hb).2, (h.out b hb).2⟩⟩
theorem over (h : OL w0 w F x v qs) {y : Nat} (k : Kept (· = y) w w') (hy : y = x ∨ w.heap.size ≤ y) : OL w0 w' F x v qs :=
  ⟨owns_kept h.own k fun b hb e => by
    rcases hy with hy | hy
    · exact (h.out b hb).2 (e.trans hy)
    · have := (h.lt b hb).2; omega, h.out⟩
theorem first (w0 w : World) (F : Nat → Prop) (x : Nat) (hw : w0.heap.size ≤ w.heap.size) (hF : ∀ k, F k → k < w.heap.size) (hx : x < w.heap.size) : OL w0 (w.alloc (.cells #[] 32)) F x (.slice (some ⟨w.heap.size, 0, none⟩) 0 0) [] :=
  ⟨⟨rfl, .inr ⟨w.heap.size, 0, #[], rfl, hw, heap_alloc_new w _, Nat.le_refl _, Nat.zero_le _, rfl, rfl⟩⟩, fun b hb => by
    cases hb
    exact ⟨fun hf => absurd (hF _ hf) (Nat.lt_irrefl _), Nat.ne_of_gt hx⟩⟩
theorem app (h : OL w0 w F x v qs) (hF : ∀ k, F k → k < w.heap.size) (hx : x < w.heap.size) (ho : w'.ownsRow w0.heap.size 32 3 v' (qs.length + L.length) (rowsL p3L qs ++ rowsL p3L L)) (hg : Grew w w' v v') : OL w0 w' F x v' (qs ++ L) := by
  refine ⟨by rw [rowsL_append, List.length_append]; exact ho, fun b hb => ?_⟩
  rcases hg.2 with e | ⟨g, e, hl⟩
  · exact h.out b (by rw [← e]; exact hb)
  · rw [e] at hb
    cases hb
    exact ⟨fun hf => by have := hF _ hf; omega, by omega⟩
/-- the pile and the blocks beside it, when it grows -/
theorem grow {g d B : Nat} {m : PileM} {t : TypeId} {cs : List Value} (h : OL w0 w F x v qs) (hT : TL w0 w g d B F m [(x, t, cs)]) (hg : Grew w w' v v') : TL w0 w' g d B F m [(x, t, cs)] := by
  have k := Kept.of_grown (F := fun k => v.ownBlock = some k) hg.1 (fun k hk _ => hk)
  refine ⟨hT.p.over k (fun i hi e => (h.out i e).1 hi) (fun i hi e => by have := (h.lt i e).1; omega), fun y hy => ?_⟩
  rcases List.mem_cons.1 hy with rfl | hy
  · exact ⟨(hT.l _ (.head _)).1.kept k fun e => (h.out _ e).2 rfl, (hT.l _ (.head _)).2⟩
  · cases hy
/-- another row of the call's own grows -/
theorem other {a a' : Value} (h : OL w0 w F x v qs) (hg : Grew w w' a a') (hne : ∀ k, a.ownBlock = some k → w.heap.size ≤ k ∨ v.ownBlock ≠ some k) : OL w0 w' F x v qs := by
  have k := Kept.of_grown (F := fun k => a.ownBlock = some k) hg.1 (fun k hk _ => hk)
  refine ⟨owns_kept h.own k fun b hb e => ?_, h.out⟩
  rcases hne b e with h1 | h1
  · have := (h.lt b hb).2; omega
  · exact h1 hb
theorem reads (h : OL w0 w F x v qs) : ∃ ao cap, v = .slice ao qs.length cap ∧ Reads w ao (rowsL p3L qs) ∧ (ao = none → qs.length = 0 ∧ cap = 0) := by
  have hc := h.own
  obtain ⟨hl, ⟨hv, hz⟩ | ⟨g, cap, cur, hv, _⟩⟩ := h.own
  · exact ⟨none, 0, by rw [hv, hz], by rw [List.eq_nil_of_length_eq_zero hz]; exact Reads.nil _ _, fun _ => ⟨hz, rfl⟩⟩
  · refine ⟨some ⟨g, 0, none⟩, cap, hv, fun i hi => ⟨g, 0, rfl, ?_⟩, fun e => by cases e⟩
    subst hv
    rw [Nat.zero_add, World.ownsRow.cellAt hc i (by omega)]
    simp [hi]
end OL
theorem TL.other {w0 w w' : World} {g d B : Nat} {F : Nat → Prop} {m : PileM} {L : List (Nat × TypeId × List Value)} (h : TL w0 w g d B F m L) {y : Nat} (k : Kept (· = y) w w') (hF : ¬ F y) (hw : w0.heap.size ≤ y) (hL : ∀ z ∈ L, z.1 ≠ y) : TL w0 w' g d B F m L :=
  ⟨h.p.over k (fun i hi e => by subst e; exact hF hi) (fun i hi e => by subst e; omega), fun z hz => ⟨(h.l z hz).1.kept k (hL z hz), (h.l z hz).2⟩⟩
theorem YL.app {ws w w' : World} {v v' : Value} {ys L : List P3} (h : YL ws w v ys) (ho : w'.ownsRow ws.heap.size 32 3 v' (ys.length + L.length) (rowsL p3L ys ++ rowsL p3L L)) (hg : Grew w w' v v') : YL ws w' v' (ys ++ L) :=
  ⟨by rw [rowsL_append, List.length_append]; exact ho, h.q.trans (hg.out h.q.size fun g hg => (World.ownsRow.lt h.own g hg).1)⟩
theorem YL.at_ {ws w : World} {v : Value} {ys : List P3} (h : YL ws w v ys) : ∃ ao cap, v = .slice ao ys.length cap ∧ Reads w ao (rowsL p3L ys) ∧ ∀ a, ao = some a → ws.heap.size ≤ a.block ∧ a.block < w.heap.size := by
  have hc := h.own
  obtain ⟨hl, ⟨hv, hz⟩ | ⟨g, cap, cur, hv, _⟩⟩ := h.own
  · exact ⟨none, 0, by rw [hv, hz], by rw [List.eq_nil_of_length_eq_zero hz]; exact Reads.nil _ _, fun a e => by cases e⟩
  · refine ⟨some ⟨g, 0, none⟩, cap, hv, fun i hi => ⟨g, 0, rfl, ?_⟩, fun a e => ?_⟩
    · subst hv
      rw [Nat.zero_add, World.ownsRow.cellAt hc i (by omega)]
      simp [hi]
    · cases e
      exact World.ownsRow.lt hc g (by rw [hv]; rfl)

/-- a pile, three lists beside it, and an array of marks -/
structure R2 (w0 w : World) (g d B : Nat) (F : Nat → Prop) (m : PileM) (x z : Nat) (rt : List Value) (la na ua : Option Addr) (L1 L2 U : List P3) (f : Nat → Bool) : Prop where
  T : TL w0 w g d B F m [(x, 32, rt)]
  l : Lst w F x la (rowsL p3L L1)
  n : Lst w F x na (rowsL p3L L2)
  u : Lst w F x ua (rowsL p3L U)
  mrk : Marked w z 53 f
  zf : ¬ F z
  zx : x ≠ z
  z0 : w0.heap.size ≤ z
  zl : ∀ a, la = some a → a.block ≠ z
  zn : ∀ a, na = some a → a.block ≠ z
  zu : ∀ a, ua = some a → a.block ≠ z
namespace R2
variable {w0 w w' : World} {g d B : Nat} {F : Nat → Prop} {m : PileM} {x z : Nat} {rt : List Value} {la na ua : Option Addr} {L1 L2 U : List P3} {f : Nat → Bool}
theorem below (h : R2 w0 w g d B F m x z rt la na ua L1 L2 U f) (hb : Below w.heap.size w w') : R2 w0 w' g d B F m x z rt la na ua L1 L2 U f :=
  ⟨h.T.below hb, h.l.below hb, h.n.below hb, h.u.below hb, h.mrk.below hb h.mrk.lt, h.zf, h.zx, h.z0, h.zl, h.zn, h.zu⟩
theorem alloc (h : R2 w0 w g d B F m x z rt la na ua L1 L2 U f) (o : Obj) : R2 w0 (w.alloc o) g d B F m x z rt la na ua L1 L2 U f := h.below ((Below.refl _ _).alloc (Nat.le_refl _) o)
theorem set (h : R2 w0 w g d B F m x z rt la na ua L1 L2 U f) (i : Nat) (v : Bool) : R2 w0 (w.setCell ⟨z, i, none⟩ (.bool v)) g d B F m x z rt la na ua L1 L2 U fun j => if j = i then v else f j := by
  have k := Kept.cellAt w z i (.bool v)
  exact ⟨h.T.other k h.zf h.z0 (fun y hy => by rcases List.mem_cons.1 hy with rfl | hy; exact h.zx; cases hy), h.l.over k (.inr (.inr h.zl)), h.n.over k (.inr (.inr h.zn)), h.u.over k (.inr (.inr h.zu)), h.mrk.set i v, h.zf, h.zx, h.z0, h.zl, h.zn, h.zu⟩
end R2
theorem Told.taken {m : PileM} {n : Nat} {U : List P3} (h : Told m n U) (hn : n ≤ 1024) : runs (maskOf (U.map (·.a))) 4096 = setS m.map 2 := by
  rw [setS_eq]
  refine runs_eq fun j hj => ?_
  unfold maskOf
  by_cases hl : j < 1024
  · rw [decide_eq_true hl, Bool.true_and]
    by_cases e : m.map j = 2
    · rw [decide_eq_true ((h.iff j hl).1 e), beq_iff_eq.2 e]
    · rw [decide_eq_false (fun x => e ((h.iff j hl).2 x)), beq_eq_false_iff_ne.2 e]
  · rw [decide_eq_false hl, Bool.false_and]
    refine decide_eq_false fun x => ?_
    obtain ⟨q, hq, e⟩ := List.mem_map.1 x
    obtain ⟨a, e2, _, h3⟩ := h.rng q hq
    rw [e2] at e
    omega
theorem LP.nil {w' : World} {L : List P3} {ao : Option Addr} (h : Reads w' ao (rowsL p3L L)) (e : ao = none) : L = [] := by
  subst e
  have h1 := h.none_nil
  cases L with
  | nil => rfl
  | cons q r => rw [rowsL_cons] at h1; simp [p3L] at h1
end Go.Proofs.Ytgdefibkemkejaa
