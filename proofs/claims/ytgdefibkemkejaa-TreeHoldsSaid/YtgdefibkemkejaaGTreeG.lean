/- TreeG: the texts TreeHA, TreeHB, one behind the other. -/
import Derived.Test.YtgdefibkemkejaaGTreeB
import Derived.Test.YtgdefibkemkejaaGTreeC
import Derived.Test.YtgdefibkemkejaaGTreeF
/- A law's pile, blocks and two lists beside it, whatever their elements; sixty-four sectors and bools as arrays; elder trees. -/
namespace Go.Proofs.Ytgdefibkemkejaa
open Go.ChangeShapes Go.WideShapes Go.ChangeAt Go.RowKit Go.Deep
set_option linter.unusedVariables false
set_option maxRecDepth 20000

/-- the k-th element's cells -/
theorem rangeRow {α : Type} {f : α → List Value} {n : Nat} (hf : ∀ x, (f x).length = n) (hn : 0 < n) {w : World} {ao : Option Addr} {L : List α} (h : Reads w ao (rowsL f L)) {k : Nat} (hk : k < L.length) : ∃ b off, ao = some ⟨b, off, none⟩ ∧ b < w.heap.size ∧ w.rangeAt b (off + k * n) (f L[k]) := by
  have hl : (rowsL f L).length = L.length * n := rowsL_length hf _
  have hkn : k * n + n ≤ L.length * n := by
    have : (k + 1) * n ≤ L.length * n := Nat.mul_le_mul_right _ hk
    rwa [Nat.add_mul, Nat.one_mul] at this
  obtain ⟨b, off, e, _, hb⟩ := h.at (k := k * n) (by omega)
  refine ⟨b, off, e, hb, fun j v hv => ?_⟩
  have hj : j < n := by rw [← hf L[k]]; exact (List.getElem?_eq_some_iff.1 hv).1
  have h1 := rowsL_at hf L k hk j v hv
  obtain ⟨b', off', e', c', _⟩ := h.at (k := k * n + j) (by omega)
  rw [e] at e'
  cases e'
  rw [Nat.add_assoc, c']
  obtain ⟨hlt, e2⟩ := List.getElem?_eq_some_iff.1 h1
  rw [← e2]
theorem rows_reads {w : World} {base : Nat} {e : TypeId} {size : Nat} {v : Value} {n : Nat} {cs : List Value} (h : w.ownsRow base e size v n cs) (hs : 0 < size) : ∃ ao cap, v = .slice ao n cap ∧ Reads w ao cs ∧ (ao = none → n = 0 ∧ cap = 0) ∧ ∀ a, ao = some a → v.ownBlock = some a.block := by
  have hc := h
  obtain ⟨hl, ⟨hv, hz⟩ | ⟨g, cap, cur, hv, _⟩⟩ := h
  · refine ⟨none, 0, by rw [hv, hz], ?_, fun _ => ⟨hz, rfl⟩, fun a e => by cases e⟩
    rw [hz, Nat.zero_mul] at hl
    rw [List.eq_nil_of_length_eq_zero hl]
    exact Reads.nil _ _
  · refine ⟨some ⟨g, 0, none⟩, cap, hv, fun i hi => ⟨g, 0, rfl, ?_⟩, (fun e => by cases e), fun a e => by cases e; rw [hv]; rfl⟩
    subst hv
    rw [Nat.zero_add, World.ownsRow.cellAt hc i (by omega)]
    simp [hi]

/-! ### Arrays of sixty-four -/
def nowL (f : Nat → Sec) : List Value := rowsL secL ((List.range 64).map f)
theorem nowL_length (f : Nat → Sec) : (nowL f).length = 8192 := by unfold nowL; rw [rowsL_length secL_length]; simp
theorem nowL_one (f : Nat → Sec) : ∀ v ∈ nowL f, v.oneCell' = true := rowsL_one_cell secL_one _
theorem infoNow (f : Nat → Sec) : (Try.prog.info? 35).map (·.size) = some (nowL f).length := by rw [nowL_length]; kernel_rfl
def updS (f : Nat → Sec) (i : Nat) (s : Sec) : Nat → Sec := fun j => if j = i then s else f j
theorem nowL_congr {f h : Nat → Sec} (e : ∀ i, i < 64 → f i = h i) : nowL f = nowL h := by
  unfold nowL
  congr 1
  refine List.map_congr_left fun i hi => e i (List.mem_range.1 hi)
theorem nowL_set (f : Nat → Sec) {i : Nat} (hi : i < 64) (s : Sec) : nowL (updS f i s) = (nowL f).take (i * 128) ++ secL s ++ (nowL f).drop (i * 128 + (secL s).length) := by
  have e : (List.range 64).map (updS f i s) = ((List.range 64).map f).set i s := by
    apply List.ext_getElem (by simp)
    intro k h1 h2
    simp only [List.getElem_map, List.getElem_range, List.getElem_set]
    unfold updS
    by_cases e : k = i
    · subst e; simp
    · rw [if_neg e, if_neg (fun h => e h.symm)]
  unfold nowL
  rw [e, secL_length]
  exact rowsL_set secL_length _ i (by simpa using hi) s
theorem now_range {w : World} {g : Nat} {t : TypeId} {f : Nat → Sec} (h : Blk w g t (nowL f)) {i : Nat} (hi : i < 64) : w.rangeAt g (i * 128) (secL (f i)) := h.range fun j v hv => by
  have := rowsL_at secL_length ((List.range 64).map f) i (by simpa using hi) j v (by rw [List.getElem_map, List.getElem_range]; exact hv)
  exact this
theorem built_now : Try.prog.built 35 [] = some (nowL fun _ => sec0).toArray := by kernel_rfl
theorem zeroNow (w : World) : Sem.run Try.prog (zeroValue 35) w = .ok (.agg (nowL fun _ => sec0).toArray) w := by kernel_rfl
theorem whole_now {f h : Nat → Sec} : nowL f = (nowL h).take 0 ++ nowL f ++ (nowL h).drop (0 + (nowL f).length) := whole_new (by rw [nowL_length, nowL_length])
theorem inL_upd (f : Nat → Bool) {i : Nat} (hi : i < 64) (b : Bool) : (inL f).set i (.bool b) = inL (fun j => if j = i then b else f j) := by
  apply List.ext_getElem?
  intro k
  rw [List.getElem?_set]
  by_cases hk : k < 64
  · rw [inL_get _ hk, inL_get _ hk]
    by_cases e : i = k
    · subst e; simp [inL_length, hk]
    · have : ¬ k = i := fun h => e h.symm
      simp [e, this]
  · rw [List.getElem?_eq_none (by rw [inL_length]; omega), List.getElem?_eq_none (by rw [inL_length]; omega)]
    split
    · omega
    · rfl
theorem inL_congr {f h : Nat → Bool} (e : ∀ i, i < 64 → f i = h i) : inL f = inL h := by
  unfold inL
  refine List.map_congr_left fun i hi => ?_
  rw [e i (List.mem_range.1 hi)]
theorem whole_in {f h : Nat → Bool} : inL f = (inL h).take 0 ++ inL f ++ (inL h).drop (0 + (inL f).length) := whole_new (by rw [inL_length, inL_length])
/-- which blocks a tree has -/
def isT (t : Tree) : Nat → Bool := fun i => !(t.leaf i).holeB
theorem isT_step {t t' : Tree} {n : Nat} {q : P3} (hn : n < 64) (h : ∀ j, j < 64 → t'.leaf j = if j = n then q else t.leaf j) : inL (isT t') = (inL (isT t)).set n (.bool (!q.holeB)) := by
  rw [inL_upd _ hn]
  refine inL_congr fun i hi => ?_
  unfold isT
  rw [h i hi]
  split <;> rfl

/-! ### Elder trees -/
def Olds (m : PileM) (n : Nat) (qs : List P3) (ss : List Sec) (at_ : Nat) : Prop := qs.length = ss.length ∧ ∀ i (h : i < qs.length) (h' : i < ss.length), ∃ t f, TreeOk m n t f ∧ t.root = qs[i] ∧ f at_ = ss[i]
theorem Olds.nil (m : PileM) (n at_ : Nat) : Olds m n [] [] at_ := ⟨rfl, fun i h => absurd h (by simp)⟩
theorem Olds.keep {m m' : PileM} {n at_ : Nat} {qs : List P3} {ss : List Sec} (h : Olds m n qs ss at_) (k : ∀ x s, AtS m n x s → AtS m' n x s) : Olds m' n qs ss at_ := ⟨h.1, fun i h1 h2 => by
  obtain ⟨t, f, a, b, c⟩ := h.2 i h1 h2
  exact ⟨t, f, a.keep k, b, c⟩⟩
theorem Olds.alike {m m' : PileM} {n at_ : Nat} {qs : List P3} {ss : List Sec} (h : Olds m n qs ss at_) (e : Alike m m') : Olds m' n qs ss at_ := h.keep fun x s hx => hx.alike e
theorem Olds.push {m : PileM} {n at_ : Nat} {qs : List P3} {ss : List Sec} {t : Tree} {f : Nat → Sec} (h : Olds m n qs ss at_) (ok : TreeOk m n t f) : Olds m n (qs ++ [t.root]) (ss ++ [f at_]) at_ := by
  refine ⟨by simp [h.1], fun i h1 h2 => ?_⟩
  by_cases e : i < qs.length
  · obtain ⟨t', f', a, b, c⟩ := h.2 i e (by rw [← h.1]; exact e)
    exact ⟨t', f', a, by rw [List.getElem_append_left e]; exact b, by rw [List.getElem_append_left (by rw [← h.1]; exact e)]; exact c⟩
  · have e2 : i = qs.length := by simp at h1; omega
    subst e2
    refine ⟨t, f, ok, by simp, ?_⟩
    have : qs.length = ss.length := h.1
    simp [this]

section
variable {w : World} {g d B : Nat} {F : Nat → Prop} {m : PileM} {n kk c : Nat} {t : Tree} {f : Nat → Sec}
theorem updS_step {f : Nat → Sec} {i : Nat} (s : Sec) : (fun j => if j = 8 * (i / 8) + i % 8 then s else f j) = updS f i s := by
  funext j
  unfold updS
  rw [show 8 * (i / 8) + i % 8 = i from by omega]
/-- Set of a block -/
theorem TreeC.putH (C : TreeC) (hI : IsPile w g d B F m) (hp : TP m n kk c) (hk : kk ≤ 100000) (h : TreeOk m n t f) (i : Nat) (hi : i < 64) (ao : Option Addr) (bs : List UInt8) (cap : Nat) (hB : Bytes w ao bs) (hl : bs.length ≤ cap) (hn : ao = none → cap = 0) (hF : ∀ a, ao = some a → ¬ F a.block) (hc : 3 ≤ c) (hb : bs.length ≤ 128) :
    Calls Try.prog 12 #[.pointer (some ⟨g, 0, none⟩), .agg (p3L t.root).toArray, .int .i64 (i : Int), .slice ao bs.length cap] w fun e w' => ∃ m' t' v F' c', e = .returned (.tuple #[.agg (p3L t'.root).toArray, v, .int .i64 0]) ∧ TP m' n (kk + 3) c' ∧ c ≤ c' + 3 ∧ TreeOk m' n t' (updS f i (blockS bs)) ∧ (∀ x s, AtS m n x s → AtS m' n x s) ∧ inL (isT t') = (inL (isT t)).set i (.bool true) ∧ PStep w g d B F F' m' w' := by
  refine (C.set hI hp hk h (i : Int) ao bs cap hB hl hn hF hc ⟨by omega, by omega, hb⟩).mono ?_
  rintro e w' ⟨m', t', q, v, F', rfl, p', s', hq, S', _⟩
  simp only [Int.toNat_natCast] at s'
  have ok' := s'.ok
  rw [updS_step] at ok'
  refine ⟨m', t', v, F', c - 3, rfl, p', by omega, ok', s'.keep, ?_, S'⟩
  have := isT_step (t := t) (t' := t') (n := i) (q := q) hi (fun j hj => by
    have := s'.leaf j hj
    rw [show 8 * (i / 8) + i % 8 = i from by omega] at this
    exact this)
  rw [this]
  congr 2
  cases e : q.holeB
  · rfl
  · exact absurd ((holeB_iff q).1 e) hq
/-- Trim of a block -/
theorem TreeC.cutH (C : TreeC) (hI : IsPile w g d B F m) (hp : TP m n kk c) (hk : kk ≤ 100000) (h : TreeOk m n t f) (i : Nat) (hi : i < 64) (hc : 2 ≤ c) :
    Calls Try.prog 11 #[.pointer (some ⟨g, 0, none⟩), .agg (p3L t.root).toArray, .int .i64 (i : Int)] w fun e w' => ∃ m' t' v F' c', e = .returned (.tuple #[.agg (p3L t'.root).toArray, v, .int .i64 0]) ∧ TP m' n (kk + 3) c' ∧ c ≤ c' + 3 ∧ TreeOk m' n t' (updS f i sec0) ∧ (∀ x s, AtS m n x s → AtS m' n x s) ∧ inL (isT t') = (inL (isT t)).set i (.bool false) ∧ PStep w g d B F F' m' w' := by
  have hin : 0 ≤ (i : Int) ∧ (i : Int) < 64 := ⟨by omega, by omega⟩
  by_cases hz : t.leaf i = p3z
  · refine (C.trim_no hI hp hk h (i : Int) (by unfold I64; omega) (.inr (by rw [Int.toNat_natCast]; exact hz))).mono ?_
    rintro e w' ⟨m', v, F', rfl, p', a', S', _⟩
    rw [if_pos hin]
    refine ⟨m', t, v, F', c, rfl, p'.more (by omega), by omega, (h.alike a').congr fun j hj => ?_, fun x s hx => hx.alike a', ?_, S'⟩
    · unfold updS
      by_cases e : j = i
      · subst e
        have := h.leaf j hj
        rw [hz] at this
        rw [if_pos rfl, this.of_hole]
      · rw [if_neg e]
    · have := isT_step (t := t) (t' := t) (n := i) (q := p3z) hi (fun j hj => by
        by_cases e : j = i
        · rw [if_pos e, e, hz]
        · rw [if_neg e])
      rw [show (!p3z.holeB) = false from rfl] at this
      exact this
  · refine (C.trim hI hp hk h (i : Int) hc hin (by rw [Int.toNat_natCast]; exact hz)).mono ?_
    rintro e w' ⟨m', t', v, F', c', rfl, p', hcc, s', S', _⟩
    simp only [Int.toNat_natCast] at s'
    have ok' := s'.ok
    rw [updS_step] at ok'
    refine ⟨m', t', v, F', c', rfl, p'.more (by omega), by omega, ok', s'.keep, ?_, S'⟩
    have := isT_step (t := t) (t' := t') (n := i) (q := p3z) hi (fun j hj => by
      have := s'.leaf j hj
      rw [show 8 * (i / 8) + i % 8 = i from by omega] at this
      exact this)
    rw [this]
    rfl
/-- Get of a block -/
theorem TreeC.getH (C : TreeC) (hI : IsPile w g d B F m) (hp : TP m n kk c) (hk : kk ≤ 100000) (h : TreeOk m n t f) (i : Nat) (hi : i < 64) :
    Calls Try.prog 8 #[.pointer (some ⟨g, 0, none⟩), .agg (p3L t.root).toArray, .int .i64 (i : Int)] w fun e w' => ∃ m' F', e = .returned (.tuple #[.agg (secL (f i)).toArray, .int .i64 0]) ∧ TP m' n kk c ∧ Alike m m' ∧ PStep w g d B F F' m' w' := by
  have := C.get hI hp hk h (i : Int) (by unfold I64; omega)
  rw [if_pos ⟨by omega, by omega⟩, if_pos ⟨by omega, by omega⟩, Int.toNat_natCast] at this
  exact this
end

/-! ### A pile, blocks, two lists -/
structure HK (w0 w : World) (g d B : Nat) (F : Nat → Prop) (m : PileM) (L : List (Nat × TypeId × List Value)) (v : Value) (e1 : TypeId) (s1 n1 : Nat) (c1 : List Value) (u : Value) (e2 : TypeId) (s2 n2 : Nat) (c2 : List Value) : Prop where
  T : TL w0 w g d B F m L
  nd : (L.map (·.1)).Nodup
  rv : w.ownsRow w0.heap.size e1 s1 v n1 c1
  ru : w.ownsRow w0.heap.size e2 s2 u n2 c2
  vo : ∀ b, v.ownBlock = some b → ¬ F b ∧ (∀ y ∈ L, y.1 ≠ b) ∧ u.ownBlock ≠ some b
  uo : ∀ b, u.ownBlock = some b → ¬ F b ∧ (∀ y ∈ L, y.1 ≠ b)
namespace HK
variable {w0 w w' : World} {g d B : Nat} {F F' : Nat → Prop} {m m' : PileM} {L L' : List (Nat × TypeId × List Value)} {v v' u u' : Value} {e1 e2 : TypeId} {s1 n1 s2 n2 : Nat} {c1 c2 c1' c2' : List Value} {x : Nat} {t : TypeId} {cs cs' : List Value} {y z y2 y3 : Nat × TypeId × List Value}
theorem lv (h : HK w0 w g d B F m L v e1 s1 n1 c1 u e2 s2 n2 c2) : ∀ b, v.ownBlock = some b → w0.heap.size ≤ b ∧ b < w.heap.size := World.ownsRow.lt h.rv
theorem lu (h : HK w0 w g d B F m L v e1 s1 n1 c1 u e2 s2 n2 c2) : ∀ b, u.ownBlock = some b → w0.heap.size ≤ b ∧ b < w.heap.size := World.ownsRow.lt h.ru
theorem go {G : Nat → Prop} (h : HK w0 w g d B F m L v e1 s1 n1 c1 u e2 s2 n2 c2) (T' : TL w0 w' g d B F' m' L') (nd' : (L'.map (·.1)).Nodup) (k : Kept G w w') (hG : ∀ b, v.ownBlock = some b ∨ u.ownBlock = some b → ¬ G b) (hF : ∀ b, b < w.heap.size → ¬ F b → ¬ F' b)
    (hL : ∀ y ∈ L', (∃ z ∈ L, z.1 = y.1) ∨ w.heap.size ≤ y.1) : HK w0 w' g d B F' m' L' v e1 s1 n1 c1 u e2 s2 n2 c2 := by
  have ne : ∀ b, b < w.heap.size → (∀ z ∈ L, z.1 ≠ b) → ∀ y ∈ L', y.1 ≠ b := fun b hb hz y hy e => by
    rcases hL y hy with ⟨z, hz', e'⟩ | h1
    · exact hz z hz' (e'.trans e)
    · omega
  exact ⟨T', nd', owns_kept h.rv k fun b hb => hG b (.inl hb), owns_kept h.ru k fun b hb => hG b (.inr hb), fun b hb => ⟨hF b (h.lv b hb).2 (h.vo b hb).1, ne b (h.lv b hb).2 (h.vo b hb).2.1, (h.vo b hb).2.2⟩, fun b hb => ⟨hF b (h.lu b hb).2 (h.uo b hb).1, ne b (h.lu b hb).2 (h.uo b hb).2⟩⟩
theorem below (h : HK w0 w g d B F m L v e1 s1 n1 c1 u e2 s2 n2 c2) (hb : Below w.heap.size w w') : HK w0 w' g d B F m L v e1 s1 n1 c1 u e2 s2 n2 c2 :=
  h.go (G := fun _ => False) (h.T.below hb) h.nd (Kept.of_below hb _) (fun _ _ => id) (fun _ _ => id) fun y hy => .inl ⟨y, hy, rfl⟩
theorem alloc (h : HK w0 w g d B F m L v e1 s1 n1 c1 u e2 s2 n2 c2) (o : Obj) : HK w0 (w.alloc o) g d B F m L v e1 s1 n1 c1 u e2 s2 n2 c2 := h.below ((Below.refl _ _).alloc (Nat.le_refl _) o)
theorem drew (h : HK w0 w g d B F m L v e1 s1 n1 c1 u e2 s2 n2 c2) : HK w0 w.drew g d B F m L v e1 s1 n1 c1 u e2 s2 n2 c2 := ⟨h.T.drew, h.nd, h.rv, h.ru, h.vo, h.uo⟩
theorem fresh (h : HK w0 w g d B F m L v e1 s1 n1 c1 u e2 s2 n2 c2) : w.heap.size ∉ L.map (·.1) := fun hx => by
  obtain ⟨y, hy, e⟩ := List.mem_map.1 hx
  have := (h.T.l y hy).1.lt
  omega
theorem box (h : HK w0 w g d B F m L v e1 s1 n1 c1 u e2 s2 n2 c2) (t : TypeId) (cs : List Value) : HK w0 (w.alloc (.cells cs.toArray t)) g d B F m ((w.heap.size, t, cs) :: L) v e1 s1 n1 c1 u e2 s2 n2 c2 :=
  h.go (G := fun _ => False) (h.T.box t cs) (List.nodup_cons.2 ⟨h.fresh, h.nd⟩) (Kept.of_alloc _ _ _) (fun _ _ => id) (fun _ _ => id) fun y hy => by
    rcases List.mem_cons.1 hy with rfl | hy
    · exact .inr (Nat.le_refl _)
    · exact .inl ⟨y, hy, rfl⟩
theorem turn (h : HK w0 w g d B F m L v e1 s1 n1 c1 u e2 s2 n2 c2) (T : PStep w g d B F F' m' w') : HK w0 w' g d B F' m' L v e1 s1 n1 c1 u e2 s2 n2 c2 :=
  h.go (h.T.turn T) h.nd T.kept (fun b hb => by rcases hb with hb | hb; exact (h.vo b hb).1; exact (h.uo b hb).1) (fun b hb hn => T.grows.not hn hb) fun y hy => .inl ⟨y, hy, rfl⟩
theorem over (h : HK w0 w g d B F m ((x, t, cs) :: L) v e1 s1 n1 c1 u e2 s2 n2 c2) (k : Kept (· = x) w w') (hb : Blk w' x t cs') : HK w0 w' g d B F m ((x, t, cs') :: L) v e1 s1 n1 c1 u e2 s2 n2 c2 :=
  h.go (h.T.over (fun y hy e => (List.nodup_cons.1 h.nd).1 (List.mem_map.2 ⟨y, hy, e⟩)) k hb) h.nd k (fun b hb e => by rcases hb with hb | hb; exact (h.vo b hb).2.1 _ (.head _) e.symm; exact (h.uo b hb).2 _ (.head _) e.symm) (fun _ _ => id) fun y hy => by
    rcases List.mem_cons.1 hy with rfl | hy
    · exact .inl ⟨_, .head _, rfl⟩
    · exact .inl ⟨y, .tail _ hy, rfl⟩
theorem sub (h : HK w0 w g d B F m L v e1 s1 n1 c1 u e2 s2 n2 c2) (hs : ∀ y ∈ L', y ∈ L) (nd : (L'.map (·.1)).Nodup) : HK w0 w g d B F m L' v e1 s1 n1 c1 u e2 s2 n2 c2 :=
  h.go (h.T.sub hs) nd (Kept.refl (fun _ => False) w) (fun _ _ => id) (fun _ _ => id) fun y hy => .inl ⟨y, hs y hy, rfl⟩
theorem perm (h : HK w0 w g d B F m L v e1 s1 n1 c1 u e2 s2 n2 c2) (p : L.Perm L') : HK w0 w g d B F m L' v e1 s1 n1 c1 u e2 s2 n2 c2 := h.sub (fun y hy => p.mem_iff.2 hy) ((p.map _).nodup_iff.1 h.nd)
theorem tail (h : HK w0 w g d B F m (y :: L) v e1 s1 n1 c1 u e2 s2 n2 c2) : HK w0 w g d B F m L v e1 s1 n1 c1 u e2 s2 n2 c2 := h.sub (fun _ hx => .tail _ hx) (List.nodup_cons.1 h.nd).2
theorem swap (h : HK w0 w g d B F m (y :: z :: L) v e1 s1 n1 c1 u e2 s2 n2 c2) : HK w0 w g d B F m (z :: y :: L) v e1 s1 n1 c1 u e2 s2 n2 c2 := h.perm (List.Perm.swap _ _ _)
theorem over1 (h : HK w0 w g d B F m (y :: (x, t, cs) :: L) v e1 s1 n1 c1 u e2 s2 n2 c2) (k : Kept (· = x) w w') (hb : Blk w' x t cs') : HK w0 w' g d B F m (y :: (x, t, cs') :: L) v e1 s1 n1 c1 u e2 s2 n2 c2 := (h.swap.over k hb).swap
theorem over2 (h : HK w0 w g d B F m (y :: z :: (x, t, cs) :: L) v e1 s1 n1 c1 u e2 s2 n2 c2) (k : Kept (· = x) w w') (hb : Blk w' x t cs') : HK w0 w' g d B F m (y :: z :: (x, t, cs') :: L) v e1 s1 n1 c1 u e2 s2 n2 c2 := by
  have p : ∀ c : List Value, (y :: z :: (x, t, c) :: L).Perm ((x, t, c) :: y :: z :: L) := fun c => (((List.Perm.swap _ _ _).cons y).trans (List.Perm.swap _ _ _))
  exact ((h.perm (p cs)).over k hb).perm (p cs').symm
theorem over3 (h : HK w0 w g d B F m (y :: z :: y2 :: (x, t, cs) :: L) v e1 s1 n1 c1 u e2 s2 n2 c2) (k : Kept (· = x) w w') (hb : Blk w' x t cs') : HK w0 w' g d B F m (y :: z :: y2 :: (x, t, cs') :: L) v e1 s1 n1 c1 u e2 s2 n2 c2 := by
  have p : ∀ c : List Value, (y :: z :: y2 :: (x, t, c) :: L).Perm ((x, t, c) :: y :: z :: y2 :: L) := fun c => ((((List.Perm.swap _ _ _).cons z).trans (List.Perm.swap _ _ _)).cons y).trans (List.Perm.swap _ _ _)
  exact ((h.perm (p cs)).over k hb).perm (p cs').symm
theorem lay (h : HK w0 w g d B F m L v e1 s1 n1 c1 u e2 s2 n2 c2) (k : Kept (· = w.heap.size) (w.alloc (.cells cs.toArray t)) w') (hb : Blk w' w.heap.size t cs') : HK w0 w' g d B F m ((w.heap.size, t, cs') :: L) v e1 s1 n1 c1 u e2 s2 n2 c2 := (h.box t cs).over k hb
theorem size (h : HK w0 w g d B F m L v e1 s1 n1 c1 u e2 s2 n2 c2) : w0.heap.size ≤ w.heap.size := h.T.size
/-- a list of a law's own grows -/
theorem grew {a a' : Value} (T : TL w0 w g d B F m L) (hg : Grew w w' a a') (hlo : ∀ b, a.ownBlock = some b → w0.heap.size ≤ b) (hF : ∀ b, a.ownBlock = some b → ¬ F b ∧ ∀ y ∈ L, y.1 ≠ b) : TL w0 w' g d B F m L := by
  have k := Kept.of_grown (F := fun k => a.ownBlock = some k) hg.1 (fun k hk _ => hk)
  exact ⟨T.p.over k (fun i hi e => (hF i e).1 hi) (fun i hi e => by have := hlo i e; omega), fun y hy => ⟨(T.l y hy).1.kept k fun e => (hF _ e).2 y hy rfl, (T.l y hy).2⟩⟩
theorem pushV (h : HK w0 w g d B F m L v e1 s1 n1 c1 u e2 s2 n2 c2) {n' : Nat} (ho : w'.ownsRow w0.heap.size e1 s1 v' n' c1') (hg : Grew w w' v v') : HK w0 w' g d B F m L v' e1 s1 n' c1' u e2 s2 n2 c2 := by
  have T' := grew h.T hg (fun b hb => (h.lv b hb).1) (fun b hb => ⟨(h.vo b hb).1, (h.vo b hb).2.1⟩)
  have k := Kept.of_grown (F := fun k => v.ownBlock = some k) hg.1 (fun k hk _ => hk)
  refine ⟨T', h.nd, ho, owns_kept h.ru k fun b hb e => (h.vo b e).2.2 hb, fun b hb => ?_, h.uo⟩
  rcases hg.2 with e | ⟨a, e, hl⟩
  · exact h.vo b (by rw [← e]; exact hb)
  · rw [e] at hb
    cases hb
    exact ⟨fun hf => by have := h.T.p.at_.lt _ hf; omega, fun y hy e => by have := (h.T.l y hy).1.lt; omega, fun e => by have := (h.lu _ e).2; omega⟩
theorem pushU (h : HK w0 w g d B F m L v e1 s1 n1 c1 u e2 s2 n2 c2) {n' : Nat} (ho : w'.ownsRow w0.heap.size e2 s2 u' n' c2') (hg : Grew w w' u u') : HK w0 w' g d B F m L v e1 s1 n1 c1 u' e2 s2 n' c2' := by
  have T' := grew h.T hg (fun b hb => (h.lu b hb).1) (fun b hb => ⟨(h.uo b hb).1, (h.uo b hb).2⟩)
  have k := Kept.of_grown (F := fun k => u.ownBlock = some k) hg.1 (fun k hk _ => hk)
  refine ⟨T', h.nd, owns_kept h.rv k fun b hb e => (h.vo b hb).2.2 e, ho, fun b hb => ⟨(h.vo b hb).1, (h.vo b hb).2.1, fun e2 => ?_⟩, fun b hb => ?_⟩
  · rcases hg.2 with e | ⟨a, e, hl⟩
    · exact (h.vo b hb).2.2 (by rw [← e]; exact e2)
    · rw [e] at e2
      cases e2
      have := (h.lv _ hb).2; omega
  · rcases hg.2 with e | ⟨a, e, hl⟩
    · exact h.uo b (by rw [← e]; exact hb)
    · rw [e] at hb
      cases hb
      exact ⟨fun hf => by have := h.T.p.at_.lt _ hf; omega, fun y hy e => by have := (h.T.l y hy).1.lt; omega⟩
/-- a block beside it grows, as a row of its own -/
theorem other {a a' : Value} (h : HK w0 w g d B F m ((x, t, cs) :: L) v e1 s1 n1 c1 u e2 s2 n2 c2) (hg : Grew w w' a a') (ha : a.ownBlock = some x) : HK w0 w' g d B F m L v e1 s1 n1 c1 u e2 s2 n2 c2 := by
  have hn := List.nodup_cons.1 h.nd
  have T' := grew h.T.tail hg (fun b hb => by rw [ha] at hb; cases hb; exact (h.T.l _ (.head _)).2.2) (fun b hb => by rw [ha] at hb; cases hb; exact ⟨(h.T.l _ (.head _)).2.1, fun y hy e => hn.1 (List.mem_map.2 ⟨y, hy, e⟩)⟩)
  have k := Kept.of_grown (F := fun k => a.ownBlock = some k) hg.1 (fun k hk _ => hk)
  exact h.tail.go T' hn.2 k (fun b hb e => by
    rw [ha] at e
    cases e
    rcases hb with hb | hb
    · exact (h.vo _ hb).2.1 _ (.head _) rfl
    · exact (h.uo _ hb).2 _ (.head _) rfl) (fun _ _ => id) fun y hy => .inl ⟨y, hy, rfl⟩
theorem fst (h : HK w0 w g d B F m L v e1 s1 n1 c1 u e2 s2 n2 c2) : TL w0 w g d B F m L := h.T
end HK
/-- a slice literal of no elements, as a row of the law's own -/
theorem own_empty (w : World) (e : TypeId) (s : Nat) {base : Nat} (hb : base ≤ w.heap.size) : (w.alloc (.cells #[] e)).ownsRow base e s (.slice (some ⟨w.heap.size, 0, none⟩) 0 0) 0 [] :=
  ⟨by simp, .inr ⟨w.heap.size, 0, #[], rfl, hb, heap_alloc_new w _, Nat.le_refl _, Nat.zero_le _, by simp, by simp⟩⟩
theorem HK.start {w0 w : World} {g d B : Nat} {F : Nat → Prop} {m : PileM} {L : List (Nat × TypeId × List Value)} (T : TL w0 w g d B F m L) (nd : (L.map (·.1)).Nodup) (e1 e2 : TypeId) (s1 s2 : Nat) :
    HK w0 ((w.alloc (.cells #[] e1)).alloc (.cells #[] e2)) g d B F m L (.slice (some ⟨w.heap.size, 0, none⟩) 0 0) e1 s1 0 [] (.slice (some ⟨w.heap.size + 1, 0, none⟩) 0 0) e2 s2 0 [] := by
  have hs := T.size
  have h2 := own_empty (w.alloc (.cells #[] e1)) e2 s2 (base := w0.heap.size) (by simp; omega)
  rw [World.size_alloc] at h2
  refine ⟨(T.alloc _).alloc _, nd, owns_kept (F := fun _ => False) (own_empty w e1 s1 hs) (Kept.of_alloc _ _ _) (fun _ _ => id), h2, fun b hb => ?_, fun b hb => ?_⟩
  · obtain rfl : b = w.heap.size := by cases hb; rfl
    exact ⟨fun hf => by have := T.p.at_.lt _ hf; omega, fun y hy e => by have := (T.l y hy).1.lt; omega, fun e => by have := Option.some.inj (show some (w.heap.size + 1) = some w.heap.size from e); omega⟩
  · obtain rfl : b = w.heap.size + 1 := by cases hb; rfl
    exact ⟨fun hf => by have := T.p.at_.lt _ hf; omega, fun y hy e => by have := (T.l y hy).1.lt; omega⟩
theorem HK.start1 {w0 w : World} {g d B : Nat} {F : Nat → Prop} {m : PileM} {L : List (Nat × TypeId × List Value)} (T : TL w0 w g d B F m L) (nd : (L.map (·.1)).Nodup) (e1 e2 : TypeId) (s1 s2 : Nat) :
    HK w0 (w.alloc (.cells #[] e1)) g d B F m L (.slice (some ⟨w.heap.size, 0, none⟩) 0 0) e1 s1 0 [] (.slice none 0 0) e2 s2 0 [] := by
  have hs := T.size
  refine ⟨T.alloc _, nd, own_empty w e1 s1 hs, ⟨by simp, .inl ⟨rfl, rfl⟩⟩, fun b hb => ?_, fun b hb => by cases hb⟩
  obtain rfl : b = w.heap.size := by cases hb; rfl
  exact ⟨fun hf => by have := T.p.at_.lt _ hf; omega, fun y hy e => by have := (T.l y hy).1.lt; omega, fun e => by cases e⟩
theorem HK.readsV {w0 w : World} {g d B : Nat} {F : Nat → Prop} {m : PileM} {L : List (Nat × TypeId × List Value)} {u : Value} {e1 e2 : TypeId} {s1 n1 s2 n2 : Nat} {c1 c2 : List Value} {ao : Option Addr} {n cap : Nat} (h : HK w0 w g d B F m L (.slice ao n cap) e1 s1 n1 c1 u e2 s2 n2 c2) (hs : 0 < s1) : Reads w ao c1 := by
  obtain ⟨ao', cap', e, hr, _⟩ := rows_reads h.rv hs
  cases e
  exact hr
theorem HK.readsU {w0 w : World} {g d B : Nat} {F : Nat → Prop} {m : PileM} {L : List (Nat × TypeId × List Value)} {v : Value} {e1 e2 : TypeId} {s1 n1 s2 n2 : Nat} {c1 c2 : List Value} {ao : Option Addr} {n cap : Nat} (h : HK w0 w g d B F m L v e1 s1 n1 c1 (.slice ao n cap) e2 s2 n2 c2) (hs : 0 < s2) : Reads w ao c2 := by
  obtain ⟨ao', cap', e, hr, _⟩ := rows_reads h.ru hs
  cases e
  exact hr
theorem isT0 : inL inN = inL (isT tree0) := inL_congr fun i hi => by
  unfold isT inN
  rw [show tree0.leaf i = p3z from holes_get (Nat.mod_lt _ (by decide))]
  rfl
theorem blocksL_step (t : Tree) (i : Nat) : (List.range (i + 1)).filter (isT t) = (List.range i).filter (isT t) ++ if isT t i then [i] else [] := by
  have := blocks_step t i
  unfold isT
  rw [this]
  cases (t.leaf i).holeB <;> rfl
theorem blocksL_all (t : Tree) : (List.range 64).filter (isT t) = t.blocksL := rfl
theorem Nums.of {w : World} {ao : Option Addr} {ns : List Nat} (h : Reads w ao (ns.map fun i : Nat => Value.int .i64 (i : Int))) : Nums w ao (ns.map fun i : Nat => (i : Int)) := fun i hi => by
  have hi' : i < ns.length := by simpa using hi
  obtain ⟨b, off, e, c, _⟩ := h.at (k := i) (by simpa using hi')
  exact ⟨b, off, e, by rw [c]; simp⟩
theorem fits_blocks (t : Tree) : FitsI (t.blocksL.map fun i : Nat => (i : Int)) := ⟨fun z hz => by
  obtain ⟨i, hi, rfl⟩ := List.mem_map.1 hz
  have := (mem_blocksL.1 hi).1
  unfold I64
  omega, by rw [List.length_map]; have := blocksL_length t; omega⟩
section
variable {P : Program} {ops : Array Oper} {rest : List Oper} {o : Oper} {a : Act} {w : World} {Q : Exit → Act → World → Prop}
/-- slice literals of one pointer, of one sector -/
theorem wpList_bsP2 (hw : Region.wanted o (yielded ops a.tmps) = true) (x : Operand) (ho : o.op = .buildSlice 37 1 #[(0, x)]) (q : P3) (hx : a.eval x = .agg (p3L q).toArray)
    (h : wpList Try.prog ops Q rest (a.put o.dst (.slice (some ⟨w.heap.size, 0, none⟩) 1 1)) (w.alloc (.cells (p3L q).toArray 32))) : wpList Try.prog ops Q (o :: rest) a w :=
  wantList hw fun _ hK => wp_buildOne 37 32 x ho (p3L q) hx Try.underlying37 (infoPtr q) (by rw [p3L_length]; kernel_rfl) (by rw [p3L_length]; decide) (by rw [p3L_length]; decide) (hK _ _ h)
theorem wpList_bsS (hw : Region.wanted o (yielded ops a.tmps) = true) (x : Operand) (ho : o.op = .buildSlice 38 1 #[(0, x)]) (s : Sec) (hx : a.eval x = .agg (secL s).toArray)
    (h : wpList Try.prog ops Q rest (a.put o.dst (.slice (some ⟨w.heap.size, 0, none⟩) 1 1)) (w.alloc (.cells (secL s).toArray 23))) : wpList Try.prog ops Q (o :: rest) a w :=
  wantList hw fun _ hK => wp_buildOne 38 23 x ho (secL s) hx Try.underlying38 (infoSecL s) (by rw [secL_length]; kernel_rfl) (by rw [secL_length]; decide) (by rw [secL_length]; decide) (hK _ _ h)
end
theorem infoSec4 : (Try.prog.info? 23).map (fun i => (i.zero, i.size, i.bytes)) = some (some (.agg (secL sec0).toArray), 128, 128) := by kernel_rfl
end Go.Proofs.Ytgdefibkemkejaa

/- The tree's calls and what TreeHolds asks of plain data, together. -/
