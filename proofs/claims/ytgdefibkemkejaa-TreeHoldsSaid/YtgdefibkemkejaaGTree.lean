/- Tree: the texts TreeM, TreeN, TreeO, TreeA, TreeB, TreeD, TreeE, one behind the other. -/
import Derived.Test.YtgdefibkemkejaaGNodeB
import Derived.Test.YtgdefibkemkejaaGPileB
/- A tree of sixty-four blocks, as plain data: what a pointer leads to, and what one more put leaves. -/
namespace Go.Proofs.Ytgdefibkemkejaa
open Go.ChangeShapes Go.WideShapes Go.ChangeAt Go.RowKit
set_option linter.unusedVariables false
set_option maxRecDepth 20000

theorem holeB_iff (q : P3) : q.holeB = true ↔ q = p3z := by
  unfold P3.holeB
  simp only [Bool.and_eq_true, decide_eq_true_iff]
  exact ⟨fun ⟨h1, h2, h3⟩ => P3.ext' h1 h2 h3, fun h => by subst h; exact ⟨rfl, rfl, rfl⟩⟩
theorem blockS_sec (s : Sec) : blockS s.1 = s := by
  apply Subtype.ext
  show s.1.take 128 ++ List.replicate (128 - s.1.length) 0 = s.1
  rw [List.take_of_length_le (by rw [s.2]; exact Nat.le_refl _), s.2, Nat.sub_self]
  simp

/-- this pointer leads to this sector -/
def AtS (m : PileM) (n : Nat) (q : P3) (s : Sec) : Prop :=
  (q = p3z ∧ s = sec0) ∨ ∃ a b : Nat, q = ⟨(a : Int), b, sumS s⟩ ∧ 4 ≤ a ∧ a < n ∧ 1 ≤ b ∧ b ≤ m.stamp ∧ m.dev.now.getD a sec0 = s ∧ m.map a = 2
/-- the same but for what was counted -/
structure Alike (m m' : PileM) : Prop where
  now : m'.dev.now = m.dev.now
  map : m'.map = m.map
  stamp : m'.stamp = m.stamp
  base : m'.base = m.base
theorem Alike.refl (m : PileM) : Alike m m := ⟨rfl, rfl, rfl, rfl⟩
theorem Alike.trans {m m' m'' : PileM} (h : Alike m m') (k : Alike m' m'') : Alike m m'' := ⟨k.now.trans h.now, k.map.trans h.map, k.stamp.trans h.stamp, k.base.trans h.base⟩
/-- a pile of a law's own, of n sectors, c of them free -/
structure TP (m : PileM) (n k c : Nat) : Prop where
  live : PLive m n k
  free : ∀ a, a < 1024 → m.map a = 1 → 4 ≤ a ∧ a < n
  cnt : countN m.map = c
  st1 : 1 ≤ m.stamp
  st2 : m.stamp ≤ 281474976710655
  n1 : n ≤ 1024
section
variable {m m' : PileM} {n k c : Nat} {q x : P3} {s t : Sec} {bs : List UInt8}
theorem AtS.zero (m : PileM) (n : Nat) : AtS m n p3z sec0 := .inl ⟨rfl, rfl⟩
theorem AtS.of_hole (h : AtS m n p3z s) : s = sec0 := by
  rcases h with ⟨_, h⟩ | ⟨a, b, e, _, _, hb, _⟩
  · exact h
  · have : (0 : Nat) = b := congrArg P3.b e
    omega
theorem AtS.alike (h : AtS m n q s) (e : Alike m m') : AtS m' n q s := by
  rcases h with h | ⟨a, b, h1, h2, h3, h4, h5, h6, h7⟩
  · exact .inl h
  · exact .inr ⟨a, b, h1, h2, h3, h4, by rw [e.stamp]; exact h5, by rw [e.now]; exact h6, by rw [e.map]; exact h7⟩
theorem AtS.uniq (h : AtS m n q s) (h' : AtS m n q t) : s = t := by
  rcases h with ⟨rfl, rfl⟩ | ⟨a, b, rfl, h2, h3, h4, h5, h6, h7⟩
  · exact h'.of_hole.symm
  · rcases h' with ⟨e, _⟩ | ⟨a', b', e, _, _, _, _, h6', _⟩
    · have : b = 0 := congrArg P3.b e
      omega
    · have : (a : Int) = (a' : Int) := congrArg P3.a e
      obtain rfl : a = a' := by omega
      rw [← h6, ← h6']
theorem TP.alike (h : TP m n k c) (e : Alike m m') (l : PLive m' n k) : TP m' n k c :=
  ⟨l, fun a ha hm => h.free a ha (by rw [← e.map]; exact hm), by rw [e.map]; exact h.cnt, by rw [e.stamp]; exact h.st1, by rw [e.stamp]; exact h.st2, h.n1⟩
theorem AtS.get (h : AtS m n q s) (hp : TP m n k c) : ∃ m', m.get q = (m', s, 0) ∧ TP m' n k c ∧ Alike m m' := by
  rcases h with ⟨rfl, rfl⟩ | ⟨a, b, rfl, h2, h3, h4, h5, h6, h7⟩
  · refine ⟨m, ?_, hp, Alike.refl m⟩
    unfold PileM.get
    rw [if_pos (by decide)]
  · obtain ⟨m', e, l, p, e1, e2⟩ := hp.live.get_ok (i := a) (b := b) (s := sumS s) h3 (hole_birth (by omega))
    rw [h6, if_pos rfl] at e
    have al : Alike m m' := ⟨e2, e1, p.stamp, p.base⟩
    exact ⟨m', e, hp.alike al l, al⟩
theorem AtS.right (h : AtS m n q s) (hp : TP m n k c) : q.rightB = true ∧ q.Fit := by
  rcases h with ⟨rfl, rfl⟩ | ⟨a, b, rfl, h2, h3, h4, h5, h6, h7⟩
  · exact ⟨by decide, p3z_fit8⟩
  · have := hp.n1
    have := hp.st2
    refine ⟨?_, ⟨by unfold I64; dsimp only; omega, by show b < 18446744073709551616; omega, sumS_lt s⟩⟩
    unfold P3.rightB
    simp only [Bool.or_eq_true, Bool.and_eq_true, decide_eq_true_iff]
    right
    exact ⟨by omega, by omega, by omega, by omega⟩
theorem AtS.birth (h : AtS m n q s) : q.b ≤ m.stamp := by
  rcases h with ⟨rfl, rfl⟩ | ⟨a, b, rfl, h2, h3, h4, h5, h6, h7⟩
  · exact Nat.zero_le _
  · exact h5
theorem AtS.pos (h : AtS m n q s) (hq : q ≠ p3z) : 1 ≤ q.b := by
  rcases h with ⟨e, _⟩ | ⟨a, b, rfl, h2, h3, h4, h5, h6, h7⟩
  · exact absurd e hq
  · exact h4
/-- the stamp goes on -/
theorem AtS.next (h : AtS m n q s) : AtS m.next n q s := by
  rcases h with h | ⟨a, b, h1, h2, h3, h4, h5, h6, h7⟩
  · exact .inl h
  · exact .inr ⟨a, b, h1, h2, h3, h4, (by show b ≤ m.stamp + 1; omega), h6, h7⟩
theorem TP.next (h : TP m n k c) (hs : m.stamp < 281474976710655) : TP m.next n k c :=
  ⟨⟨h.live.len, h.live.dead, h.live.left, h.live.pend⟩, h.free, h.cnt, (by show 1 ≤ m.stamp + 1; omega), (by show m.stamp + 1 ≤ _; omega), h.n1⟩

/-- one put -/
structure Put1 (m m' : PileM) (n : Nat) (bs : List UInt8) (q : P3) : Prop where
  put : m.put bs = (m', q, 0)
  at_ : ∃ a : Nat, q = ⟨(a : Int), m.stamp, sumS (blockS bs)⟩ ∧ 4 ≤ a ∧ a < n ∧ m.map a = 1 ∧ m'.map = upd m.map a 2 ∧ m'.dev.now = m.dev.now.set a (blockS bs)
  stamp : m'.stamp = m.stamp
  base : m'.base = m.base
theorem TP.put (h : TP m n k c) (h0 : 0 < c) (hb : bs.length ≤ 128) : ∃ m' q, Put1 m m' n bs q ∧ TP m' n (k + 1) (c - 1) := by
  cases hA : allocO m.map with
  | none => have := allocO_none.1 hA; have := h.cnt; omega
  | some i =>
    obtain ⟨i1, i2, _⟩ := allocO_some hA
    obtain ⟨i3, i4⟩ := h.free i i1 i2
    obtain ⟨m', h1, h2, h3, h4, h5⟩ := h.live.put_ok i4 hb hA
    refine ⟨m', _, ⟨h1, ⟨i, rfl, i3, i4, i2, h4, h5⟩, h3.stamp, h3.base⟩, h2, fun a ha hm => ?_, ?_, by rw [h3.stamp]; exact h.st1, by rw [h3.stamp]; exact h.st2, h.n1⟩
    · rw [h4] at hm
      by_cases e : a = i
      · subst e; rw [upd_same] at hm; cases hm
      · rw [upd_other _ _ e] at hm; exact h.free a ha hm
    · have := count_take (v := 2) i1 i2 (by decide)
      have := h.cnt
      rw [h4]; omega
theorem Put1.keep (h : Put1 m m' n bs q) (hx : AtS m n x s) : AtS m' n x s := by
  obtain ⟨a, _, _, _, ha, hm, hn⟩ := h.at_
  rcases hx with hx | ⟨a', b, h1, h2, h3, h4, h5, h6, h7⟩
  · exact .inl hx
  · have hne : a' ≠ a := fun e => by rw [e, ha] at h7; cases h7
    refine .inr ⟨a', b, h1, h2, h3, h4, by rw [h.stamp]; exact h5, ?_, by rw [hm, upd_other _ _ hne]; exact h7⟩
    rw [hn, List.getD_eq_getElem?_getD, List.getElem?_set_ne (Ne.symm hne), ← List.getD_eq_getElem?_getD]
    exact h6
theorem Put1.new (h : Put1 m m' n bs q) (hp : TP m n k c) : AtS m' n q (blockS bs) := by
  obtain ⟨a, rfl, h4, hn, ha, hm, hw⟩ := h.at_
  refine .inr ⟨a, m.stamp, rfl, h4, hn, hp.st1, by rw [h.stamp]; exact Nat.le_refl _, ?_, by rw [hm, upd_same]⟩
  rw [hw, get_set _ _ _ _ (by rw [now_len hp.live]; exact hn), if_pos rfl]
theorem Put1.birth (h : Put1 m m' n bs q) : q.b = m.stamp := by
  obtain ⟨a, rfl, _⟩ := h.at_; rfl
theorem Put1.ne (h : Put1 m m' n bs q) (hp : TP m n k c) : q ≠ p3z := fun e => by
  have h1 := h.birth
  have := hp.st1
  rw [e] at h1
  have : (0 : Nat) = m.stamp := h1
  omega
/-- a node is put, if it isn't empty -/
def PutN (m m' : PileM) (n : Nat) (l : P8) (q : P3) : Prop := (l = holesP ∧ m' = m ∧ q = p3z) ∨ (l ≠ holesP ∧ Put1 m m' n l.sec.1 q)
theorem PutN.keep {l : P8} (h : PutN m m' n l q) (hx : AtS m n x s) : AtS m' n x s := by
  rcases h with ⟨_, rfl, _⟩ | ⟨_, h⟩
  · exact hx
  · exact h.keep hx
theorem PutN.new {l : P8} (h : PutN m m' n l q) (hp : TP m n k c) : AtS m' n q l.sec := by
  rcases h with ⟨rfl, rfl, rfl⟩ | ⟨_, h⟩
  · rw [holesP_sec]; exact AtS.zero _ _
  · have := h.new hp
    rwa [blockS_sec] at this
theorem PutN.stamp {l : P8} (h : PutN m m' n l q) : m'.stamp = m.stamp := by
  rcases h with ⟨_, rfl, _⟩ | ⟨_, h⟩
  · rfl
  · exact h.stamp
theorem PutN.empty {l : P8} (h : PutN m m' n l q) (e : l = holesP) : q = p3z := by
  rcases h with ⟨_, _, rfl⟩ | ⟨h, _⟩
  · rfl
  · exact absurd e h
theorem PutN.full {l : P8} (h : PutN m m' n l q) (e : l ≠ holesP) : q.b = m.stamp := by
  rcases h with ⟨h, _, _⟩ | ⟨_, h⟩
  · exact absurd h e
  · exact h.birth
theorem TP.putN (h : TP m n k c) (l : P8) (h0 : l ≠ holesP → 0 < c) : ∃ m' q, PutN m m' n l q ∧ TP m' n (k + 1) (if l = holesP then c else c - 1) := by
  by_cases e : l = holesP
  · exact ⟨m, p3z, .inl ⟨e, rfl, rfl⟩, by rw [if_pos e]; exact ⟨h.live.more (by omega), h.free, h.cnt, h.st1, h.st2, h.n1⟩⟩
  · obtain ⟨m', q, h1, h2⟩ := h.put (bs := l.sec.1) (h0 e) (by rw [l.sec.2]; exact Nat.le_refl _)
    exact ⟨m', q, .inr ⟨e, h1⟩, by rw [if_neg e]; exact h2⟩
end

/-! ### Trees -/
structure Tree where
  root : P3
  a : P8
  c : Nat → P8
def Tree.leaf (t : Tree) (i : Nat) : P3 := (t.c (i / 8)).get (i % 8)
def tree0 : Tree := ⟨p3z, holesP, fun _ => holesP⟩
/-- a tree that stands whole in a pile; f: what its blocks are -/
structure TreeOk (m : PileM) (n : Nat) (t : Tree) (f : Nat → Sec) : Prop where
  top : AtS m n t.root t.a.sec
  mid : ∀ k, k < 8 → AtS m n (t.a.get k) (t.c k).sec
  leaf : ∀ i, i < 64 → AtS m n (t.leaf i) (f i)
  topE : t.a = holesP → t.root = p3z
  midE : ∀ k, k < 8 → t.c k = holesP → t.a.get k = p3z
  ba : ∀ k, k < 8 → (t.a.get k).b ≤ t.root.b
  bc : ∀ i, i < 64 → (t.leaf i).b ≤ (t.a.get (i / 8)).b
theorem holes_get {k : Nat} (h : k < 8) : holesP.get k = p3z := List.eq_of_mem_replicate (P8.get_mem holesP h)
theorem right_of {l : P8} (h : ∀ k, k < 8 → (l.get k).rightB = true) : l.right = true := by
  unfold P8.right nodeRight
  refine List.all_eq_true.2 fun q hq => ?_
  obtain ⟨k, hk, rfl⟩ := P8.mem hq
  exact h k hk
theorem fit_of8 {l : P8} (h : ∀ k, k < 8 → (l.get k).Fit) : l.Fit := fun q hq => by
  obtain ⟨k, hk, rfl⟩ := P8.mem hq
  exact h k hk
theorem tree0_ok (m : PileM) (n : Nat) : TreeOk m n tree0 fun _ => sec0 := by
  have hl : ∀ i, i < 64 → tree0.leaf i = p3z := fun i _ => holes_get (Nat.mod_lt _ (by decide))
  refine ⟨by rw [show tree0.a.sec = sec0 from holesP_sec]; exact AtS.zero m n, fun k hk => ?_, fun i hi => by rw [hl i hi]; exact AtS.zero m n, fun _ => rfl, fun k hk _ => holes_get hk, fun k hk => ?_, fun i hi => by rw [hl i hi]; exact Nat.zero_le _⟩
  · rw [show tree0.a.get k = p3z from holes_get hk, show (tree0.c k).sec = sec0 from holesP_sec]; exact AtS.zero m n
  · rw [show tree0.a.get k = p3z from holes_get hk]; exact Nat.zero_le _
namespace TreeOk
variable {m m' : PileM} {n kk c : Nat} {t : Tree} {f g : Nat → Sec}
theorem keep (h : TreeOk m n t f) (hk : ∀ q s, AtS m n q s → AtS m' n q s) : TreeOk m' n t f :=
  ⟨hk _ _ h.top, fun k hk' => hk _ _ (h.mid k hk'), fun i hi => hk _ _ (h.leaf i hi), h.topE, h.midE, h.ba, h.bc⟩
theorem alike (h : TreeOk m n t f) (e : Alike m m') : TreeOk m' n t f := h.keep fun _ _ hx => hx.alike e
theorem next (h : TreeOk m n t f) : TreeOk m.next n t f := h.keep fun _ _ hx => hx.next
theorem congr (h : TreeOk m n t f) (e : ∀ i, i < 64 → f i = g i) : TreeOk m n t g := ⟨h.top, h.mid, fun i hi => by rw [← e i hi]; exact h.leaf i hi, h.topE, h.midE, h.ba, h.bc⟩
theorem aR (h : TreeOk m n t f) (hp : TP m n kk c) : t.a.right = true ∧ t.a.Fit := ⟨right_of fun k hk => ((h.mid k hk).right hp).1, fit_of8 fun k hk => ((h.mid k hk).right hp).2⟩
theorem leaf_at (t : Tree) {k j : Nat} (hj : j < 8) : t.leaf (8 * k + j) = (t.c k).get j := by
  unfold Tree.leaf
  rw [show (8 * k + j) / 8 = k from by omega, show (8 * k + j) % 8 = j from by omega]
theorem cR (h : TreeOk m n t f) (hp : TP m n kk c) {k : Nat} (hk : k < 8) : (t.c k).right = true ∧ (t.c k).Fit :=
  ⟨right_of fun j hj => by rw [← leaf_at t hj]; exact ((h.leaf (8 * k + j) (by omega)).right hp).1, fit_of8 fun j hj => by rw [← leaf_at t hj]; exact ((h.leaf (8 * k + j) (by omega)).right hp).2⟩
/-- a node that a hole leads to is empty -/
theorem aE (h : TreeOk m n t f) (hp : TP m n kk c) (e : t.root = p3z) : t.a = holesP := by
  have h1 := h.top
  rw [e] at h1
  exact sec_inj8 (h.aR hp).2 holesP_fit (h.aR hp).1 holesP_right (by rw [h1.of_hole, holesP_sec])
theorem cE (h : TreeOk m n t f) (hp : TP m n kk c) {k : Nat} (hk : k < 8) (e : t.a.get k = p3z) : t.c k = holesP := by
  have h1 := h.mid k hk
  rw [e] at h1
  exact sec_inj8 (h.cR hp hk).2 holesP_fit (h.cR hp hk).1 holesP_right (by rw [h1.of_hole, holesP_sec])
/-- Read of a node's sector is the node -/
theorem aRead (h : TreeOk m n t f) (hp : TP m n kk c) : nodeRP t.a.sec = some t.a := nodeRP_sec (h.aR hp).2 (h.aR hp).1
theorem cRead (h : TreeOk m n t f) (hp : TP m n kk c) {k : Nat} (hk : k < 8) : nodeRP (t.c k).sec = some (t.c k) := nodeRP_sec (h.cR hp hk).2 (h.cR hp hk).1
end TreeOk

/-- another pointer in a tree, and what leads to it -/
def Tree.turn (t : Tree) (k j : Nat) (q mid r : P3) : Tree := ⟨r, t.a.set k mid, fun x => if x = k then (t.c k).set j q else t.c x⟩
theorem turn_leaf (t : Tree) {k j : Nat} (hk : k < 8) (hj : j < 8) (q mid r : P3) {i : Nat} (hi : i < 64) : (t.turn k j q mid r).leaf i = if i = 8 * k + j then q else t.leaf i := by
  unfold Tree.leaf Tree.turn
  dsimp only
  by_cases e : i / 8 = k
  · rw [if_pos e, P8.get_set _ _ (by omega)]
    by_cases e2 : j = i % 8
    · rw [if_pos e2, if_pos (by omega)]
    · rw [if_neg e2, if_neg (by omega), e]
  · rw [if_neg e, if_neg (by omega)]
theorem turn_mid (t : Tree) {k j : Nat} (q mid r : P3) {x : Nat} (hx : x < 8) : (t.turn k j q mid r).a.get x = if k = x then mid else t.a.get x := P8.get_set _ _ hx
theorem turn_ok {m m1 m2 : PileM} {n kk c k1 c1 : Nat} {t : Tree} {f : Nat → Sec} (h : TreeOk m n t f) (hp : TP m n kk c) {k j : Nat} (hk : k < 8) (hj : j < 8) {q mid r : P3} {s : Sec} (hq : AtS m n q s)
    (h1 : PutN m m1 n ((t.c k).set j q) mid) (hp1 : TP m1 n k1 c1) (h2 : PutN m1 m2 n (t.a.set k mid) r) : TreeOk m2 n (t.turn k j q mid r) fun i => if i = 8 * k + j then s else f i := by
  have keep : ∀ x s, AtS m n x s → AtS m2 n x s := fun x s hx => h2.keep (h1.keep hx)
  have hleaf : ∀ i, i < 64 → AtS m n ((t.turn k j q mid r).leaf i) (if i = 8 * k + j then s else f i) := fun i hi => by
    rw [turn_leaf t hk hj q mid r hi]
    by_cases e : i = 8 * k + j
    · rw [if_pos e, if_pos e]; exact hq
    · rw [if_neg e, if_neg e]; exact h.leaf i hi
  have hmid : ∀ x, x < 8 → AtS m1 n ((t.turn k j q mid r).a.get x) ((t.turn k j q mid r).c x).sec := fun x hx => by
    rw [turn_mid t q mid r hx]
    by_cases e : k = x
    · subst e
      rw [if_pos rfl, show ((t.turn k j q mid r).c k) = (t.c k).set j q from if_pos rfl]
      exact h1.new hp
    · rw [if_neg e, show ((t.turn k j q mid r).c x) = t.c x from if_neg (fun e' => e e'.symm)]
      exact h1.keep (h.mid x hx)
  refine ⟨h2.new hp1, fun x hx => h2.keep (hmid x hx), fun i hi => keep _ _ (hleaf i hi), fun e => h2.empty e, fun x hx e => ?_, fun x hx => ?_, fun i hi => ?_⟩
  · rw [turn_mid t q mid r hx]
    by_cases e2 : k = x
    · subst e2
      rw [if_pos rfl]
      exact h1.empty (by rw [show ((t.turn k j q mid r).c k) = (t.c k).set j q from if_pos rfl] at e; exact e)
    · rw [if_neg e2]
      exact h.midE x hx (by rw [show ((t.turn k j q mid r).c x) = t.c x from if_neg (fun e' => e2 e'.symm)] at e; exact e)
  · by_cases e : t.a.set k mid = holesP
    · have : (t.turn k j q mid r).a.get x = p3z := by show (t.a.set k mid).get x = _; rw [e]; exact holes_get hx
      rw [this]; exact Nat.zero_le _
    · have := (hmid x hx).birth
      rw [show (t.turn k j q mid r).root = r from rfl, h2.full e]; exact this
  · have hb := (hleaf i hi).birth
    rw [turn_mid t q mid r (show i / 8 < 8 by omega)]
    by_cases e : k = i / 8
    · rw [if_pos e]
      by_cases e2 : (t.c k).set j q = holesP
      · have : (t.turn k j q mid r).leaf i = p3z := by
          unfold Tree.leaf
          rw [show ((t.turn k j q mid r).c (i / 8)) = (t.c k).set j q from if_pos e.symm, e2]
          exact holes_get (Nat.mod_lt _ (by decide))
        rw [this]; exact Nat.zero_le _
      · rw [h1.full e2]; exact hb
    · rw [if_neg e, turn_leaf t hk hj q mid r hi, if_neg (by omega)]
      exact h.bc i hi
end Go.Proofs.Ytgdefibkemkejaa

/- What a tree's pointers are, each once: what All and Blocks tell, what is replaced, which sectors are taken. -/
namespace Go.Proofs.Ytgdefibkemkejaa
open Go.ChangeShapes Go.WideShapes Go.ChangeAt Go.RowKit
set_option linter.unusedVariables false
set_option maxRecDepth 20000

/-- without holes -/
def nh (l : List P3) : List P3 := l.filter fun q => !q.holeB
theorem nh_append (l m : List P3) : nh (l ++ m) = nh l ++ nh m := List.filter_append ..
theorem nh_perm {l m : List P3} (h : l.Perm m) : (nh l).Perm (nh m) := h.filter _
theorem nh_one {q : P3} (h : q ≠ p3z) : nh [q] = [q] := by
  have : q.holeB = false := by
    cases e : q.holeB
    · rfl
    · exact absurd ((holeB_iff q).1 e) h
  simp [nh, this]
theorem nh_hole : nh [p3z] = [] := by decide
/-- all places of a tree, in All's order -/
def Tree.row (t : Tree) (k : Nat) : List P3 := t.a.get k :: (t.c k).1
def Tree.flat (t : Tree) : List P3 := t.root :: (List.range 8).flatMap t.row
/-- what All tells -/
def Tree.allRow (t : Tree) (st : Nat) (k : Nat) : List P3 := if (t.a.get k).sinceB st then t.a.get k :: (t.c k).1.filter (fun q => q.sinceB st) else []
def Tree.allL (t : Tree) (st : Nat) : List P3 := if t.root.sinceB st then t.root :: (List.range 8).flatMap (t.allRow st) else []
/-- what Blocks tells -/
def Tree.blocksL (t : Tree) : List Nat := (List.range 64).filter fun i => !(t.leaf i).holeB
/-- what is replaced on the way to a block -/
def Tree.old (t : Tree) (k j : Nat) : List P3 := nh [(t.c k).get j, t.a.get k, t.root]

theorem since_iff (q : P3) (st : Nat) : q.sinceB st = true ↔ q ≠ p3z ∧ st < q.b := by
  unfold P3.sinceB
  rw [Bool.and_eq_true, Bool.not_eq_true', decide_eq_true_iff]
  constructor
  · rintro ⟨h1, h2⟩
    exact ⟨fun e => by rw [e] at h1; exact absurd h1 (by decide), h2⟩
  · rintro ⟨h1, h2⟩
    refine ⟨?_, h2⟩
    cases e : q.holeB
    · rfl
    · exact absurd ((holeB_iff q).1 e) h1
theorem since_no {q : P3} {st : Nat} (h : q.b ≤ st) : q.sinceB st = false := by
  cases e : q.sinceB st
  · rfl
  · have := ((since_iff q st).1 e).2; omega
theorem filter_none {l : List P3} {p : P3 → Bool} (h : ∀ q ∈ l, p q = false) : l.filter p = [] := by
  rw [List.filter_eq_nil_iff]
  intro q hq
  rw [h q hq]; decide

section
variable {m m' : PileM} {n kk c : Nat} {t : Tree} {f : Nat → Sec}
theorem TreeOk.row_at (h : TreeOk m n t f) {k : Nat} (hk : k < 8) {q : P3} (hq : q ∈ (t.c k).1) : ∃ i, i < 64 ∧ i / 8 = k ∧ t.leaf i = q := by
  obtain ⟨j, hj, rfl⟩ := P8.mem hq
  exact ⟨8 * k + j, by omega, by omega, TreeOk.leaf_at t hj⟩
theorem allRow_eq (h : TreeOk m n t f) (hp : TP m n kk c) (st : Nat) {k : Nat} (hk : k < 8) : t.allRow st k = (t.row k).filter fun q => q.sinceB st := by
  unfold Tree.allRow Tree.row
  cases e : (t.a.get k).sinceB st
  · rw [if_neg (by decide), List.filter_cons, e, if_neg (by decide)]
    symm
    refine filter_none fun q hq => ?_
    obtain ⟨i, hi, ei, rfl⟩ := h.row_at hk hq
    by_cases hz : t.a.get k = p3z
    · have := h.cE hp hk hz
      rw [this] at hq
      rw [List.eq_of_mem_replicate hq]
      exact since_no (Nat.zero_le _)
    · refine since_no ?_
      have h1 := h.bc i hi
      rw [ei] at h1
      cases hb : decide (st < (t.a.get k).b)
      · have := of_decide_eq_false hb; omega
      · rw [(since_iff _ _).2 ⟨hz, of_decide_eq_true hb⟩] at e; cases e
  · rw [if_pos rfl, List.filter_cons, e, if_pos rfl]
theorem allL_eq (h : TreeOk m n t f) (hp : TP m n kk c) (st : Nat) : t.allL st = t.flat.filter fun q => q.sinceB st := by
  have hr : ∀ l : List Nat, (∀ k ∈ l, k < 8) → l.flatMap (t.allRow st) = (l.flatMap t.row).filter fun q => q.sinceB st := fun l => by
    induction l with
    | nil => intro _; rfl
    | cons k r ih =>
      intro hl
      rw [List.flatMap_cons, List.flatMap_cons, List.filter_append, allRow_eq h hp st (hl k (.head _)), ih fun x hx => hl x (.tail _ hx)]
  have h8 : ∀ k ∈ List.range 8, k < 8 := fun k hk => List.mem_range.1 hk
  unfold Tree.allL Tree.flat
  rw [List.filter_cons, ← hr _ h8]
  cases e : t.root.sinceB st
  · rw [if_neg (by decide), if_neg (by decide)]
    symm
    rw [hr _ h8]
    refine filter_none fun q hq => ?_
    simp only [List.mem_flatMap, List.mem_range] at hq
    obtain ⟨k, hk, hq⟩ := hq
    by_cases hz : t.root = p3z
    · have ha := h.aE hp hz
      have hk0 : t.a.get k = p3z := by rw [ha]; exact holes_get hk
      rcases List.mem_cons.1 hq with rfl | hq
      · rw [hk0]; exact since_no (Nat.zero_le _)
      · rw [h.cE hp hk hk0] at hq
        rw [List.eq_of_mem_replicate hq]
        exact since_no (Nat.zero_le _)
    · have hb : t.root.b ≤ st := by
        cases hb : decide (st < t.root.b)
        · have := of_decide_eq_false hb; omega
        · rw [(since_iff _ _).2 ⟨hz, of_decide_eq_true hb⟩] at e; cases e
      have h1 := h.ba k hk
      rcases List.mem_cons.1 hq with rfl | hq
      · exact since_no (by omega)
      · obtain ⟨i, hi, ei, rfl⟩ := h.row_at hk hq
        have h2 := h.bc i hi
        rw [ei] at h2
        exact since_no (by omega)
  · rw [if_pos rfl, if_pos rfl]
/-- every pointer of a tree leads somewhere -/
theorem flat_at (h : TreeOk m n t f) {q : P3} (hq : q ∈ t.flat) : ∃ s, AtS m n q s := by
  rcases List.mem_cons.1 hq with rfl | hq
  · exact ⟨_, h.top⟩
  · simp only [List.mem_flatMap, List.mem_range] at hq
    obtain ⟨k, hk, hq⟩ := hq
    rcases List.mem_cons.1 hq with rfl | hq
    · exact ⟨_, h.mid k hk⟩
    · obtain ⟨i, hi, ei, rfl⟩ := h.row_at hk hq
      exact ⟨_, h.leaf i hi⟩
theorem all_zero (h : TreeOk m n t f) (hp : TP m n kk c) : t.allL 0 = nh t.flat := by
  rw [allL_eq h hp]
  unfold nh
  refine List.filter_congr fun q hq => ?_
  obtain ⟨s, hs⟩ := flat_at h hq
  by_cases hz : q = p3z
  · subst hz; decide
  · have h1 := hs.pos hz
    rw [(since_iff q 0).2 ⟨hz, by omega⟩]
    cases e : q.holeB
    · rfl
    · exact absurd ((holeB_iff q).1 e) hz
/-- what was born behind a stamp is just what all has of it -/
theorem all_young (h : TreeOk m n t f) (hp : TP m n kk c) (s0 st : Nat) (hs : s0 ≤ st) : t.allL st = (t.allL s0).filter fun q => decide (st < q.b) := by
  rw [allL_eq h hp, allL_eq h hp, List.filter_filter]
  refine List.filter_congr fun q _ => ?_
  rw [Bool.eq_iff_iff, Bool.and_eq_true, since_iff, since_iff, decide_eq_true_iff]
  exact ⟨fun ⟨a, b⟩ => ⟨b, a, by omega⟩, fun ⟨a, b, _⟩ => ⟨b, a⟩⟩
theorem all_none (h : TreeOk m n t f) (hp : TP m n kk c) : t.allL m.stamp = [] := by
  rw [allL_eq h hp]
  refine filter_none fun q hq => ?_
  obtain ⟨s, hs⟩ := flat_at h hq
  exact since_no hs.birth
theorem Tree.flat_len (t : Tree) : t.flat.length = 73 := by
  have : ∀ l : List Nat, (l.flatMap t.row).length = 9 * l.length := fun l => by
    induction l with
    | nil => rfl
    | cons k r ih => rw [List.flatMap_cons, List.length_append, ih]; simp [Tree.row, (t.c k).2]; omega
  unfold Tree.flat
  rw [List.length_cons, this, List.length_range]
end

/-! ### What changes -/
theorem set_perm {l : List P3} {j : Nat} (hj : j < l.length) (q : P3) : (l.set j q ++ [l[j]]).Perm (l ++ [q]) := by
  have e1 : l.set j q = l.take j ++ q :: l.drop (j + 1) := by rw [List.set_eq_take_append_cons_drop, if_pos hj]
  have e2 : l = l.take j ++ l[j] :: l.drop (j + 1) := by rw [← List.drop_eq_getElem_cons hj, List.take_append_drop]
  generalize l[j] = x at *
  rw [e1]
  conv => rhs; rw [e2]
  generalize l.take j = A
  generalize l.drop (j + 1) = B
  rw [List.append_assoc, List.append_assoc]
  refine List.Perm.append_left A ?_
  rw [List.cons_append, List.cons_append]
  have h1 : (q :: (B ++ [x])).Perm (q :: x :: B) := (List.perm_append_comm (l₁ := B) (l₂ := [x])).cons q
  have h2 : (x :: (B ++ [q])).Perm (x :: q :: B) := (List.perm_append_comm (l₁ := B) (l₂ := [q])).cons x
  exact h1.trans ((List.Perm.swap x q B).trans h2.symm)
theorem flatMap_perm {g g' : Nat → List P3} {k : Nat} {X Y : List P3} (hg : ∀ x, x ≠ k → g' x = g x) (hk : (g' k ++ X).Perm (g k ++ Y)) : ∀ {l : List Nat}, l.Nodup → k ∈ l → (l.flatMap g' ++ X).Perm (l.flatMap g ++ Y)
  | [], _, h => by cases h
  | a :: r, hn, h => by
    rw [List.flatMap_cons, List.flatMap_cons]
    by_cases e : a = k
    · subst e
      have hr : r.flatMap g' = r.flatMap g := by
        have hna : a ∉ r := (List.nodup_cons.1 hn).1
        clear h hn
        induction r with
        | nil => rfl
        | cons b s ih =>
          rw [List.flatMap_cons, List.flatMap_cons, hg b (fun e => hna (e ▸ .head _)), ih fun h => hna (.tail _ h)]
      rw [hr, List.append_assoc, List.append_assoc]
      have h1 : (g' a ++ (r.flatMap g ++ X)).Perm (g' a ++ (X ++ r.flatMap g)) := List.Perm.append_left _ List.perm_append_comm
      have h2 : (g a ++ (r.flatMap g ++ Y)).Perm (g a ++ (Y ++ r.flatMap g)) := List.Perm.append_left _ List.perm_append_comm
      refine h1.trans (List.Perm.trans ?_ h2.symm)
      rw [← List.append_assoc, ← List.append_assoc]
      exact List.Perm.append_right _ hk
    · have hk' : k ∈ r := by
        rcases List.mem_cons.1 h with e' | h'
        · exact absurd e'.symm e
        · exact h'
      rw [hg a e, List.append_assoc, List.append_assoc]
      exact List.Perm.append_left _ (flatMap_perm hg hk (List.nodup_cons.1 hn).2 hk')
theorem flat_turn (t : Tree) {k j : Nat} (hk : k < 8) (hj : j < 8) (q mid r : P3) : ((t.turn k j q mid r).flat ++ [(t.c k).get j, t.a.get k, t.root]).Perm (t.flat ++ [q, mid, r]) := by
  have hrow : ((t.turn k j q mid r).row k ++ [(t.c k).get j, t.a.get k]).Perm (t.row k ++ [q, mid]) := by
    unfold Tree.row
    rw [turn_mid t q mid r hk, if_pos rfl, show ((t.turn k j q mid r).c k) = (t.c k).set j q from if_pos rfl]
    have hjl : j < (t.c k).1.length := (t.c k).lt hj
    have h1 := set_perm hjl q
    rw [← (t.c k).get_eq hj] at h1
    show (mid :: ((t.c k).1.set j q ++ [(t.c k).get j, t.a.get k])).Perm (t.a.get k :: ((t.c k).1 ++ [q, mid]))
    have e1 : (t.c k).1.set j q ++ [(t.c k).get j, t.a.get k] = ((t.c k).1.set j q ++ [(t.c k).get j]) ++ [t.a.get k] := by simp
    have e2 : (t.c k).1 ++ [q, mid] = ((t.c k).1 ++ [q]) ++ [mid] := by simp
    rw [e1, e2]
    have h2 : (mid :: ((t.c k).1.set j q ++ [(t.c k).get j] ++ [t.a.get k])).Perm (mid :: (t.a.get k :: ((t.c k).1.set j q ++ [(t.c k).get j]))) := List.perm_append_comm.cons mid
    have h3 : (t.a.get k :: ((t.c k).1 ++ [q] ++ [mid])).Perm (t.a.get k :: (mid :: ((t.c k).1 ++ [q]))) := List.perm_append_comm.cons _
    exact h2.trans ((List.Perm.swap _ _ _).trans (((h1.cons mid).cons _).trans h3.symm))
  have hne : ∀ x, x ≠ k → (t.turn k j q mid r).row x = t.row x := fun x e => by
    unfold Tree.row
    rw [show ((t.turn k j q mid r).c x) = t.c x from if_neg e]
    congr 1
    show (t.a.set k mid).get x = t.a.get x
    by_cases hx : x < 8
    · rw [P8.get_set _ _ hx, if_neg (Ne.symm e)]
    · unfold P8.get P8.set
      dsimp only
      rw [List.getD_eq_getElem?_getD, List.getD_eq_getElem?_getD, List.getElem?_set_ne (Ne.symm e)]
  have hf := flatMap_perm hne hrow (l := List.range 8) List.nodup_range (List.mem_range.2 hk)
  unfold Tree.flat
  show (r :: ((List.range 8).flatMap (t.turn k j q mid r).row ++ [(t.c k).get j, t.a.get k, t.root])).Perm (t.root :: ((List.range 8).flatMap t.row ++ [q, mid, r]))
  have e1 : (List.range 8).flatMap (t.turn k j q mid r).row ++ [(t.c k).get j, t.a.get k, t.root] = ((List.range 8).flatMap (t.turn k j q mid r).row ++ [(t.c k).get j, t.a.get k]) ++ [t.root] := by simp
  have e2 : (List.range 8).flatMap t.row ++ [q, mid, r] = ((List.range 8).flatMap t.row ++ [q, mid]) ++ [r] := by simp
  rw [e1, e2]
  have h2 := (List.perm_append_comm (l₁ := (List.range 8).flatMap (t.turn k j q mid r).row ++ [(t.c k).get j, t.a.get k]) (l₂ := [t.root])).cons r
  have h3 := (List.perm_append_comm (l₁ := (List.range 8).flatMap t.row ++ [q, mid]) (l₂ := [r])).cons t.root
  exact h2.trans ((List.Perm.swap _ _ _).trans (((hf.cons r).cons t.root).trans h3.symm))
theorem nh_turn (t : Tree) {k j : Nat} (hk : k < 8) (hj : j < 8) (q mid r : P3) : (nh (t.turn k j q mid r).flat ++ t.old k j).Perm (nh t.flat ++ nh [q, mid, r]) := by
  have := nh_perm (flat_turn t hk hj q mid r)
  rwa [nh_append, nh_append] at this

/-! ### Which sectors are taken -/
/-- these pointers' sectors are just what is taken, each once -/
structure Told (m : PileM) (n : Nat) (l : List P3) : Prop where
  nd : (l.map (·.a)).Nodup
  iff : ∀ a : Nat, a < 1024 → (m.map a = 2 ↔ (a : Int) ∈ l.map (·.a))
  rng : ∀ q ∈ l, ∃ a : Nat, q.a = (a : Int) ∧ 4 ≤ a ∧ a < n
namespace Told
variable {m m' : PileM} {n kk c : Nat} {l l' : List P3} {bs : List UInt8} {q : P3}
theorem perm (h : Told m n l) (p : l.Perm l') : Told m n l' :=
  ⟨(p.map (·.a)).nodup_iff.1 h.nd, fun a ha => (h.iff a ha).trans ((p.map (·.a)).mem_iff), fun q hq => h.rng q (p.mem_iff.2 hq)⟩
theorem alike (h : Told m n l) (e : Alike m m') : Told m' n l := ⟨h.nd, fun a ha => by rw [e.map]; exact h.iff a ha, h.rng⟩
theorem next (h : Told m n l) : Told m.next n l := ⟨h.nd, h.iff, h.rng⟩
theorem put (h : Told m n l) (hp : TP m n kk c) (p : Put1 m m' n bs q) : Told m' n (l ++ [q]) := by
  obtain ⟨a, rfl, h4, hn, ha, hm, _⟩ := p.at_
  have hn1 := hp.n1
  have hnot : (a : Int) ∉ l.map (·.a) := fun hx => by
    have := (h.iff a (by omega)).2 hx
    rw [ha] at this; cases this
  refine ⟨?_, fun x hx => ?_, fun x hx => ?_⟩
  · rw [List.map_append, List.nodup_append]
    exact ⟨h.nd, by simp, fun x hx y hy e => by simp only [List.map_cons, List.map_nil, List.mem_singleton] at hy; subst hy; subst e; exact hnot hx⟩
  · rw [hm, List.map_append, List.mem_append]
    by_cases e : x = a
    · subst e; rw [upd_same]; simp
    · rw [upd_other _ _ e]
      rw [h.iff x hx]
      constructor
      · exact fun h => .inl h
      · rintro (h | h)
        · exact h
        · simp only [List.map_cons, List.map_nil, List.mem_singleton] at h
          omega
  · rcases List.mem_append.1 hx with hx | hx
    · exact h.rng x hx
    · simp only [List.mem_singleton] at hx
      subst hx
      exact ⟨a, rfl, h4, hn⟩
theorem putN (h : Told m n l) (hp : TP m n kk c) {d : P8} (p : PutN m m' n d q) : Told m' n (l ++ nh [q]) := by
  rcases p with ⟨_, rfl, rfl⟩ | ⟨_, p⟩
  · rw [nh_hole, List.append_nil]; exact h
  · rw [nh_one (p.ne hp)]; exact h.put hp p
/-- the k-th is none of those ahead of it -/
theorem fresh (h : Told m n l) {k : Nat} (hk : k < l.length) : l[k].a ∉ (l.take k).map (·.a) := by
  have hn := h.nd
  have e : l.map (·.a) = (l.take k).map (·.a) ++ (l.drop k).map (·.a) := by rw [← List.map_append, List.take_append_drop]
  rw [e, List.nodup_append] at hn
  intro hx
  exact hn.2.2 _ hx _ (by rw [List.drop_eq_getElem_cons hk, List.map_cons]; exact .head _) rfl
end Told
theorem nh3 (q r s : P3) : nh [q, r, s] = nh [q] ++ (nh [r] ++ nh [s]) := by rw [← nh_append, ← nh_append]; rfl
end Go.Proofs.Ytgdefibkemkejaa

/- What a Set and a Trim leave of a tree that stands whole, as plain data. -/
namespace Go.Proofs.Ytgdefibkemkejaa
open Go.ChangeShapes Go.WideShapes Go.ChangeAt Go.RowKit
set_option linter.unusedVariables false
set_option maxRecDepth 20000

theorem set_ne {l : P8} {j : Nat} (hj : j < 8) {q : P3} (hq : q ≠ p3z) : l.set j q ≠ holesP := fun e => by
  have h1 := P8.get_set l (k := j) (j := j) q hj
  rw [if_pos rfl, e, holes_get hj] at h1
  exact hq h1.symm
/-- what a Set or a Trim leaves -/
structure TStep (m m' : PileM) (n : Nat) (t t' : Tree) (k j : Nat) (q : P3) (c c' : Nat) (f : Nat → Sec) (s : Sec) : Prop where
  ok : TreeOk m' n t' fun i => if i = 8 * k + j then s else f i
  keep : ∀ x s, AtS m n x s → AtS m' n x s
  told : ∀ old, Told m n (nh t.flat ++ old) → Told m' n (nh t'.flat ++ (old ++ t.old k j))
  len : (nh t'.flat).length + (t.old k j).length + c' = (nh t.flat).length + c
  stamp : m'.stamp = m.stamp
  leaf : ∀ i, i < 64 → t'.leaf i = if i = 8 * k + j then q else t.leaf i
theorem told_turn {m m1 m2 : PileM} {n kk c k1 c1 : Nat} {t : Tree} (hp : TP m n kk c) {k j : Nat} (hk : k < 8) (hj : j < 8) {q mid r : P3} {d1 d2 : P8} (h1 : PutN m m1 n d1 mid) (hp1 : TP m1 n k1 c1) (h2 : PutN m1 m2 n d2 r)
    (old : List P3) (hT : Told m n ((nh t.flat ++ old) ++ nh [q])) : Told m2 n (nh (t.turn k j q mid r).flat ++ (old ++ t.old k j)) := by
  have h3 := (hT.putN hp h1).putN hp1 h2
  refine h3.perm ?_
  have p := nh_turn t hk hj q mid r
  rw [nh3] at p
  generalize nh (t.turn k j q mid r).flat = X at *
  generalize t.old k j = Y at *
  generalize nh t.flat = Z at *
  generalize nh [q] = a at *
  generalize nh [mid] = b at *
  generalize nh [r] = d at *
  have e1 : (((Z ++ old) ++ a) ++ b) ++ d = Z ++ (old ++ (a ++ (b ++ d))) := by simp
  rw [e1]
  have sw : ∀ A B C : List P3, (A ++ (B ++ C)).Perm (B ++ (A ++ C)) := fun A B C => by
    rw [← List.append_assoc, ← List.append_assoc]
    exact List.Perm.append_right _ List.perm_append_comm
  have p1 : (Z ++ (old ++ (a ++ (b ++ d)))).Perm (old ++ (Z ++ (a ++ (b ++ d)))) := sw _ _ _
  have p2 : (X ++ (old ++ Y)).Perm (old ++ (X ++ Y)) := sw _ _ _
  exact p1.trans ((List.Perm.append_left old p.symm).trans p2.symm)
theorem len_turn (t : Tree) {k j : Nat} (hk : k < 8) (hj : j < 8) (q mid r : P3) : (nh (t.turn k j q mid r).flat).length + (t.old k j).length = (nh t.flat).length + ((nh [q]).length + ((nh [mid]).length + (nh [r]).length)) := by
  have p := (nh_turn t hk hj q mid r).length_eq
  rw [nh3] at p
  simpa using p
theorem PutN.len {m m' : PileM} {n kk c : Nat} {d : P8} {q : P3} (h : PutN m m' n d q) (hp : TP m n kk c) : (nh [q]).length = if d = holesP then 0 else 1 := by
  rcases h with ⟨h1, _, rfl⟩ | ⟨h1, h⟩
  · rw [if_pos h1, nh_hole]; rfl
  · rw [if_neg h1, nh_one (h.ne hp)]; rfl

/-- Set: three puts -/
theorem TStep.of_set {m m1 m2 m3 : PileM} {n kk c k1 k2 k3 : Nat} {t : Tree} {f : Nat → Sec} {k j : Nat} {bs : List UInt8} {q mid r : P3} (h : TreeOk m n t f) (hp : TP m n kk c) (hc : 3 ≤ c) (hk : k < 8) (hj : j < 8)
    (p1 : Put1 m m1 n bs q) (hp1 : TP m1 n k1 (c - 1)) (p2 : Put1 m1 m2 n ((t.c k).set j q).sec.1 mid) (hp2 : TP m2 n k2 (c - 1 - 1)) (p3 : Put1 m2 m3 n (t.a.set k mid).sec.1 r) :
    TStep m m3 n t (t.turn k j q mid r) k j q c (c - 1 - 1 - 1) f (blockS bs) := by
  have hq := p1.new hp
  have hqn := p1.ne hp
  have n2 : PutN m1 m2 n ((t.c k).set j q) mid := .inr ⟨set_ne hj hqn, p2⟩
  have n3 : PutN m2 m3 n (t.a.set k mid) r := .inr ⟨set_ne hk (p2.ne hp1), p3⟩
  have h1 : TreeOk m1 n t f := h.keep fun _ _ hx => p1.keep hx
  refine ⟨turn_ok h1 hp1 hk hj hq n2 hp2 n3, fun x s hx => n3.keep (n2.keep (p1.keep hx)), fun old hT => ?_, ?_, by rw [n3.stamp, n2.stamp, p1.stamp], fun i hi => turn_leaf t hk hj q mid r hi⟩
  · refine told_turn hp1 hk hj n2 hp2 n3 old ?_
    rw [nh_one hqn]
    exact hT.put hp p1
  · have := len_turn t hk hj q mid r
    rw [nh_one hqn, nh_one (p2.ne hp1), nh_one (p3.ne hp2)] at this
    simp only [List.length_singleton] at this
    omega
/-- Trim: nodes that aren't empty are put -/
theorem TStep.of_trim {m m1 m2 : PileM} {n kk c k1 c1 c2 : Nat} {t : Tree} {f : Nat → Sec} {k j : Nat} {mid r : P3} (h : TreeOk m n t f) (hp : TP m n kk c) (hk : k < 8) (hj : j < 8)
    (p1 : PutN m m1 n ((t.c k).set j p3z) mid) (hp1 : TP m1 n k1 c1) (p2 : PutN m1 m2 n (t.a.set k mid) r) (e1 : c1 + (nh [mid]).length = c) (e2 : c2 + (nh [r]).length = c1) :
    TStep m m2 n t (t.turn k j p3z mid r) k j p3z c c2 f sec0 := by
  refine ⟨turn_ok h hp hk hj (AtS.zero m n) p1 hp1 p2, fun x s hx => p2.keep (p1.keep hx), fun old hT => ?_, ?_, by rw [p2.stamp, p1.stamp], fun i hi => turn_leaf t hk hj p3z mid r hi⟩
  · refine told_turn hp hk hj p1 hp1 p2 old ?_
    rw [nh_hole, List.append_nil]
    exact hT
  · have := len_turn t hk hj p3z mid r
    rw [nh_hole] at this
    simp only [List.length_nil] at this
    omega
/-- behind what only counts -/
theorem TStep.later {m m0 m' : PileM} {n : Nat} {t t' : Tree} {k j : Nat} {q : P3} {c c' : Nat} {f : Nat → Sec} {s : Sec} (e : Alike m m0) (h : TStep m0 m' n t t' k j q c c' f s) : TStep m m' n t t' k j q c c' f s :=
  ⟨h.ok, fun x s hx => h.keep x s (hx.alike e), fun old hT => h.told old (hT.alike e), h.len, h.stamp.trans e.stamp, h.leaf⟩

section
variable {m m' : PileM} {n kk c : Nat} {t : Tree} {f : Nat → Sec}
/-- a tree without blocks is a hole -/
theorem all_holes (h : TreeOk m n t f) (e : ∀ i, i < 64 → t.leaf i = p3z) : t.root = p3z := by
  refine h.topE (P8.ext8 fun k hk => ?_)
  rw [holes_get hk]
  refine h.midE k hk (P8.ext8 fun j hj => ?_)
  rw [holes_get hj, ← TreeOk.leaf_at t hj]
  exact e _ (by omega)
theorem mem_blocksL {i : Nat} : i ∈ t.blocksL ↔ i < 64 ∧ t.leaf i ≠ p3z := by
  unfold Tree.blocksL
  rw [List.mem_filter, List.mem_range, Bool.not_eq_true']
  constructor
  · rintro ⟨h1, h2⟩
    exact ⟨h1, fun e => by rw [e] at h2; exact absurd h2 (by decide)⟩
  · rintro ⟨h1, h2⟩
    refine ⟨h1, ?_⟩
    cases e : (t.leaf i).holeB
    · rfl
    · exact absurd ((holeB_iff _).1 e) h2
theorem blocksL_nil (e : t.blocksL = []) (h : TreeOk m n t f) : t.root = p3z := all_holes h fun i hi => by
  by_cases hl : t.leaf i = p3z
  · exact hl
  · have := mem_blocksL.2 ⟨hi, hl⟩
    rw [e] at this; cases this
theorem blocksL_length (t : Tree) : t.blocksL.length ≤ 64 := by
  have := List.length_filter_le (fun i => !(t.leaf i).holeB) (List.range 64)
  rw [List.length_range] at this
  exact this
/-- a tree of which a law knows nothing but its root -/
theorem hole_tree (hp : TP m n kk c) : TreeOk m n tree0 (fun _ => sec0) := tree0_ok m n
theorem told0 (hm : ∀ a, a < 1024 → m.map a ≠ 2) : Told m n (nh tree0.flat ++ []) := by
  have e : nh tree0.flat = [] := by decide +kernel
  rw [e]
  exact ⟨List.nodup_nil, fun a ha => ⟨fun h => absurd h (hm a ha), fun h => by cases h⟩, fun q hq => by cases hq⟩
theorem flat0 : nh tree0.flat = [] := by decide +kernel
theorem newS_first {n : Nat} (h4 : n ≤ 1024) (s : Nat) (b : Nat) (h1 : 1 ≤ s) (h2 : s ≤ 281474976710655) {c : Nat} (hc : countN (newS n) = c) : TP ⟨DevM.fresh n, newS n, s, b⟩ n 0 c :=
  ⟨PLive.first _ _ _ _, fun a _ h => newS_free h, hc, h1, h2, h4⟩
theorem count200 : countN (newS 200) = 196 := by decide +kernel
theorem count400 : countN (newS 400) = 396 := by decide +kernel
theorem newS_not2 (n : Int) (a : Nat) : newS n a ≠ 2 := by unfold newS; split <;> decide
end

/-! ### The loops of All and Blocks -/
theorem blocks_step (t : Tree) (i : Nat) : (List.range (i + 1)).filter (fun i => !(t.leaf i).holeB) = (List.range i).filter (fun i => !(t.leaf i).holeB) ++ if (t.leaf i).holeB then [] else [i] := by
  rw [List.range_succ, List.filter_append]
  congr 1
  cases h : (t.leaf i).holeB <;> simp [h]
/-- behind the second node's first j -/
def Tree.allAt (t : Tree) (st k j : Nat) : List P3 := t.root :: (List.range k).flatMap (t.allRow st) ++ t.a.get k :: ((t.c k).1.take j).filter (fun q => q.sinceB st)
def Tree.allTo (t : Tree) (st k : Nat) : List P3 := t.root :: (List.range k).flatMap (t.allRow st)
theorem allTo_next (t : Tree) (st k : Nat) (h : (t.a.get k).sinceB st = true) : t.allTo st (k + 1) = t.allAt st k 8 := by
  unfold Tree.allTo Tree.allAt
  rw [List.range_succ, List.flatMap_append, List.flatMap_cons, List.flatMap_nil, List.append_nil, List.take_of_length_le (by rw [(t.c k).2]; omega)]
  unfold Tree.allRow
  rw [if_pos h]
  rfl
theorem allTo_skip (t : Tree) (st k : Nat) (h : (t.a.get k).sinceB st = false) : t.allTo st (k + 1) = t.allTo st k := by
  unfold Tree.allTo
  rw [List.range_succ, List.flatMap_append, List.flatMap_cons, List.flatMap_nil, List.append_nil]
  unfold Tree.allRow
  rw [if_neg (by rw [h]; decide), List.append_nil]
theorem allAt_zero (t : Tree) (st k : Nat) : t.allAt st k 0 = t.allTo st k ++ [t.a.get k] := rfl
theorem allAt_next (t : Tree) (st k : Nat) {j : Nat} (hj : j < 8) : t.allAt st k (j + 1) = t.allAt st k j ++ if ((t.c k).get j).sinceB st then [(t.c k).get j] else [] := by
  unfold Tree.allAt
  rw [List.take_succ_eq_append_getElem ((t.c k).lt hj), List.filter_append, ← (t.c k).get_eq hj]
  cases h : ((t.c k).get j).sinceB st <;> simp [h]
theorem allL_yes (t : Tree) (st : Nat) (h : t.root.sinceB st = true) : t.allL st = t.allTo st 8 := by unfold Tree.allL; rw [if_pos h]; rfl
theorem allL_no (t : Tree) (st : Nat) (h : t.root.sinceB st = false) : t.allL st = [] := by unfold Tree.allL; rw [if_neg (by rw [h]; decide)]
end Go.Proofs.Ytgdefibkemkejaa

/- What is done with a tree, as it came in: numbers and bytes. -/
namespace Go.Proofs.Ytgdefibkemkejaa
open Go.ChangeShapes Go.WideShapes Go.ChangeAt Go.RowKit Go.Deep
set_option linter.unusedVariables false
set_option maxRecDepth 20000

section
variable {H : Type} {enc : TypeId × Value → H} {P : Program} {w : World} {base : Nat} {held : Bool} {t e : TypeId} {fuel : Nat} {v : Value} {x : DataW H × List MemPlace}
/-- a slice of bytes in an element -/
theorem open_bytesE (ht : P.underlying t = some (.slice e)) (he : P.underlying e = some (.int .u8)) (hc : P.cellsOf e = 1) (hb : P.bytesOf e = 1)
    (h : DataW.trod enc P w base (fun _ => true) held fuel t [v] = some x) (hw : Light P t x.1) :
    ∃ (ao : Option Addr) (bs : List UInt8) (cap : Nat), v = .slice ao bs.length cap ∧ Bytes w ao bs ∧ bs.length ≤ cap ∧ cap ≤ reachBytes ∧ (ao = none → cap = 0) := by
  rcases open_slice1 ht hc h with ⟨hcs, _⟩ | ⟨a, len, cap, m, n, V, D, Pl, hcs, _, hl, _, hm, hx, hi⟩
  · obtain rfl : v = .slice none 0 0 := by simpa using hcs
    exact ⟨none, [], 0, rfl, Reads.nil _ _, Nat.le_refl _, Nat.zero_le _, fun _ => rfl⟩
  · obtain rfl : v = .slice (some a) len cap := by simpa using hcs
    simp only [if_true] at hm
    subst hm
    have hwt := hw
    rw [hx] at hwt
    have hlen := hwt.len ht
    simp only [List.length_map, List.length_range, hb, Nat.mul_one] at hlen
    have hB : ∀ i, i < m → ∃ b : UInt8, V i = byteV b ∧ w.cell? (a.add i) = some (byteV b) := fun i him => by
      obtain ⟨h1, h2⟩ := hi i him
      obtain ⟨z, hv, _, hwf⟩ := DataW.trod_int he h2
      have hv : V i = .int .u8 z := by simpa using hv
      refine ⟨UInt8.ofNat z.toNat, ?_, ?_⟩
      · rw [hv]; exact byteV_cell (wf_u8 hwf)
      · rw [h1, hv]; exact congrArg some (byteV_cell (wf_u8 hwf))
    obtain ⟨f, hf⟩ : ∃ f : Nat → UInt8, ∀ i, i < m → w.cell? (a.add i) = some (byteV (f i)) := ⟨fun i => if h : i < m then (hB i h).choose else 0, fun i h => by simp only [h, dif_pos]; exact (hB i h).choose_spec.2⟩
    refine ⟨some a, (List.range len).map f, m, by simp, ?_, by simpa using hl, by omega, fun h => by cases h⟩
    intro i hi'
    have hil : i < len := by simpa [bytesV] using hi'
    have hcell := hf i (by omega)
    have c0 := hf 0 (by omega)
    obtain ⟨bl, off, spot⟩ := a
    have hspot : spot = none := by simpa [Addr.add] using World.cell?_spot c0
    subst hspot
    rw [Go.WideShapes.add_plain] at hcell
    exact ⟨bl, off, rfl, by rw [hcell]; simp [bytesV]⟩
end

/-- something done with a tree -/
structure Act3 where
  kind : Int
  num : Int
  ao : Option Addr
  cap : Nat
  data : List UInt8
def act3L (a : Act3) : List Value := [.int .i64 a.kind, .int .i64 a.num, .slice a.ao a.data.length a.cap]
theorem act3L_length (a : Act3) : (act3L a).length = 3 := rfl
theorem act3L_one (a : Act3) : ∀ v ∈ act3L a, v.oneCell' = true := by
  intro v hv
  simp only [act3L, List.mem_cons, List.not_mem_nil, or_false] at hv
  rcases hv with rfl | rfl | rfl <;> rfl
structure Act3Ok (w : World) (a : Act3) : Prop where
  kind : I64 a.kind
  num : I64 a.num
  data : Bytes w a.ao a.data
  cap : a.data.length ≤ a.cap ∧ a.cap ≤ 140737488351232
  nil : a.ao = none → a.cap = 0
structure Acts3 (w : World) (ao : Option Addr) (as_ : List Act3) : Prop where
  cells : Reads w ao (rowsL act3L as_)
  each : ∀ a ∈ as_, Act3Ok w a
theorem Act3Ok.below {w w' : World} {a : Act3} (h : Act3Ok w a) (hb : Below w.heap.size w w') : Act3Ok w' a := ⟨h.kind, h.num, Reads.below h.data hb, h.cap, h.nil⟩
theorem Acts3.below {w w' : World} {ao : Option Addr} {as_ : List Act3} (h : Acts3 w ao as_) (hb : Below w.heap.size w w') : Acts3 w' ao as_ := ⟨h.cells.below hb, fun a ha => (h.each a ha).below hb⟩
/-- the k-th one's three cells -/
theorem Acts3.at_ {w : World} {ao : Option Addr} {as_ : List Act3} (h : Acts3 w ao as_) {k : Nat} (hk : k < as_.length) : ∃ b off, ao = some ⟨b, off, none⟩ ∧ b < w.heap.size ∧ w.cell? ⟨b, off + k * 3, none⟩ = some (.int .i64 as_[k].kind) ∧ w.cell? ⟨b, off + k * 3 + 1, none⟩ = some (.int .i64 as_[k].num) ∧ w.cell? ⟨b, off + k * 3 + 2, none⟩ = some (.slice as_[k].ao as_[k].data.length as_[k].cap) := by
  have hl : (rowsL act3L as_).length = as_.length * 3 := rowsL_length act3L_length _
  obtain ⟨b, off, e, _, hb⟩ := h.cells.at (k := k * 3) (by omega)
  have hat : ∀ j v, (act3L as_[k])[j]? = some v → w.cell? ⟨b, off + k * 3 + j, none⟩ = some v := fun j v hv => by
    have hj : j < 3 := by rw [← act3L_length as_[k]]; exact (List.getElem?_eq_some_iff.1 hv).1
    have h1 := rowsL_at act3L_length as_ k hk j v hv
    obtain ⟨b', off', e', c', _⟩ := h.cells.at (k := k * 3 + j) (by omega)
    rw [e] at e'
    cases e'
    rw [Nat.add_assoc, c']
    obtain ⟨hlt, e2⟩ := List.getElem?_eq_some_iff.1 h1
    rw [← e2]
  exact ⟨b, off, e, hb, hat 0 _ rfl, hat 1 _ rfl, hat 2 _ rfl⟩

theorem arg_acts11 {H : Type} {enc : TypeId × Value → H} {W : World} {base : Nat} {v : Value} {d : DataW H} {p : List MemPlace} (h : DataW.Trod enc Try.prog W 0 (fun _ => true) true 34 v d p) (hv : Value.okWide Try.prog W .any base 34 v)
    (hw : Light Try.prog 34 d) : ∃ (ao : Option Addr) (as_ : List Act3) (cap : Nat), v = .slice ao as_.length cap ∧ Acts3 W ao as_ ∧ as_.length ≤ 140737488351232 ∧ (ao = none → cap = 0) := by
  obtain ⟨a, len, cap, rfl⟩ := okWide_slice Try.underlying34 hv
  obtain ⟨fuel, hf⟩ := h
  have cA : Try.prog.cellsOf 41 = 3 := by kernel_rfl
  have bA : Try.prog.bytesOf 41 = 40 := by kernel_rfl
  rcases open_slice Try.underlying34 hf with ⟨hcs, _⟩ | ⟨a', len', cap', m, n, D, Pl, hcs, _, hl, _, hm, hx, hi⟩
  · simp [Value.cells] at hcs
    obtain ⟨rfl, rfl, rfl⟩ := hcs
    exact ⟨none, [], 0, rfl, ⟨Reads.nil _ _, fun a h => by cases h⟩, by simp, fun _ => rfl⟩
  · simp [Value.cells] at hcs
    obtain ⟨rfl, rfl, rfl⟩ := hcs
    simp only [if_true] at hm
    subst hm
    simp only [Prod.mk.injEq] at hx
    rw [hx.1] at hw
    have hlen := hw.len Try.underlying34
    simp only [List.length_map, List.length_range, bA] at hlen
    have key : ∀ i, i < len → ∃ am : Act3, (∀ j u, (act3L am)[j]? = some u → W.cell? (a'.add (i * 3 + j)) = some u) ∧ Act3Ok W am := by
      intro i hil
      obtain ⟨cs, hcells, htr⟩ := hi i (by omega)
      rw [cA] at hcells
      obtain ⟨_, hcl, hcat⟩ := World.cells?_some hcells
      have hD : Light Try.prog 41 (D i) := hw.elem Try.underlying34 (by simp; exact ⟨i, hil, rfl⟩)
      obtain ⟨xs, k, _, hxs, _, hxl, hfld⟩ := DataW.trod_struct Try.underlying41 htr
      simp only [Prod.mk.injEq] at hxs
      rw [hxs.1] at hD
      have cI : Try.prog.cellsOf 3 = 1 := by kernel_rfl
      have cB : Try.prog.cellsOf 39 = 1 := by kernel_rfl
      have g0 : DataW.trod enc Try.prog W 0 (fun _ => true) true k 3 ((cs.drop 0).take (Try.prog.cellsOf 3)) = xs[0]? := hfld 0 _ rfl
      have g1 : DataW.trod enc Try.prog W 0 (fun _ => true) true k 3 ((cs.drop 1).take (Try.prog.cellsOf 3)) = xs[1]? := hfld 1 _ rfl
      have g2 : DataW.trod enc Try.prog W 0 (fun _ => true) true k 39 ((cs.drop 2).take (Try.prog.cellsOf 39)) = xs[2]? := hfld 2 _ rfl
      have hxl3 : xs.length = 3 := hxl
      rw [cI] at g0 g1
      rw [cB] at g2
      rw [List.getElem?_eq_getElem (by omega)] at g0 g1 g2
      obtain ⟨z0, e0, _, wf0⟩ := DataW.trod_int Try.underlying3 g0
      obtain ⟨z1, e1, _, wf1⟩ := DataW.trod_int Try.underlying3 g1
      have hq : (cs.drop 2).take 1 = [cs[2]'(by omega)] := by
        rw [List.drop_eq_getElem_cons (by omega)]; rfl
      rw [hq] at g2
      obtain ⟨ko, bs, kc, e2, hkr, hkl, hkc, hkn⟩ := open_bytesE Try.underlying39 Try.underlying5 (by kernel_rfl) (by kernel_rfl) g2 (hD.field Try.underlying41 (j := 2) rfl (by rw [List.getElem?_map, List.getElem?_eq_getElem (by omega)]; rfl))
      have hsplit : cs = cs.take 1 ++ ((cs.drop 1).take 1 ++ (cs.drop 2).take 1) := by
        have q1 : (cs.drop 2).take 1 = cs.drop 2 := List.take_of_length_le (by simp; omega)
        have q3 : cs.drop 2 = (cs.drop 1).drop 1 := by rw [List.drop_drop]
        rw [q1, q3, List.take_append_drop, List.take_append_drop]
      have hcs : cs = act3L ⟨z0, z1, ko, kc, bs⟩ := by
        rw [hsplit]
        have e0' : cs.take 1 = [.int .i64 z0] := e0
        rw [e0', e1, hq, e2]
        rfl
      refine ⟨⟨z0, z1, ko, kc, bs⟩, fun j u hu => ?_, ⟨wf_i64 wf0, wf_i64 wf1, hkr, ⟨hkl, by unfold reachBytes at hkc; exact hkc⟩, hkn⟩⟩
      have hj : j < 3 := by rw [← act3L_length ⟨z0, z1, ko, kc, bs⟩]; exact (List.getElem?_eq_some_iff.1 hu).1
      rw [← Go.Deep.add_add, hcat j hj, hcs, hu]
    obtain ⟨f, hf⟩ : ∃ f : Nat → Act3, ∀ i, i < len → (∀ j u, (act3L (f i))[j]? = some u → W.cell? (a'.add (i * 3 + j)) = some u) ∧ Act3Ok W (f i) :=
      ⟨fun i => if h : i < len then (key i h).choose else ⟨0, 0, none, 0, []⟩, fun i h => by simp only [h, dif_pos]; exact (key i h).choose_spec⟩
    have hll : ((List.range len).map f).length = len := by simp
    refine ⟨some a', (List.range len).map f, m, by rw [hll], ⟨?_, ?_⟩, ?_, fun h => by cases h⟩
    · intro q hq
      rw [rowsL_length act3L_length, hll] at hq
      have hi1 : q / 3 < len := Nat.div_lt_of_lt_mul (by omega)
      have hj1 : q % 3 < 3 := Nat.mod_lt _ (by omega)
      have hqq : q / 3 * 3 + q % 3 = q := by omega
      obtain ⟨u, hget⟩ : ∃ u, (act3L (f (q / 3)))[q % 3]? = some u := ⟨_, List.getElem?_eq_getElem (by rw [act3L_length]; exact hj1)⟩
      have h1 := (hf _ hi1).1 _ _ hget
      have h2 := rowsL_at act3L_length ((List.range len).map f) (q / 3) (by rw [hll]; exact hi1) (q % 3) u (by simpa using hget)
      rw [hqq] at h1 h2
      have h0 := (hf 0 (by omega)).1 0 _ rfl
      obtain ⟨b, off, spot⟩ := a'
      have hspot : spot = none := by simpa [Addr.add] using World.cell?_spot h0
      subst hspot
      rw [Go.WideShapes.add_plain] at h1
      refine ⟨b, off, rfl, ?_⟩
      rw [h1, ← h2]
      exact (List.getElem?_eq_getElem _)
    · intro a ha
      obtain ⟨i, hi', rfl⟩ := List.mem_map.1 ha
      exact (hf i (List.mem_range.1 hi')).2
    · rw [hll]; unfold reachBytes at hlen; omega
end Go.Proofs.Ytgdefibkemkejaa

/- A law's pile and blocks beside it; what the calls on a tree leave (to be shown of the program's own code); an append and two ways in a drawn region. -/
namespace Go.Proofs.Ytgdefibkemkejaa
open Go.ChangeShapes Go.WideShapes Go.ChangeAt Go.RowKit
set_option linter.unusedVariables false
set_option maxRecDepth 20000

/-- a pile of a law's own, and blocks beside it -/
structure TL (w0 w : World) (g d B : Nat) (F : Nat → Prop) (m : PileM) (L : List (Nat × TypeId × List Value)) : Prop where
  p : P0 w0 w g d B F m
  l : Side w F w0.heap.size L
namespace TL
variable {w0 w w' : World} {g d B : Nat} {F F' : Nat → Prop} {m m' : PileM} {L L' : List (Nat × TypeId × List Value)} {x : Nat} {t : TypeId} {cs cs' : List Value} {y z u v : Nat × TypeId × List Value}
theorem below (h : TL w0 w g d B F m L) (hb : Below w.heap.size w w') : TL w0 w' g d B F m L := ⟨h.p.below hb, h.l.below hb⟩
theorem alloc (h : TL w0 w g d B F m L) (o : Obj) : TL w0 (w.alloc o) g d B F m L := h.below ((Below.refl _ _).alloc (Nat.le_refl _) o)
theorem drew (h : TL w0 w g d B F m L) : TL w0 w.drew g d B F m L := ⟨h.p.drew, h.l.drew⟩
theorem size (h : TL w0 w g d B F m L) : w0.heap.size ≤ w.heap.size := h.p.q.size
theorem box (h : TL w0 w g d B F m L) (t : TypeId) (cs : List Value) : TL w0 (w.alloc (.cells cs.toArray t)) g d B F m ((w.heap.size, t, cs) :: L) := ⟨h.p.alloc _, h.l.new h.p.at_.lt h.size t cs⟩
theorem lay (h : TL w0 w g d B F m L) {o : Obj} (k : Kept (· = w.heap.size) (w.alloc o) w') (hb : Blk w' w.heap.size t cs) : TL w0 w' g d B F m ((w.heap.size, t, cs) :: L) :=
  ⟨(h.p.alloc o).over k (fun i hi e => by have := h.p.at_.lt i hi; omega) (fun i hi e => by have := h.size; omega), h.l.fresh h.p.at_.lt h.size k hb⟩
theorem turn (h : TL w0 w g d B F m L) (T : PStep w g d B F F' m' w') : TL w0 w' g d B F' m' L := ⟨h.p.step T, h.l.turn T.kept T.grows⟩
theorem over (h : TL w0 w g d B F m ((x, t, cs) :: L)) (hn : ∀ y ∈ L, y.1 ≠ x) (k : Kept (· = x) w w') (hb : Blk w' x t cs') : TL w0 w' g d B F m ((x, t, cs') :: L) :=
  ⟨h.p.over k (fun i hi e => h.l.out (e ▸ hi)) (fun i hi e => by have := h.l.low; omega), h.l.set hn k hb⟩
theorem sub (h : TL w0 w g d B F m L) (hs : ∀ y ∈ L', y ∈ L) : TL w0 w g d B F m L' := ⟨h.p, h.l.sub hs⟩
theorem tail (h : TL w0 w g d B F m (y :: L)) : TL w0 w g d B F m L := h.sub fun _ hx => .tail _ hx
theorem swap (h : TL w0 w g d B F m (y :: z :: L)) : TL w0 w g d B F m (z :: y :: L) := h.sub fun a ha => by
  rcases List.mem_cons.1 ha with rfl | ha
  · exact .tail _ (.head _)
  · rcases List.mem_cons.1 ha with rfl | ha
    · exact .head _
    · exact .tail _ (.tail _ ha)
theorem b0 (h : TL w0 w g d B F m ((x, t, cs) :: L)) : Blk w x t cs := h.l.one
theorem b1 (h : TL w0 w g d B F m (y :: (x, t, cs) :: L)) : Blk w x t cs := h.tail.b0
theorem b2 (h : TL w0 w g d B F m (y :: z :: (x, t, cs) :: L)) : Blk w x t cs := h.tail.b1
theorem b3 (h : TL w0 w g d B F m (y :: z :: u :: (x, t, cs) :: L)) : Blk w x t cs := h.tail.b2
theorem lt0 (h : TL w0 w g d B F m ((x, t, cs) :: L)) : x < w.heap.size := h.b0.lt
theorem out0 (h : TL w0 w g d B F m ((x, t, cs) :: L)) : ¬ F x := h.l.out
/-- another row of the law's own grows -/
theorem grow {e : TypeId} {base : Nat} {a a' : Value} {xs : List Value} (h : TL w0 w g d B F m L) (ho : Own w base e a xs) (hg : Grew w w' a a') (hF : ∀ k, a.ownBlock = some k → ¬ F k ∧ w0.heap.size ≤ k ∧ ∀ y ∈ L, y.1 ≠ k) : TL w0 w' g d B F m L := by
  have k := Kept.of_grown (F := fun k => a.ownBlock = some k) hg.1 (fun k hk _ => hk)
  refine ⟨h.p.over k (fun i hi e => (hF i e).1 hi) (fun i hi e => by have := (hF i e).2.1; omega), fun y hy => ⟨(h.l y hy).1.kept k fun e => (hF _ e).2.2 y hy rfl, (h.l y hy).2⟩⟩
end TL

/-- a list of pointers that a call made -/
def LP (w w' : World) (F' : Nat → Prop) (v : Value) (L : List P3) : Prop :=
  ∃ ao cap, v = .slice ao L.length cap ∧ Reads w' ao (rowsL p3L L) ∧ (ao = none → cap = 0) ∧ ∀ a, ao = some a → w.heap.size ≤ a.block ∧ a.block < w'.heap.size ∧ ¬ F' a.block
/-- a list of numbers that a call made -/
def LI (w w' : World) (F' : Nat → Prop) (v : Value) (L : List Nat) : Prop :=
  ∃ ao cap, v = .slice ao L.length cap ∧ Reads w' ao (L.map fun i : Nat => Value.int .i64 (i : Int)) ∧ (ao = none → cap = 0) ∧ ∀ a, ao = some a → w.heap.size ≤ a.block ∧ a.block < w'.heap.size ∧ ¬ F' a.block

/-- what the calls on a tree that stands whole leave and answer -/
structure TreeC : Prop where
  get : ∀ {w : World} {g d B : Nat} {F : Nat → Prop} {m : PileM} {n kk c : Nat} {t : Tree} {f : Nat → Sec}, IsPile w g d B F m → TP m n kk c → kk ≤ 100000 → TreeOk m n t f → ∀ i : Int, I64 i →
    Calls Try.prog 8 #[.pointer (some ⟨g, 0, none⟩), p3V t.root, .int .i64 i] w fun e w' => ∃ m' F', e = .returned (.tuple #[.agg (secL (if 0 ≤ i ∧ i < 64 then f i.toNat else sec0)).toArray, .int .i64 (if 0 ≤ i ∧ i < 64 then 0 else 111)]) ∧ TP m' n kk c ∧ Alike m m' ∧ PStep w g d B F F' m' w'
  set : ∀ {w : World} {g d B : Nat} {F : Nat → Prop} {m : PileM} {n kk c : Nat} {t : Tree} {f : Nat → Sec}, IsPile w g d B F m → TP m n kk c → kk ≤ 100000 → TreeOk m n t f → ∀ (i : Int) (ao : Option Addr) (bs : List UInt8) (cap : Nat), Bytes w ao bs → bs.length ≤ cap → (ao = none → cap = 0) → (∀ a, ao = some a → ¬ F a.block) → 3 ≤ c → 0 ≤ i ∧ i < 64 ∧ bs.length ≤ 128 →
    Calls Try.prog 12 #[.pointer (some ⟨g, 0, none⟩), p3V t.root, .int .i64 i, .slice ao bs.length cap] w fun e w' => ∃ m' t' q v F', e = .returned (.tuple #[p3V t'.root, v, .int .i64 0]) ∧ TP m' n (kk + 3) (c - 3) ∧ TStep m m' n t t' (i.toNat / 8) (i.toNat % 8) q c (c - 3) f (blockS bs) ∧ q ≠ p3z ∧ PStep w g d B F F' m' w' ∧ LP w w' F' v (t.old (i.toNat / 8) (i.toNat % 8))
  set_no : ∀ {w : World} {g d B : Nat} {F : Nat → Prop} {m : PileM} {n kk c : Nat} {t : Tree} {f : Nat → Sec}, IsPile w g d B F m → TP m n kk c → kk ≤ 100000 → TreeOk m n t f → ∀ (i : Int) (ao : Option Addr) (bs : List UInt8) (cap : Nat), I64 i → Bytes w ao bs → bs.length ≤ cap → cap ≤ 9223372036854775807 → (ao = none → cap = 0) → (∀ a, ao = some a → ¬ F a.block) → ¬ (0 ≤ i ∧ i < 64 ∧ bs.length ≤ 128) →
    Calls Try.prog 12 #[.pointer (some ⟨g, 0, none⟩), p3V t.root, .int .i64 i, .slice ao bs.length cap] w fun e w' => ∃ m' v F', e = .returned (.tuple #[p3V t.root, v, .int .i64 (if 0 ≤ i ∧ i < 64 then 92 else 111)]) ∧ TP m' n kk c ∧ Alike m m' ∧ PStep w g d B F F' m' w' ∧ LP w w' F' v []
  trim : ∀ {w : World} {g d B : Nat} {F : Nat → Prop} {m : PileM} {n kk c : Nat} {t : Tree} {f : Nat → Sec}, IsPile w g d B F m → TP m n kk c → kk ≤ 100000 → TreeOk m n t f → ∀ i : Int, 2 ≤ c → 0 ≤ i ∧ i < 64 → t.leaf i.toNat ≠ p3z →
    Calls Try.prog 11 #[.pointer (some ⟨g, 0, none⟩), p3V t.root, .int .i64 i] w fun e w' => ∃ m' t' v F' c', e = .returned (.tuple #[p3V t'.root, v, .int .i64 0]) ∧ TP m' n (kk + 2) c' ∧ c ≤ c' + 2 ∧ TStep m m' n t t' (i.toNat / 8) (i.toNat % 8) p3z c c' f sec0 ∧ PStep w g d B F F' m' w' ∧ LP w w' F' v (t.old (i.toNat / 8) (i.toNat % 8))
  trim_no : ∀ {w : World} {g d B : Nat} {F : Nat → Prop} {m : PileM} {n kk c : Nat} {t : Tree} {f : Nat → Sec}, IsPile w g d B F m → TP m n kk c → kk ≤ 100000 → TreeOk m n t f → ∀ i : Int, I64 i → ¬ (0 ≤ i ∧ i < 64) ∨ t.leaf i.toNat = p3z →
    Calls Try.prog 11 #[.pointer (some ⟨g, 0, none⟩), p3V t.root, .int .i64 i] w fun e w' => ∃ m' v F', e = .returned (.tuple #[p3V t.root, v, .int .i64 (if 0 ≤ i ∧ i < 64 then 0 else 111)]) ∧ TP m' n kk c ∧ Alike m m' ∧ PStep w g d B F F' m' w' ∧ LP w w' F' v []
  all : ∀ {w : World} {g d B : Nat} {F : Nat → Prop} {m : PileM} {n kk c : Nat} {t : Tree} {f : Nat → Sec}, IsPile w g d B F m → TP m n kk c → kk ≤ 100000 → TreeOk m n t f → ∀ st : Nat, st < 18446744073709551616 →
    Calls Try.prog 17 #[.pointer (some ⟨g, 0, none⟩), p3V t.root, .int .u64 (st : Int)] w fun e w' => ∃ m' v F', e = .returned (.tuple #[v, .int .i64 0]) ∧ TP m' n kk c ∧ Alike m m' ∧ PStep w g d B F F' m' w' ∧ LP w w' F' v (t.allL st)
  blocks : ∀ {w : World} {g d B : Nat} {F : Nat → Prop} {m : PileM} {n kk c : Nat} {t : Tree} {f : Nat → Sec}, IsPile w g d B F m → TP m n kk c → kk ≤ 100000 → TreeOk m n t f →
    Calls Try.prog 14 #[.pointer (some ⟨g, 0, none⟩), p3V t.root] w fun e w' => ∃ m' v F', e = .returned (.tuple #[v, .int .i64 0]) ∧ TP m' n kk c ∧ Alike m m' ∧ PStep w g d B F F' m' w' ∧ LI w w' F' v t.blocksL

section
variable {P : Program} {ops : Array Oper} {o : Oper} {a : Act} {w : World} {Q : Exit → Act → World → Prop} {K : Act → World → Prop}
/-- an append of whatever slice onto a row of the call's own, as a step -/
theorem wp_own_app (s x : Operand) (t : TypeId) (ho : o.op = .call { callee := .builtin .append, args := #[s, x], argTypes := #[t, t] })
    (base : Nat) (e : TypeId) (i : TypeInfo) (z : Value) (bytes : Nat) (ht : P.underlying t = some (.slice e)) (hi : P.info? e = some i) (hz : i.zero = some z)
    (hsize : i.size = 1) (hby : i.bytes = bytes) (hzs : z.cells.size = 1)
    (v : Value) (cs : List Value) (hs : a.eval s = v) (hown : Own w base e v cs)
    (ao : Option Addr) (m c : Nat) (news : List Value) (hx : a.eval x = .slice ao m c) (hnil : ao = none → c = 0) (hl : news.length = m) (hnews : Reads w ao news) (h1 : ∀ u ∈ news, u.oneCell' = true)
    (h63 : cs.length + m ≤ 9223372036854775807) (hbytes : (cs.length + m) * bytes ≤ 140737488355328) (hbase : base ≤ w.heap.size)
    (h : ∀ v' w', Own w' base e v' (cs ++ news) → Grew w w' v v' → K (a.put o.dst v') w') : o.wp P a w K Q := by
  subst hl
  cases ao with
  | none =>
    obtain rfl := hnil rfl
    have hn : news = [] := hnews.none_nil
    subst hn
    have hrun := run_append_owned_none (P := P) (w := w) base t o.type e i 1 ht hi v cs.length cs hown
    unfold Oper.wp
    simp [execOp, ho, resolve, invoke, builtin, hs, hx, hrun, Result.andThen]
    exact h v w (by simpa using hown) (Grew.refl _ _)
  | some ad =>
    obtain ⟨v', w', hrun, h2, h3, _, h5⟩ := run_append_own_at (P := P) w base t o.type e i z 1 bytes ht hi hz hsize hby hzs (by decide) v cs.length cs hown ad news.length c news (by simp) (hnews.cellsAt ad rfl) h1 (by unfold maxLen; omega) hbytes hbase
    unfold Oper.wp execOp
    simp only [ho, resolve, invoke, builtin, Sem.run_bind, Sem.run_pure, Result.andThen_ok, List.map_toArray, List.map_cons, List.map_nil, hs, hx, hrun]
    refine h v' w' (by simpa [Own] using h2) ⟨h3, ?_⟩
    rcases h5 with h5 | h5
    · exact .inl h5
    · exact .inr ⟨_, h5, Nat.le_refl _⟩
end
section
variable {P : Program} {ops : Array Oper} {Q : Exit → Act → World → Prop} {md : Region.Mode} {fs : List (Nat × (World → Prop))}
/-- two that may come up, whatever they do -/
theorem inO_two (i j : Nat) (oi oj : Oper) {n : Nat} {l : Array Bool} {a : Act} {w : World} (hi : ops[i]? = some oi) (hj : ops[j]? = some oj) (hr : Region.ready md ops l = [i, j]) (hwi : Region.wanted oi (yielded ops a.tmps) = true) (hwj : Region.wanted oj (yielded ops a.tmps) = true)
    (h1 : ∀ K : Act → World → Prop, (∀ a' w', Keeps md ops fs i w w' → InO P md ops Q fs n (l.setIfInBounds i true) a' w' → K a' w') → oi.wp P a w K Q)
    (h2 : ∀ K : Act → World → Prop, (∀ a' w', Keeps md ops fs j w w' → InO P md ops Q fs n (l.setIfInBounds j true) a' w' → K a' w') → oj.wp P a w K Q) : InO P md ops Q fs (n + 1) l a w :=
  ⟨fun hc hS => ⟨fun h0 => (by rw [hr] at h0; cases h0), fun k hk => by
    have hk' := hk
    rw [hr] at hk'
    rcases List.mem_cons.1 hk' with rfl | hk'
    · unfold wpOp
      simp only [hi, hwi, if_true]
      exact .inl (h1 _ fun a' w' hk2 hrun => ⟨hk2, hrun.run (hc.set hk) (hS.keeps hc hk hk2)⟩)
    · obtain rfl : k = j := by simpa using hk'
      unfold wpOp
      simp only [hj, hwj, if_true]
      exact .inl (h2 _ fun a' w' hk2 hrun => ⟨hk2, hrun.run (hc.set hk) (hS.keeps hc hk hk2)⟩)⟩⟩
end
end Go.Proofs.Ytgdefibkemkejaa

/- The chapter's example holds, if the calls on a tree do as they are asked. -/
namespace Go.Proofs.Ytgdefibkemkejaa
open Go.ChangeShapes Go.WideShapes Go.ChangeAt Go.RowKit
set_option linter.unusedVariables false
set_option maxRecDepth 20000
set_option linter.unusedSimpArgs false

set_option maxHeartbeats 1000000 in
theorem made11_any (n : Int) (hn : I64 n) (w : World) : Calls Try.prog 9 #[.int .i64 n] w fun e w' =>
    ∃ g d B F, e = .returned (.pointer (some ⟨g, 0, none⟩)) ∧ P0 w w' g d B F ⟨DevM.fresh (DevM.newLen n), newS n, 1, 0⟩ := by
  have hn := Lib.hid hn
  go_enter Try.func9, Try.ntmps9
  go_wp2_with fail
  refine (New_any n hn.out w).mono ?_
  rintro e w1 ⟨d, Fd, rfl, h1, h2, h3⟩
  have h1 := Lib.hid h1
  have h2 := Lib.hid h2
  have h3 := Lib.hid h3
  go_wp2_with fail
  refine (New_at n w1 hn.out).mono ?_
  rintro e w2 ⟨B, rfl, hlB, hm, hb⟩
  have hd2 := Lib.hid (h1.out.below hb)
  have q2 := Lib.hid (h3.out.trans (hb.mono h3.out.size))
  have hnB : ¬ Fd B := fun hf => by have := h1.out.lt _ hf; omega
  have hlB := Lib.hid hlB
  have hm := Lib.hid hm
  have hnB := Lib.hid hnB
  clear hb
  go_wp2_with fail
  refine (New_pile 1 0 hd2.out hm.out hnB.out).mono ?_
  rintro e w3 ⟨g, rfl, hlg, hp, hb⟩
  have hlg := Lib.hid hlg
  have hp := Lib.hid hp
  have q3 := Lib.hid (q2.out.trans (hb.mono q2.out.size))
  clear hb
  go_wp2
  go_ret
  refine ⟨g, d, B, _, rfl, hp.out, ?_, q3.out⟩
  have hs1 := h3.out.size
  have hs2 := q2.out.size
  have e1 := hlg.out
  have e2 := hlB.out
  rintro k (hk | rfl | rfl)
  · exact h2.out _ hk
  · omega
  · omega

theorem flat_holes {m : PileM} {n kk c : Nat} {t : Tree} {f : Nat → Sec} (h : TreeOk m n t f) (hp : TP m n kk c) (e : ∀ i, i < 64 → t.leaf i = p3z) : nh t.flat = [] := by
  have hr := all_holes h e
  have ha := h.aE hp hr
  unfold nh
  refine filter_none fun q hq => ?_
  have : q = p3z := by
    rcases List.mem_cons.1 hq with rfl | hq
    · exact hr
    · simp only [List.mem_flatMap, List.mem_range] at hq
      obtain ⟨k, hk, hq⟩ := hq
      rcases List.mem_cons.1 hq with rfl | hq
      · rw [ha]; exact holes_get hk
      · obtain ⟨i, hi, _, rfl⟩ := h.row_at hk hq
        exact e i hi
  rw [this]; decide
/-- above a block there are two nodes -/
theorem old_three {m : PileM} {n kk c : Nat} {t : Tree} {f : Nat → Sec} (h : TreeOk m n t f) (hp : TP m n kk c) {k j : Nat} (hk : k < 8) (hj : j < 8) (e : (t.c k).get j ≠ p3z) : t.old k j = [(t.c k).get j, t.a.get k, t.root] := by
  have e1 : t.a.get k ≠ p3z := fun e' => e (by rw [h.cE hp hk e']; exact holes_get hj)
  have e2 : t.root ≠ p3z := fun e' => e1 (by rw [h.aE hp e']; exact holes_get hk)
  unfold Tree.old
  rw [nh3, nh_one e, nh_one e1, nh_one e2]
  rfl
def treeX : Sec := blockS [120]
theorem built_treeX : Try.prog.built 23 [(0, .int .u8 120)] = some (secL treeX).toArray := by kernel_rfl
/-- the k-th of a list of pointers -/
theorem rangeP {w : World} {ao : Option Addr} {L : List P3} (h : Reads w ao (rowsL p3L L)) {k : Nat} (hk : k < L.length) : ∃ b off, ao = some ⟨b, off, none⟩ ∧ b < w.heap.size ∧ w.rangeAt b (off + k * 3) (p3L L[k]) := by
  have hl : (rowsL p3L L).length = L.length * 3 := rowsL_length p3L_length _
  obtain ⟨b, off, e, _, hb⟩ := h.at (k := k * 3) (by omega)
  refine ⟨b, off, e, hb, fun j v hv => ?_⟩
  have hj : j < 3 := by rw [← p3L_length L[k]]; exact (List.getElem?_eq_some_iff.1 hv).1
  have h1 := rowsL_at p3L_length L k hk j v hv
  obtain ⟨b', off', e', c', _⟩ := h.at (k := k * 3 + j) (by omega)
  rw [e] at e'
  cases e'
  rw [Nat.add_assoc, c']
  obtain ⟨hlt, e2⟩ := List.getElem?_eq_some_iff.1 h1
  rw [← e2]

set_option maxRecDepth 100000 in
set_option maxHeartbeats 8000000 in
theorem treeAlive_any (C : TreeC) (w : World) : Calls Try.prog 10 #[] w fun e w' => e = .returned (.bool true) ∧ Below w.heap.size w w' := by
  have hcv : ∀ w : World, (convert 39 39 (.slice (some ⟨w.heap.size, 0, none⟩) 1 1)).run Try.prog (w.alloc (.cells #[.int .u8 120] 5)) = .ok (.slice (some ⟨w.heap.size, 0, none⟩) 1 1) (w.alloc (.cells #[.int .u8 120] 5 (1, 2))) := fun w => Lib.run_convert_bytes_const w 39 5 #[.int .u8 120] 1 1 Try.underlying39 Try.underlying5
  have hzs := zeroSec
  have C := Lib.hid C
  go_enter Try.func10, Try.ntmps10
  go_wp2_with fail
  refine (made11_any 64 (by unfold I64; omega) w).mono ?_
  rintro e w1 ⟨g, d, B, F, rfl, hP⟩
  rw [show DevM.newLen 64 = 64 from rfl] at hP
  obtain ⟨m0, hm0⟩ : ∃ m, Hid (m = (⟨DevM.fresh 64, newS 64, 1, 0⟩ : PileM)) := ⟨_, Lib.hid rfl⟩
  rw [← hm0.out] at hP
  have t0 : Hid (TP m0 64 0 60) := Lib.hid (by rw [hm0.out]; exact newS_first (n := 64) (by decide) 1 0 (by decide) (by decide) count64)
  have T1 := Lib.hid (show TL w w1 g d B F m0 [] from ⟨hP, Side.nil _ _ _⟩)
  clear hP
  go_wp2_with fail
  refine (C.out.set (T1.out.p.at_.alloc (.cells #[.int .u8 120] 5 (1, 2))) t0.out (by decide) (tree0_ok m0 64) 9 (some ⟨w1.heap.size, 0, none⟩) [120] 1 (by exact Reads.lit w1 #[.int .u8 120] 5 (1, 2)) (by decide) (fun e => by cases e) (fun a ha hf => by cases ha; have := T1.out.p.at_.lt _ hf; simp at this) (by decide) (by decide)).mono ?_
  rintro e w2 ⟨m1, t1, q, v, F1, rfl, p1, s1, hq, S1, L1⟩
  obtain ⟨lo, lc, rfl, _⟩ := L1
  have hl0 : (tree0.old (Int.toNat 9 / 8) (Int.toNat 9 % 8)).length = 0 := by decide +kernel
  rw [hl0]
  have T2 := Lib.hid ((T1.out.alloc _).turn S1)
  have p1 : Hid (TP m1 64 3 57) := Lib.hid p1
  have s1 : Hid (TStep m0 m1 64 tree0 t1 1 1 q 60 57 (fun _ => sec0) treeX) := Lib.hid s1
  have hn1 : (nh t1.flat).length = 3 := by
    have := s1.out.len
    rw [flat0] at this
    have h0 : (tree0.old 1 1).length = 0 := by decide +kernel
    rw [h0] at this
    simpa using this
  have hn1 := Lib.hid hn1
  clear S1 hl0
  obtain ⟨R, hR⟩ : ∃ R, Hid (R = t1.root) := ⟨_, Lib.hid rfl⟩
  rw [← hR.out]
  obtain ⟨a, b, sm⟩ := R
  unfold p3V
  dsimp only
  have T3 := Lib.hid (T2.out.box 32 (p3L ⟨a, b, sm⟩))
  have hw2 := T2.out.size
  go_wp2_with ((with_reducible refine n2Dst (some 22) (by rfl) ?_); refine wantList_load (by rfl) 32 _ rfl w2.heap.size 0 (by rfl) (p3L ⟨a, b, sm⟩) _ (rangeB T3.out.b0) Try.underlying32 rfl (infoPtr _) ?_)
  have hget := C.out.get T3.out.p.at_ p1.out (by decide) s1.out.ok 9 (by unfold I64; omega)
  rw [← hR.out] at hget
  refine hget.mono ?_
  rintro e w4 ⟨m2, F2, rfl, p2, a2, S2⟩
  clear hget
  have T4 := Lib.hid (T3.out.turn S2)
  have p2 := Lib.hid p2
  have ok2 := Lib.hid (s1.out.ok.alike a2)
  have hsec : (if (0 : Int) ≤ 9 ∧ (9 : Int) < 64 then (if Int.toNat 9 = 8 * 1 + 1 then treeX else sec0) else sec0) = treeX := by rw [if_pos (by decide), if_pos (by decide)]
  have he0 : (if (0 : Int) ≤ 9 ∧ (9 : Int) < 64 then (0 : Int) else 111) = 0 := by rw [if_pos (by decide)]
  rw [hsec, he0]
  clear S2 hsec he0
  have hw4 := T4.out.lt0
  go_wp2_with (first
    | ((with_reducible refine guardList ?_)
       refine wantList_store (by rfl) 23 _ _ rfl w4.heap.size 0 (by rfl) (secL treeX) (by rfl) _ (secL sec0) (secL treeX) (Blk.new w4 23 (secL sec0)) (by simp only [secL_length]; decide) (secL_one _) (infoSecL _) wholeS ?_
       intro w5 h5 k5 z5
       have T5 := Lib.hid (T4.out.lay k5 h5)
       have hw5 := T5.out.lt0
       clear h5 k5 z5)
    | ((with_reducible refine n2Dst (some 28) (by rfl) ?_); refine wantList_load (by rfl) 32 _ rfl w2.heap.size 0 (by rfl) (p3L ⟨a, b, sm⟩) _ (rangeB T5.out.b1) Try.underlying32 rfl (infoPtr _) ?_))
  have hleaf : t1.leaf (Int.toNat 9) ≠ p3z := by rw [s1.out.leaf (Int.toNat 9) (by decide), if_pos (by decide)]; exact hq
  have htrim := C.out.trim T5.out.p.at_ p2.out (by decide) ok2.out 9 (by decide) (by decide) hleaf
  rw [← hR.out] at htrim
  refine htrim.mono ?_
  rintro e w6 ⟨m3, t2, v, F3, c3, rfl, p3, hc3, s3, S3, L3⟩
  clear htrim
  have T6 := Lib.hid (T5.out.turn S3)
  have s3 : TStep m2 m3 64 t1 t2 1 1 p3z 57 c3 (fun i => if i = 8 * 1 + 1 then treeX else sec0) sec0 := s3
  have hholes : ∀ i, i < 64 → t2.leaf i = p3z := fun i hi => by
    rw [s3.leaf i hi]
    by_cases e : i = 8 * 1 + 1
    · rw [if_pos e]
    · rw [if_neg e, s1.out.leaf i hi, if_neg e]
      exact holes_get (Nat.mod_lt _ (by decide))
  have hroot : t2.root = p3z := all_holes s3.ok hholes
  have hold : t1.old 1 1 = [t1.leaf 9, t1.a.get 1, t1.root] := old_three ok2.out p2.out (by decide) (by decide) hleaf
  have hcnt : Hid (countN m3.map = 57) := Lib.hid (by
    have h1 := s3.len
    rw [flat_holes s3.ok p3 hholes, hold, hn1.out] at h1
    have h2 : 0 + 3 + c3 = 3 + 57 := h1
    rw [p3.cnt]; omega)
  obtain ⟨ko, kc, rfl, hkr, _, hkl⟩ := L3
  have hkr : Reads w6 ko (rowsL p3L [t1.leaf 9, t1.a.get 1, t1.root]) := by rw [← hold]; exact hkr
  obtain ⟨kb, koff, rfl, hkb, hk6⟩ := rangeP hkr (k := 2) (by simp)
  have hk6 : w6.rangeAt kb (koff + 6) (p3L ⟨a, b, sm⟩) := by rw [show (⟨a, b, sm⟩ : P3) = t1.root from hR.out]; exact hk6
  rw [show (t1.old (Int.toNat 9 / 8) (Int.toNat 9 % 8)).length = 3 from by rw [show t1.old (Int.toNat 9 / 8) (Int.toNat 9 % 8) = t1.old 1 1 from rfl, hold]; rfl, hroot]
  have T7 := Lib.hid (T6.out.box 32 (p3L p3z))
  have hk7 : Hid ((w6.alloc (.cells (p3L p3z).toArray 32)).drew.rangeAt kb (koff + 6) (p3L ⟨a, b, sm⟩)) := Lib.hid (fun j v hv => cell_alloc (hk6 j v hv) _)
  have hq3 : ∀ (w : World) (x : P3), (Op.equalIn 10000 32 (.agg (p3L x).toArray) (.agg (p3L x).toArray)).run Try.prog w = .ok true w := fun w x => by
    have := eqPtr w x x
    rw [P3.eqB_iff.2 rfl] at this
    exact this
  have hqS : ∀ w : World, (Op.equalIn 10000 23 (.agg (secL treeX).toArray) (.agg (secL treeX).toArray)).run Try.prog w = .ok true w := fun w => by rw [eqSec, decide_eq_true rfl]
  clear hk6 hkr hold hroot hholes s3 S3 hkl hn1 hleaf
  unfold p3V
  dsimp only [p3z]
  go_wp2
  refine inO_region [(18, fun w' => w'.rangeAt (w4.heap.size) (0) (secL treeX)), (27, fun w' => w'.rangeAt (w6.heap.size) (0) (p3L p3z)), (39, fun w' => w'.rangeAt (kb) (koff + 6) (p3L ⟨a, b, sm⟩)), (40, fun w' => w'.rangeAt (w2.heap.size) (0) (p3L ⟨a, b, sm⟩))] (by kernel_rfl) (Owed.cons (rangeB T7.out.drew.b1) (Owed.cons (rangeB T7.out.drew.b0) (Owed.cons (hk7.out) (Owed.cons (rangeB T7.out.drew.b2) (Owed.nil _ _))))) ?_
  refine inO_take 0 ⟨_, _, _, _, _, _⟩ (.int .i64 0) rfl (by kernel_rfl) (by kernel_rfl) (by kernel_rfl) (fun _ _ _ h => h) rfl (fun ww => exec_move (by rfl) (by rfl) ww) ?_
  simp only [Act.put, List.setIfInBounds_toArray, List.set_cons_zero, List.set_cons_succ]
  refine inO_take 1 ⟨_, _, _, _, _, _⟩ (.bool true) rfl (by kernel_rfl) (by kernel_rfl) (by kernel_rfl) (fun _ _ _ h => h) rfl (fun ww => by go_simp) ?_
  simp only [Act.put, List.setIfInBounds_toArray, List.set_cons_zero, List.set_cons_succ]
  refine inO_take 2 ⟨_, _, _, _, _, _⟩ (.bool true) rfl (by kernel_rfl) (by kernel_rfl) (by kernel_rfl) (fun _ _ _ h => h) rfl (fun ww => exec_move (by rfl) (by rfl) ww) ?_
  simp only [Act.put, List.setIfInBounds_toArray, List.set_cons_zero, List.set_cons_succ]
  refine inO_take 3 ⟨_, _, _, _, _, _⟩ (.slice lo 0 lc) rfl (by kernel_rfl) (by kernel_rfl) (by kernel_rfl) (fun _ _ _ h => h) rfl (fun ww => exec_move (by rfl) (by rfl) ww) ?_
  simp only [Act.put, List.setIfInBounds_toArray, List.set_cons_zero, List.set_cons_succ]
  refine inO_take 4 ⟨_, _, _, _, _, _⟩ (.int .i64 0) rfl (by kernel_rfl) (by kernel_rfl) (by kernel_rfl) (fun _ _ _ h => h) rfl (fun ww => by go_simp) ?_
  simp only [Act.put, List.setIfInBounds_toArray, List.set_cons_zero, List.set_cons_succ]
  refine inO_take 5 ⟨_, _, _, _, _, _⟩ (.bool true) rfl (by kernel_rfl) (by kernel_rfl) (by kernel_rfl) (fun _ _ _ h => h) rfl (fun ww => by go_simp) ?_
  simp only [Act.put, List.setIfInBounds_toArray, List.set_cons_zero, List.set_cons_succ]
  refine inO_take 6 ⟨_, _, _, _, _, _⟩ (.bool true) rfl (by kernel_rfl) (by kernel_rfl) (by kernel_rfl) (fun _ _ _ h => h) rfl (fun ww => by go_simp) ?_
  simp only [Act.put, List.setIfInBounds_toArray, List.set_cons_zero, List.set_cons_succ]
  refine inO_take 7 ⟨_, _, _, _, _, _⟩ (.bool true) rfl (by kernel_rfl) (by kernel_rfl) (by kernel_rfl) (fun _ _ _ h => h) rfl (fun ww => exec_move (by rfl) (by rfl) ww) ?_
  simp only [Act.put, List.setIfInBounds_toArray, List.set_cons_zero, List.set_cons_succ]
  refine inO_take 8 ⟨_, _, _, _, _, _⟩ (.pointer (some ⟨g, 0, none⟩)) rfl (by kernel_rfl) (by kernel_rfl) (by kernel_rfl) (fun _ _ _ h => h) rfl (fun ww => exec_move (by rfl) (by rfl) ww) ?_
  simp only [Act.put, List.setIfInBounds_toArray, List.set_cons_zero, List.set_cons_succ]
  refine inO_step 9 ⟨_, _, _, _, _, _⟩ rfl (by kernel_rfl) rfl (fun K hK => ?_)
  refine wp_call Try.func19 (by kernel_rfl) rfl _ _ rfl _ rfl _ (oMap T7.out.drew.p.at_) fun e w9 R => ?_
  obtain ⟨rfl, rfl⟩ := R
  refine ⟨_, rfl, ?_⟩
  refine hK _ _ (Keeps.cons (fun h => h) (Keeps.cons (fun h => h) (Keeps.cons (fun h => h) (Keeps.cons (fun h => h) (Keeps.nil _ _ _))))) ?_
  clear hK K
  simp only [Act.put, List.setIfInBounds_toArray, List.set_cons_zero, List.set_cons_succ]
  refine inO_step 10 ⟨_, _, _, _, _, _⟩ rfl (by kernel_rfl) rfl (fun K hK => ?_)
  refine wp_call Try.func23 (by kernel_rfl) rfl _ _ rfl _ rfl _ (oCount T7.out.drew.p.at_) fun e w9 R => ?_
  rw [hcnt.out] at R
  obtain ⟨rfl, rfl⟩ := R
  refine ⟨_, rfl, ?_⟩
  refine hK _ _ (Keeps.cons (fun h => h) (Keeps.cons (fun h => h) (Keeps.cons (fun h => h) (Keeps.cons (fun h => h) (Keeps.nil _ _ _))))) ?_
  clear hK K
  simp only [Act.put, List.setIfInBounds_toArray, List.set_cons_zero, List.set_cons_succ]
  refine inO_take 11 ⟨_, _, _, _, _, _⟩ (.bool true) rfl (by kernel_rfl) (by kernel_rfl) (by kernel_rfl) (fun _ _ _ h => h) rfl (fun ww => by go_simp) ?_
  simp only [Act.put, List.setIfInBounds_toArray, List.set_cons_zero, List.set_cons_succ]
  refine inO_take 12 ⟨_, _, _, _, _, _⟩ (.bool true) rfl (by kernel_rfl) (by kernel_rfl) (by kernel_rfl) (fun _ _ _ h => h) rfl (fun ww => by go_simp) ?_
  simp only [Act.put, List.setIfInBounds_toArray, List.set_cons_zero, List.set_cons_succ]
  refine inO_take 13 ⟨_, _, _, _, _, _⟩ (.bool true) rfl (by kernel_rfl) (by kernel_rfl) (by kernel_rfl) (fun _ _ _ h => h) rfl (fun ww => exec_move (by rfl) (by rfl) ww) ?_
  simp only [Act.put, List.setIfInBounds_toArray, List.set_cons_zero, List.set_cons_succ]
  refine inO_take 14 ⟨_, _, _, _, _, _⟩ (.int .i64 0) rfl (by kernel_rfl) (by kernel_rfl) (by kernel_rfl) (fun _ _ _ h => h) rfl (fun ww => exec_move (by rfl) (by rfl) ww) ?_
  simp only [Act.put, List.setIfInBounds_toArray, List.set_cons_zero, List.set_cons_succ]
  refine inO_take 15 ⟨_, _, _, _, _, _⟩ (.bool true) rfl (by kernel_rfl) (by kernel_rfl) (by kernel_rfl) (fun _ _ _ h => h) rfl (fun ww => by go_simp) ?_
  simp only [Act.put, List.setIfInBounds_toArray, List.set_cons_zero, List.set_cons_succ]
  refine inO_take 16 ⟨_, _, _, _, _, _⟩ (.bool true) rfl (by kernel_rfl) (by kernel_rfl) (by kernel_rfl) (fun _ _ _ h => h) rfl (fun ww => by go_simp) ?_
  simp only [Act.put, List.setIfInBounds_toArray, List.set_cons_zero, List.set_cons_succ]
  refine inO_take 17 ⟨_, _, _, _, _, _⟩ (.bool true) rfl (by kernel_rfl) (by kernel_rfl) (by kernel_rfl) (fun _ _ _ h => h) rfl (fun ww => exec_move (by rfl) (by rfl) ww) ?_
  simp only [Act.put, List.setIfInBounds_toArray, List.set_cons_zero, List.set_cons_succ]
  refine inO_load 18 ⟨_, _, _, _, _, _⟩ (.agg (secL treeX).toArray) (fun w' => w'.rangeAt (w4.heap.size) (0) (secL treeX)) rfl (by kernel_rfl) (by kernel_rfl) (by kernel_rfl) (fun _ _ _ h => h) rfl (.head _) (fun ww hw => exec_load_mid _ _ (by rfl) _ _ (by rfl) _ _ hw Try.underlying23 rfl (infoSecL _)) ?_
  simp only [Act.put, List.setIfInBounds_toArray, List.set_cons_zero, List.set_cons_succ]
  refine inO_take 19 ⟨_, _, _, _, _, _⟩ (.agg (secL treeX).toArray) rfl (by kernel_rfl) (by kernel_rfl) (by kernel_rfl) (fun _ _ _ h => h) rfl (fun ww => exec_build _ _ (by rfl) _ _ (by rfl) built_treeX ww) ?_
  simp only [Act.put, List.setIfInBounds_toArray, List.set_cons_zero, List.set_cons_succ]
  refine inO_take 20 ⟨_, _, _, _, _, _⟩ (.bool true) rfl (by kernel_rfl) (by kernel_rfl) (by kernel_rfl) (fun _ _ _ h => h) rfl (fun ww => by go_simp) ?_
  simp only [Act.put, List.setIfInBounds_toArray, List.set_cons_zero, List.set_cons_succ]
  refine inO_take 21 ⟨_, _, _, _, _, _⟩ (.bool true) rfl (by kernel_rfl) (by kernel_rfl) (by kernel_rfl) (fun _ _ _ h => h) rfl (fun ww => by go_simp) ?_
  simp only [Act.put, List.setIfInBounds_toArray, List.set_cons_zero, List.set_cons_succ]
  refine inO_take 22 ⟨_, _, _, _, _, _⟩ (.bool true) rfl (by kernel_rfl) (by kernel_rfl) (by kernel_rfl) (fun _ _ _ h => h) rfl (fun ww => exec_move (by rfl) (by rfl) ww) ?_
  simp only [Act.put, List.setIfInBounds_toArray, List.set_cons_zero, List.set_cons_succ]
  refine inO_take 23 ⟨_, _, _, _, _, _⟩ (.int .i64 0) rfl (by kernel_rfl) (by kernel_rfl) (by kernel_rfl) (fun _ _ _ h => h) rfl (fun ww => exec_move (by rfl) (by rfl) ww) ?_
  simp only [Act.put, List.setIfInBounds_toArray, List.set_cons_zero, List.set_cons_succ]
  refine inO_take 24 ⟨_, _, _, _, _, _⟩ (.bool true) rfl (by kernel_rfl) (by kernel_rfl) (by kernel_rfl) (fun _ _ _ h => h) rfl (fun ww => by go_simp) ?_
  simp only [Act.put, List.setIfInBounds_toArray, List.set_cons_zero, List.set_cons_succ]
  refine inO_take 25 ⟨_, _, _, _, _, _⟩ (.bool true) rfl (by kernel_rfl) (by kernel_rfl) (by kernel_rfl) (fun _ _ _ h => h) rfl (fun ww => by go_simp) ?_
  simp only [Act.put, List.setIfInBounds_toArray, List.set_cons_zero, List.set_cons_succ]
  refine inO_take 26 ⟨_, _, _, _, _, _⟩ (.bool true) rfl (by kernel_rfl) (by kernel_rfl) (by kernel_rfl) (fun _ _ _ h => h) rfl (fun ww => exec_move (by rfl) (by rfl) ww) ?_
  simp only [Act.put, List.setIfInBounds_toArray, List.set_cons_zero, List.set_cons_succ]
  refine inO_load 27 ⟨_, _, _, _, _, _⟩ (.agg (p3L p3z).toArray) (fun w' => w'.rangeAt (w6.heap.size) (0) (p3L p3z)) rfl (by kernel_rfl) (by kernel_rfl) (by kernel_rfl) (fun _ _ _ h => h) rfl (.tail _ (.head _)) (fun ww hw => exec_load_mid _ _ (by rfl) _ _ (by rfl) _ _ hw Try.underlying32 rfl (infoPtr _)) ?_
  simp only [Act.put, List.setIfInBounds_toArray, List.set_cons_zero, List.set_cons_succ]
  refine inO_take 28 ⟨_, _, _, _, _, _⟩ (.agg (p3L p3z).toArray) rfl (by kernel_rfl) (by kernel_rfl) (by kernel_rfl) (fun _ _ _ h => h) rfl (fun ww => exec_build _ _ (by rfl) _ _ (by rfl) built_p3 ww) ?_
  simp only [Act.put, List.setIfInBounds_toArray, List.set_cons_zero, List.set_cons_succ]
  refine inO_take 29 ⟨_, _, _, _, _, _⟩ (.bool true) rfl (by kernel_rfl) (by kernel_rfl) (by kernel_rfl) (fun _ _ _ h => h) rfl (fun ww => by go_simp) ?_
  simp only [Act.put, List.setIfInBounds_toArray, List.set_cons_zero, List.set_cons_succ]
  refine inO_take 30 ⟨_, _, _, _, _, _⟩ (.bool true) rfl (by kernel_rfl) (by kernel_rfl) (by kernel_rfl) (fun _ _ _ h => h) rfl (fun ww => by go_simp) ?_
  simp only [Act.put, List.setIfInBounds_toArray, List.set_cons_zero, List.set_cons_succ]
  refine inO_take 31 ⟨_, _, _, _, _, _⟩ (.bool true) rfl (by kernel_rfl) (by kernel_rfl) (by kernel_rfl) (fun _ _ _ h => h) rfl (fun ww => exec_move (by rfl) (by rfl) ww) ?_
  simp only [Act.put, List.setIfInBounds_toArray, List.set_cons_zero, List.set_cons_succ]
  refine inO_take 32 ⟨_, _, _, _, _, _⟩ (.slice (some ⟨kb, koff, none⟩) 3 kc) rfl (by kernel_rfl) (by kernel_rfl) (by kernel_rfl) (fun _ _ _ h => h) rfl (fun ww => exec_move (by rfl) (by rfl) ww) ?_
  simp only [Act.put, List.setIfInBounds_toArray, List.set_cons_zero, List.set_cons_succ]
  refine inO_take 33 ⟨_, _, _, _, _, _⟩ (.int .i64 3) rfl (by kernel_rfl) (by kernel_rfl) (by kernel_rfl) (fun _ _ _ h => h) rfl (fun ww => by go_simp) ?_
  simp only [Act.put, List.setIfInBounds_toArray, List.set_cons_zero, List.set_cons_succ]
  refine inO_take 34 ⟨_, _, _, _, _, _⟩ (.bool true) rfl (by kernel_rfl) (by kernel_rfl) (by kernel_rfl) (fun _ _ _ h => h) rfl (fun ww => by go_simp) ?_
  simp only [Act.put, List.setIfInBounds_toArray, List.set_cons_zero, List.set_cons_succ]
  refine inO_take 35 ⟨_, _, _, _, _, _⟩ (.bool true) rfl (by kernel_rfl) (by kernel_rfl) (by kernel_rfl) (fun _ _ _ h => h) rfl (fun ww => by go_simp) ?_
  simp only [Act.put, List.setIfInBounds_toArray, List.set_cons_zero, List.set_cons_succ]
  refine inO_take 36 ⟨_, _, _, _, _, _⟩ (.bool true) rfl (by kernel_rfl) (by kernel_rfl) (by kernel_rfl) (fun _ _ _ h => h) rfl (fun ww => exec_move (by rfl) (by rfl) ww) ?_
  simp only [Act.put, List.setIfInBounds_toArray, List.set_cons_zero, List.set_cons_succ]
  refine inO_take 37 ⟨_, _, _, _, _, _⟩ (.slice (some ⟨kb, koff, none⟩) 3 kc) rfl (by kernel_rfl) (by kernel_rfl) (by kernel_rfl) (fun _ _ _ h => h) rfl (fun ww => exec_move (by rfl) (by rfl) ww) ?_
  simp only [Act.put, List.setIfInBounds_toArray, List.set_cons_zero, List.set_cons_succ]
  refine inO_take 38 ⟨_, _, _, _, _, _⟩ (.pointer (some ⟨kb, koff + 6, none⟩)) rfl (by kernel_rfl) (by kernel_rfl) (by kernel_rfl) (fun _ _ _ h => h) rfl (fun ww => by go_simp) ?_
  simp only [Act.put, List.setIfInBounds_toArray, List.set_cons_zero, List.set_cons_succ]
  refine inO_load 39 ⟨_, _, _, _, _, _⟩ (.agg (p3L ⟨a, b, sm⟩).toArray) (fun w' => w'.rangeAt (kb) (koff + 6) (p3L ⟨a, b, sm⟩)) rfl (by kernel_rfl) (by kernel_rfl) (by kernel_rfl) (fun _ _ _ h => h) rfl (.tail _ (.tail _ (.head _))) (fun ww hw => exec_load_mid _ _ (by rfl) _ _ (by rfl) _ _ hw Try.underlying32 rfl (infoPtr _)) ?_
  simp only [Act.put, List.setIfInBounds_toArray, List.set_cons_zero, List.set_cons_succ]
  refine inO_load 40 ⟨_, _, _, _, _, _⟩ (.agg (p3L ⟨a, b, sm⟩).toArray) (fun w' => w'.rangeAt (w2.heap.size) (0) (p3L ⟨a, b, sm⟩)) rfl (by kernel_rfl) (by kernel_rfl) (by kernel_rfl) (fun _ _ _ h => h) rfl (.tail _ (.tail _ (.tail _ (.head _)))) (fun ww hw => exec_load_mid _ _ (by rfl) _ _ (by rfl) _ _ hw Try.underlying32 rfl (infoPtr _)) ?_
  simp only [Act.put, List.setIfInBounds_toArray, List.set_cons_zero, List.set_cons_succ]
  refine inO_take 41 ⟨_, _, _, _, _, _⟩ (.bool true) rfl (by kernel_rfl) (by kernel_rfl) (by kernel_rfl) (fun _ _ _ h => h) rfl (fun ww => by go_simp) ?_
  simp only [Act.put, List.setIfInBounds_toArray, List.set_cons_zero, List.set_cons_succ]
  refine inO_take 42 ⟨_, _, _, _, _, _⟩ (.bool true) rfl (by kernel_rfl) (by kernel_rfl) (by kernel_rfl) (fun _ _ _ h => h) rfl (fun ww => by go_simp) ?_
  simp only [Act.put, List.setIfInBounds_toArray, List.set_cons_zero, List.set_cons_succ]
  refine inO_take 43 ⟨_, _, _, _, _, _⟩ (.bool true) rfl (by kernel_rfl) (by kernel_rfl) (by kernel_rfl) (fun _ _ _ h => h) rfl (fun ww => by go_simp) ?_
  simp only [Act.put, List.setIfInBounds_toArray, List.set_cons_zero, List.set_cons_succ]
  refine inO_done (by kernel_rfl) ?_
  go_wp2
  go_ret
  exact ⟨rfl, T7.out.drew.p.q⟩
end Go.Proofs.Ytgdefibkemkejaa

/- Set and Trim, whatever they are asked; steps of the drawn region in which the laws of layer 11 call Set. -/
namespace Go.Proofs.Ytgdefibkemkejaa
open Go.ChangeShapes Go.WideShapes Go.ChangeAt Go.RowKit
set_option linter.unusedVariables false
set_option maxRecDepth 20000

/-- what a Set or a Trim leaves, whatever it answers -/
structure TAny (m m' : PileM) (n : Nat) (t t' : Tree) (c c' : Nat) (L : List P3) : Prop where
  keep : ∀ x s, AtS m n x s → AtS m' n x s
  told : ∀ old, Told m n (nh t.flat ++ old) → Told m' n (nh t'.flat ++ (old ++ L))
  len : (nh t'.flat).length + L.length + c' = (nh t.flat).length + c
  stamp : m'.stamp = m.stamp
  ok : ∃ f', TreeOk m' n t' f'
theorem TP.more {m : PileM} {n k c k' : Nat} (h : TP m n k c) (hk : k ≤ k') : TP m n k' c := ⟨h.live.more hk, h.free, h.cnt, h.st1, h.st2, h.n1⟩
theorem TAny.same {m m' : PileM} {n c : Nat} {t : Tree} {f : Nat → Sec} (h : TreeOk m n t f) (e : Alike m m') : TAny m m' n t t c c [] :=
  ⟨fun x s hx => hx.alike e, fun old hT => by rw [List.append_nil]; exact hT.alike e, by simp, e.stamp, ⟨f, h.alike e⟩⟩
theorem TStep.any {m m' : PileM} {n : Nat} {t t' : Tree} {k j : Nat} {q : P3} {c c' : Nat} {f : Nat → Sec} {s : Sec} (h : TStep m m' n t t' k j q c c' f s) : TAny m m' n t t' c c' (t.old k j) := ⟨h.keep, h.told, h.len, h.stamp, _, h.ok⟩
section
variable {w : World} {g d B : Nat} {F : Nat → Prop} {m : PileM} {n kk c : Nat} {t : Tree} {f : Nat → Sec}
theorem TreeC.put (C : TreeC) (hI : IsPile w g d B F m) (hp : TP m n kk c) (hk : kk ≤ 100000) (h : TreeOk m n t f) (i : Int) (hi : I64 i) (ao : Option Addr) (bs : List UInt8) (cap : Nat) (hB : Bytes w ao bs) (hl : bs.length ≤ cap) (hcap : cap ≤ 9223372036854775807) (hn : ao = none → cap = 0) (hF : ∀ a, ao = some a → ¬ F a.block) (hc : 3 ≤ c) :
    Calls Try.prog 12 #[.pointer (some ⟨g, 0, none⟩), .agg (p3L t.root).toArray, .int .i64 i, .slice ao bs.length cap] w fun e w' => ∃ m' t' v F' er c' L, e = .returned (.tuple #[.agg (p3L t'.root).toArray, v, .int .i64 er]) ∧ TAny m m' n t t' c c' L ∧ TP m' n (kk + 3) c' ∧ c ≤ c' + 3 ∧ PStep w g d B F F' m' w' ∧ LP w w' F' v L := by
  by_cases hin : 0 ≤ i ∧ i < 64 ∧ bs.length ≤ 128
  · refine (C.set hI hp hk h i ao bs cap hB hl hn hF hc hin).mono ?_
    rintro e w' ⟨m', t', q, v, F', rfl, p', s', _, S', L'⟩
    exact ⟨m', t', v, F', 0, c - 3, _, rfl, s'.any, p', by omega, S', L'⟩
  · refine (C.set_no hI hp hk h i ao bs cap hi hB hl hcap hn hF hin).mono ?_
    rintro e w' ⟨m', v, F', rfl, p', a', S', L'⟩
    exact ⟨m', t, v, F', _, c, [], rfl, TAny.same h a', p'.more (by omega), by omega, S', L'⟩
theorem TreeC.cut (C : TreeC) (hI : IsPile w g d B F m) (hp : TP m n kk c) (hk : kk ≤ 100000) (h : TreeOk m n t f) (i : Int) (hi : I64 i) (hc : 2 ≤ c) :
    Calls Try.prog 11 #[.pointer (some ⟨g, 0, none⟩), .agg (p3L t.root).toArray, .int .i64 i] w fun e w' => ∃ m' t' v F' c' L, e = .returned (.tuple #[.agg (p3L t'.root).toArray, v, .int .i64 (if 0 ≤ i ∧ i < 64 then 0 else 111)]) ∧ TAny m m' n t t' c c' L ∧ TP m' n (kk + 2) c' ∧ c ≤ c' + 2 ∧ PStep w g d B F F' m' w' ∧ LP w w' F' v L ∧ (∀ j, j < 64 → t'.leaf j = if (j : Int) = i then p3z else t.leaf j) := by
  by_cases hin : ¬ (0 ≤ i ∧ i < 64) ∨ t.leaf i.toNat = p3z
  · refine (C.trim_no hI hp hk h i hi hin).mono ?_
    rintro e w' ⟨m', v, F', rfl, p', a', S', L'⟩
    refine ⟨m', t, v, F', c, [], rfl, TAny.same h a', p'.more (by omega), by omega, S', L', fun j hj => ?_⟩
    by_cases e : (j : Int) = i
    · rw [if_pos e]
      rcases hin with h1 | h1
      · exact absurd ⟨by omega, by omega⟩ h1
      · rw [← h1]; congr 1; omega
    · rw [if_neg e]
  · have h1 : 0 ≤ i ∧ i < 64 := by
      by_cases h1 : 0 ≤ i ∧ i < 64
      · exact h1
      · exact absurd (.inl h1) hin
    refine (C.trim hI hp hk h i hc h1 (fun e => hin (.inr e))).mono ?_
    rintro e w' ⟨m', t', v, F', c', rfl, p', hc', s', S', L'⟩
    refine ⟨m', t', v, F', c', _, by rw [if_pos h1]; rfl, s'.any, p', hc', S', L', fun j hj => ?_⟩
    rw [s'.leaf j hj]
    by_cases e : (j : Int) = i
    · rw [if_pos e, if_pos (by omega)]
    · rw [if_neg e, if_neg (by omega)]
end

section
variable {o : Oper} {a : Act} {w : World} {Q : Exit → Act → World → Prop} {K : Act → World → Prop}
theorem wp_newPtr (ho : o.op = .alloc 32) (h : K (a.put o.dst (.pointer (some ⟨w.heap.size, 0, none⟩))) (w.alloc (.cells (p3L p3z).toArray 32))) : o.wp Try.prog a w K Q := by
  have hr : (execOp a.eval o).run Try.prog w = .ok (.value (.pointer (some ⟨w.heap.size, 0, none⟩))) (w.alloc (.cells (p3L p3z).toArray 32)) := by
    unfold execOp
    simp only [ho]
    go_simp
    rfl
  unfold Oper.wp
  rw [hr]
  exact h
theorem wp_noBytes (ho : o.op = .buildSlice 39 0 #[]) (h : K (a.put o.dst (.slice (some ⟨w.heap.size, 0, none⟩) 0 0)) (w.alloc (.cells ([] : List Value).toArray 5))) : o.wp Try.prog a w K Q := by
  have hr : (execOp a.eval o).run Try.prog w = .ok (.value (.slice (some ⟨w.heap.size, 0, none⟩) 0 0)) (w.alloc (.cells ([] : List Value).toArray 5)) := by
    unfold execOp
    simp only [ho]
    go_simp
  unfold Oper.wp
  rw [hr]
  exact h
end
theorem Own.of_none {w : World} {b : Nat} {e : TypeId} (h : Blk w b e []) : Own w b e (.slice (some ⟨b, 0, none⟩) 0 0) [] :=
  ⟨rfl, .inr ⟨b, 0, #[], rfl, Nat.le_refl _, h, Nat.le_refl _, Nat.zero_le _, rfl, rfl⟩⟩
end Go.Proofs.Ytgdefibkemkejaa
