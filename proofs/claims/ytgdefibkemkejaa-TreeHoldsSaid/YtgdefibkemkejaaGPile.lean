/- Pile: the texts PileA, PileB, PileC, PileD, PileE, PileF, PileG, one behind the other. -/
import Derived.Test.YtgdefibkemkejaaGPtr
import Derived.Test.YtgdefibkemkejaaGSum
import Derived.Test.YtgdefibkemkejaaGVdevB
import Derived.Test.YtgdefibkemkejaaGSlabB
import Derived.Test.YtgdefibkemkejaaGBase
/- A pile as plain data; its blocks in memory; what a call on it leaves. -/
namespace Go.Proofs.Ytgdefibkemkejaa
open Go.ChangeShapes Go.WideShapes Go.ChangeAt Go.RowKit
set_option linter.unusedVariables false
set_option maxRecDepth 20000

/-- a pile: its device, its map, the stamp, the base -/
structure PileM where
  dev : DevM
  map : Nat → Nat
  stamp : Nat
  base : Nat

/-- bytes as a sector -/
def blockL (bs : List UInt8) : List UInt8 := bs.take 128 ++ List.replicate (128 - bs.length) 0
theorem blockL_length (bs : List UInt8) : (blockL bs).length = 128 := by simp [blockL]; omega
def blockS (bs : List UInt8) : Sec := ⟨blockL bs, blockL_length bs⟩
/-- a sector's sum -/
def sumS (s : Sec) : Nat := crcMore 0 s.1
theorem sumS_lt (s : Sec) : sumS s < 4294967296 := crcMore_lt _ _

namespace PileM
def putAt (m : PileM) (i : Int) (bs : List UInt8) : PileM × P3 × Int :=
  if bs.length ≤ 128 then
    if canTurn m.map i 2 = true then
      if (m.dev.write i (blockS bs)).2 = 0 then ({ m with dev := (m.dev.write i (blockS bs)).1 }, ⟨i, m.stamp, sumS (blockS bs)⟩, 0)
      else ({ m with dev := (m.dev.write i (blockS bs)).1 }, p3z, (m.dev.write i (blockS bs)).2)
    else (m, p3z, 72)
  else (m, p3z, 92)
def put (m : PileM) (bs : List UInt8) : PileM × P3 × Int :=
  if bs.length ≤ 128 then
    match allocO m.map with
    | none => (m, p3z, 71)
    | some i =>
      if (({ m with map := upd m.map i 2 } : PileM).putAt i bs).2.2 = 0 then ({ m with map := upd m.map i 2 } : PileM).putAt i bs
      else ({ (({ m with map := upd m.map i 2 } : PileM).putAt i bs).1 with map := turnF (({ m with map := upd m.map i 2 } : PileM).putAt i bs).1.map i 2 1 }, (({ m with map := upd m.map i 2 } : PileM).putAt i bs).2)
  else (m, p3z, 92)
def get (m : PileM) (q : P3) : PileM × Sec × Int :=
  if q.holeB = true then (m, sec0, 0) else
  ({ m with dev := m.dev.tick },
    if (m.dev.read q.a).2 = 41 then (sec0, 91)
    else if (m.dev.read q.a).2 = 0 then (if sumS (m.dev.read q.a).1 = q.s then ((m.dev.read q.a).1, 0) else (sec0, 91))
    else (sec0, (m.dev.read q.a).2))
def drop (m : PileM) (q : P3) : PileM × Int :=
  if q.holeB = true then (m, 0) else
  if m.base < q.b then ({ m with map := turnF m.map q.a 2 1 }, turnE m.map q.a 2) else ({ m with map := turnF m.map q.a 2 3 }, turnE m.map q.a 2)
def next (m : PileM) : PileM := { m with stamp := m.stamp + 1 }
def commit (m : PileM) : PileM := ⟨m.dev, commitF m.map, m.stamp + 1, m.stamp⟩
end PileM

/-- the cells of a pile -/
def pileL (d B s b : Nat) : List Value := [.pointer (some ⟨d, 0, none⟩), .pointer (some ⟨B, 0, none⟩), .int .u64 (s : Int), .int .u64 (b : Int)]
theorem pileL_one (d B s b : Nat) : ∀ v ∈ pileL d B s b, v.oneCell' = true := by
  intro v hv
  simp only [pileL, List.mem_cons, List.not_mem_nil, or_false] at hv
  rcases hv with rfl | rfl | rfl | rfl <;> rfl

/-- a pile in block g, its device in d, its map in B; F: all its blocks -/
structure IsPile (w : World) (g d B : Nat) (F : Nat → Prop) (m : PileM) : Prop where
  blk : Blk w g 84 (pileL d B m.stamp m.base)
  dev : IsDev w d (fun k => F k ∧ k ≠ g ∧ k ≠ B) m.dev
  map : MapAt w B m.map
  fg : F g
  fB : F B
  lt : ∀ k, F k → k < w.heap.size
/-- what a call leaves -/
structure PStep (w : World) (g d B : Nat) (F F' : Nat → Prop) (m' : PileM) (w' : World) : Prop where
  at_ : IsPile w' g d B F' m'
  kept : Kept F w w'
  grows : Grows w.heap.size F F'
def PTurned (w : World) (g d B : Nat) (F : Nat → Prop) (m' : PileM) (w' : World) : Prop := ∃ F', PStep w g d B F F' m' w'

theorem IsDev.wide {w : World} {d : Nat} {F G : Nat → Prop} {m : DevM} (h : IsDev w d F m) (hFG : ∀ k, F k → G k) (hG : ∀ k, G k → k < w.heap.size) : IsDev w d G m := by
  obtain ⟨L, e, h1, h2, _⟩ := h
  exact ⟨L, e, h1, fun k hk => hFG k (h2 k hk), hG⟩

section
variable {w w' w'' : World} {g d B : Nat} {F F' F'' : Nat → Prop} {m m' m'' : PileM}
theorem IsPile.ne (h : IsPile w g d B F m) : g ≠ B := Blk.ne h.blk h.map (by decide)
theorem IsPile.kept {G : Nat → Prop} (h : IsPile w g d B F m) (k : Kept G w w') (hn : ∀ i, F i → ¬ G i) : IsPile w' g d B F m :=
  ⟨h.blk.kept k (hn _ h.fg), h.dev.kept k fun i hi => hn i hi.1, h.map.kept k (hn _ h.fB), h.fg, h.fB, fun i hi => Nat.lt_of_lt_of_le (h.lt i hi) k.size⟩
theorem IsPile.below (h : IsPile w g d B F m) (hb : Below w.heap.size w w') : IsPile w' g d B F m := h.kept (G := fun _ => False) (Kept.of_below hb _) fun _ _ => id
theorem IsPile.alloc (h : IsPile w g d B F m) (o : Obj) : IsPile (w.alloc o) g d B F m := h.kept (G := fun _ => False) (Kept.of_alloc _ _ _) fun _ _ => id
theorem IsPile.drew (h : IsPile w g d B F m) : IsPile w.drew g d B F m := ⟨h.blk, h.dev.kept (G := fun _ => False) (Kept.refl _ _).drew (fun _ _ => id), h.map, h.fg, h.fB, h.lt⟩
theorem IsPile.drewN (h : IsPile w g d B F m) (n : Nat) : IsPile (w.drewN n) g d B F m := ⟨h.blk, h.dev.kept (G := fun _ => False) ((Kept.refl _ _).drewN n) (fun _ _ => id), h.map, h.fg, h.fB, h.lt⟩
theorem IsPile.cells (h : IsPile w g d B F m) : w.cell? ⟨g, 0, none⟩ = some (.pointer (some ⟨d, 0, none⟩)) ∧ w.cell? ⟨g, 1, none⟩ = some (.pointer (some ⟨B, 0, none⟩)) ∧ w.cell? ⟨g, 2, none⟩ = some (.int .u64 (m.stamp : Int)) ∧ w.cell? ⟨g, 3, none⟩ = some (.int .u64 (m.base : Int)) :=
  ⟨by rw [h.blk.cell]; rfl, by rw [h.blk.cell]; rfl, by rw [h.blk.cell]; rfl, by rw [h.blk.cell]; rfl⟩
theorem IsPile.frozen (h : IsPile w g d B F m) (i : Nat) : w.frozen? ⟨g, i, none⟩ = false := h.blk.frozen i

/-- its device has turned -/
theorem IsPile.turnDev {dm : DevM} (h : IsPile w g d B F m) (T : Turned w d (fun k => F k ∧ k ≠ g ∧ k ≠ B) dm w') : PTurned w g d B F { m with dev := dm } w' := by
  obtain ⟨F1, h1, k1, g1⟩ := T
  have hng : ¬ F1 g := g1.not (fun hf => hf.2.1 rfl) (h.lt _ h.fg)
  have hnB : ¬ F1 B := g1.not (fun hf => hf.2.2 rfl) (h.lt _ h.fB)
  have hlt : ∀ k, (F1 k ∨ k = g ∨ k = B) → k < w'.heap.size := by
    rintro k (hk | rfl | rfl)
    · exact h1.lt _ hk
    · exact Nat.lt_of_lt_of_le (h.lt _ h.fg) k1.size
    · exact Nat.lt_of_lt_of_le (h.lt _ h.fB) k1.size
  refine ⟨fun k => F1 k ∨ k = g ∨ k = B, ⟨h.blk.kept k1 (fun hf => hf.2.1 rfl), ?_, h.map.kept k1 (fun hf => hf.2.2 rfl), .inr (.inl rfl), .inr (.inr rfl), hlt⟩, k1.mono fun i _ hi => hi.1, ?_⟩
  · exact h1.wide (fun k hk => ⟨.inl hk, fun e => hng (e ▸ hk), fun e => hnB (e ▸ hk)⟩) fun k hk => hlt k hk.1
  · rintro k (hk | rfl | rfl)
    · rcases g1 k hk with e | e
      · exact .inl e.1
      · exact .inr e
    · exact .inl h.fg
    · exact .inl h.fB
/-- its map has turned -/
theorem IsPile.turnMap {f : Nat → Nat} (h : IsPile w g d B F m) (hm : MapAt w' B f) (k : Kept (· = B) w w') : PTurned w g d B F { m with map := f } w' := by
  refine ⟨F, ⟨h.blk.kept k h.ne, h.dev.kept k fun i hi => hi.2.2, hm, h.fg, h.fB, fun i hi => Nat.lt_of_lt_of_le (h.lt i hi) k.size⟩, k.mono fun i _ e => by rw [e]; exact h.fB, fun i hi => .inl hi⟩
/-- its own cells have turned -/
theorem IsPile.turnOwn {s b : Nat} (h : IsPile w g d B F m) (hb : Blk w' g 84 (pileL d B s b)) (k : Kept (· = g) w w') : PTurned w g d B F { m with stamp := s, base := b } w' := by
  refine ⟨F, ⟨hb, h.dev.kept k fun i hi => hi.2.1, h.map.kept k (fun e => h.ne e.symm), h.fg, h.fB, fun i hi => Nat.lt_of_lt_of_le (h.lt i hi) k.size⟩, k.mono fun i _ e => by rw [e]; exact h.fg, fun i hi => .inl hi⟩

namespace PStep
theorem start (h : IsPile w g d B F m) : PStep w g d B F F m w := ⟨h, Kept.refl _ _, fun _ hi => .inl hi⟩
theorem below (h : PStep w g d B F F' m' w') (hb : Below w'.heap.size w' w'') : PStep w g d B F F' m' w'' := ⟨h.at_.below hb, h.kept.trans (Kept.of_below hb _), h.grows⟩
theorem alloc (h : PStep w g d B F F' m' w') (o : Obj) : PStep w g d B F F' m' (w'.alloc o) := h.below ((Below.refl _ _).alloc (Nat.le_refl _) o)
theorem drew (h : PStep w g d B F F' m' w') : PStep w g d B F F' m' w'.drew := ⟨h.at_.drew, h.kept.drew, h.grows⟩
theorem drewN (h : PStep w g d B F F' m' w') (n : Nat) : PStep w g d B F F' m' (w'.drewN n) := ⟨h.at_.drewN n, h.kept.drewN n, h.grows⟩
/-- one call more -/
theorem turn (h : PStep w g d B F F' m' w') (T : PTurned w' g d B F' m'' w'') : PTurned w g d B F m'' w'' := by
  obtain ⟨F2, h1, k1, g1⟩ := T
  refine ⟨F2, h1, h.kept.then k1 (fun i hi hf => by rcases h.grows i hf with e | e; exact e; omega), fun i hi => ?_⟩
  rcases g1 i hi with e | e
  · exact h.grows i e
  · exact .inr (Nat.le_trans h.kept.size e)
theorem trans (h : PStep w g d B F F' m' w') (T : PStep w' g d B F' F'' m'' w'') : PStep w g d B F F'' m'' w'' := by
  refine ⟨T.at_, h.kept.then T.kept (fun i hi hf => by rcases h.grows i hf with e | e; exact e; omega), fun i hi => ?_⟩
  rcases T.grows i hi with e | e
  · exact h.grows i e
  · exact .inr (Nat.le_trans h.kept.size e)
/-- a block of the call's own is overwritten -/
theorem over {x : Nat} (h : PStep w g d B F F' m' w') (k : Kept (· = x) w' w'') (hx : w.heap.size ≤ x) (hn : ¬ F' x) : PStep w g d B F F' m' w'' :=
  ⟨h.at_.kept k fun i hi e => hn (e ▸ hi), h.kept.then k (fun i hi e => by omega), h.grows⟩
theorem done (h : PStep w g d B F F' m' w') : PTurned w g d B F m' w' := ⟨F', h⟩
/-- a block that isn't its own -/
theorem blk {x : Nat} {t : TypeId} {cs : List Value} (h : PStep w g d B F F' m' w') (hb : Blk w x t cs) (hn : ¬ F x) : Blk w' x t cs := hb.kept h.kept hn
theorem not {x : Nat} (h : PStep w g d B F F' m' w') (hn : ¬ F x) (hlt : x < w.heap.size) : ¬ F' x := h.grows.not hn hlt
end PStep
theorem PTurned.from {w0 : World} {F0 : Nat → Prop} (h : PStep w0 g d B F0 F m w) (T : PTurned w g d B F m' w') : PTurned w0 g d B F0 m' w' := h.turn T
end

/-- a pile of a law's own -/
structure P0 (w0 w : World) (g d B : Nat) (F : Nat → Prop) (m : PileM) : Prop where
  at_ : IsPile w g d B F m
  low : ∀ k, F k → w0.heap.size ≤ k
  q : Below w0.heap.size w0 w
namespace P0
variable {w0 w w' : World} {g d B : Nat} {F F' : Nat → Prop} {m m' : PileM}
theorem step (h : P0 w0 w g d B F m) (T : PStep w g d B F F' m' w') : P0 w0 w' g d B F' m' :=
  ⟨T.at_, T.grows.low h.low h.q.size, Kept.out h.q T.kept (fun i _ hf => h.low i hf) h.q.size⟩
theorem turn (h : P0 w0 w g d B F m) (T : PTurned w g d B F m' w') : ∃ F', P0 w0 w' g d B F' m' ∧ Kept F w w' ∧ Grows w.heap.size F F' := by
  obtain ⟨F', T⟩ := T
  exact ⟨F', h.step T, T.kept, T.grows⟩
theorem below (h : P0 w0 w g d B F m) (hb : Below w.heap.size w w') : P0 w0 w' g d B F m := ⟨h.at_.below hb, h.low, h.q.trans (hb.mono h.q.size)⟩
theorem alloc (h : P0 w0 w g d B F m) (o : Obj) : P0 w0 (w.alloc o) g d B F m := h.below ((Below.refl _ _).alloc (Nat.le_refl _) o)
theorem drew (h : P0 w0 w g d B F m) : P0 w0 w.drew g d B F m := ⟨h.at_.drew, h.low, h.q.drew⟩
theorem later {w1 : World} (h : P0 w1 w g d B F m) (hb : Below w0.heap.size w0 w1) : P0 w0 w g d B F m := ⟨h.at_, fun k hk => Nat.le_trans hb.size (h.low k hk), hb.trans (h.q.mono hb.size)⟩
theorem over {G : Nat → Prop} (h : P0 w0 w g d B F m) (k : Kept G w w') (h1 : ∀ i, F i → ¬ G i) (h2 : ∀ i, i < w0.heap.size → ¬ G i) : P0 w0 w' g d B F m :=
  ⟨h.at_.kept k h1, h.low, Kept.out h.q k (fun i _ hg => by
    by_cases hi : i < w0.heap.size
    · exact absurd hg (h2 i hi)
    · omega) h.q.size⟩
end P0

/-- blocks (number, type, cells) beside an object whose blocks are F -/
def Side (w : World) (F : Nat → Prop) (lo : Nat) (L : List (Nat × TypeId × List Value)) : Prop := ∀ x ∈ L, Blk w x.1 x.2.1 x.2.2 ∧ ¬ F x.1 ∧ lo ≤ x.1
namespace Side
variable {w w' : World} {F F' : Nat → Prop} {lo : Nat} {L : List (Nat × TypeId × List Value)} {g : Nat} {t : TypeId} {cs cs' : List Value}
theorem nil (w : World) (F : Nat → Prop) (lo : Nat) : Side w F lo [] := fun x hx => by cases hx
theorem below (h : Side w F lo L) (hb : Below w.heap.size w w') : Side w' F lo L := fun x hx => ⟨blk_out (h x hx).1 hb, (h x hx).2⟩
theorem alloc (h : Side w F lo L) (o : Obj) : Side (w.alloc o) F lo L := h.below ((Below.refl _ _).alloc (Nat.le_refl _) o)
theorem drew (h : Side w F lo L) : Side w.drew F lo L := h
theorem drewN (h : Side w F lo L) (n : Nat) : Side (w.drewN n) F lo L := h
theorem turn (h : Side w F lo L) (k : Kept F w w') (g : Grows w.heap.size F F') : Side w' F' lo L := fun x hx => ⟨(h x hx).1.kept k (h x hx).2.1, g.not (h x hx).2.1 (h x hx).1.lt, (h x hx).2.2⟩
theorem new (h : Side w F lo L) (hF : ∀ k, F k → k < w.heap.size) (hlo : lo ≤ w.heap.size) (t : TypeId) (cs : List Value) : Side (w.alloc (.cells cs.toArray t)) F lo ((w.heap.size, t, cs) :: L) := fun x hx => by
  rcases List.mem_cons.1 hx with rfl | hx
  · exact ⟨Blk.new w t cs, fun hf => by have := hF _ hf; dsimp only at this; omega, hlo⟩
  · exact h.alloc _ x hx
theorem set (h : Side w F lo ((g, t, cs) :: L)) (hn : ∀ x ∈ L, x.1 ≠ g) (k : Kept (· = g) w w') (hb : Blk w' g t cs') : Side w' F lo ((g, t, cs') :: L) := fun x hx => by
  rcases List.mem_cons.1 hx with rfl | hx
  · exact ⟨hb, (h _ (.head _)).2⟩
  · exact ⟨(h x (.tail _ hx)).1.kept k (hn x hx), (h x (.tail _ hx)).2⟩
theorem sub {L' : List (Nat × TypeId × List Value)} (h : Side w F lo L) (hs : ∀ x ∈ L', x ∈ L) : Side w F lo L' := fun x hx => h x (hs x hx)
theorem one (h : Side w F lo ((g, t, cs) :: L)) : Blk w g t cs := (h _ (.head _)).1
theorem out (h : Side w F lo ((g, t, cs) :: L)) : ¬ F g := (h _ (.head _)).2.1
theorem low (h : Side w F lo ((g, t, cs) :: L)) : lo ≤ g := (h _ (.head _)).2.2
theorem rest (h : Side w F lo ((g, t, cs) :: L)) : Side w F lo L := h.sub fun _ hx => .tail _ hx
end Side

/-- what a map has taken, asked of its set -/
theorem setS_right (f : Nat → Nat) (s : Nat) : rightFrom 0 (setS f s) = true := runs_right _
theorem setS_has (f : Nat → Nat) (s : Nat) (i : Int) : hasL (setS f s) i = canTurn f i s := by
  rw [setS_eq]
  have h := (runs_inv (fun j => decide (j < 1024) && (f j == s)) 4096 (Nat.le_refl _)).2.1 i
  unfold canTurn
  by_cases hi : 0 ≤ i ∧ i < 1024
  · rw [decide_eq_true hi, Bool.true_and]
    cases e : f i.toNat == s
    · cases e2 : hasL (runs (fun j => decide (j < 1024) && (f j == s)) 4096) i
      · rfl
      · have := (h.1 e2).2.2; simp only [Bool.and_eq_true] at this; rw [e] at this; exact absurd this.2 (by decide)
    · refine h.2 ⟨hi.1, by have := hi.2; omega, ?_⟩
      simp only [Bool.and_eq_true, decide_eq_true_iff]
      exact ⟨by have := hi.2; omega, e⟩
  · rw [decide_eq_false hi, Bool.false_and]
    cases e2 : hasL (runs (fun j => decide (j < 1024) && (f j == s)) 4096) i
    · rfl
    · have h1 := (h.1 e2)
      have h2 := h1.2.2
      simp only [Bool.and_eq_true, decide_eq_true_iff] at h2
      exact absurd ⟨h1.1, by have := h2.1; omega⟩ hi
theorem rangeB {w : World} {g : Nat} {t : TypeId} {cs : List Value} (h : Blk w g t cs) : w.rangeAt g 0 cs := h.range fun j v hv => by simpa using hv
theorem wholeS {s t : Sec} : secL s = (secL t).take 0 ++ secL s ++ (secL t).drop (0 + (secL s).length) := whole_new (by rw [secL_length, secL_length])
end Go.Proofs.Ytgdefibkemkejaa

/- The small calls on a pile: fits, hole, New, Dev, Map, Stamp, Base, Next, Commit; made. -/
namespace Go.Proofs.Ytgdefibkemkejaa
open Go.ChangeShapes Go.WideShapes Go.ChangeAt Go.RowKit
set_option linter.unusedVariables false
set_option maxRecDepth 20000

theorem fits_any (ao : Option Addr) (n cap : Nat) (w : World) : Calls Try.prog 50 #[.slice ao n cap] w fun e w' => e = .returned (.bool (decide (n ≤ 128))) ∧ w = w' := by
  by_cases h : n ≤ 128
  · rw [decide_eq_true h]
    go_enter Try.func50, Try.ntmps50
    go_wp2
    go_ret
    exact ⟨by simp; omega, rfl⟩
  · rw [decide_eq_false h]
    go_enter Try.func50, Try.ntmps50
    go_wp2
    go_ret
    exact ⟨by simp; omega, rfl⟩

set_option maxHeartbeats 1000000 in
theorem pHole_any (a : Int) (b s : Nat) (w : World) :
    Calls Try.prog 44 #[p3V ⟨a, b, s⟩] w fun e w' => e = .returned (.bool (P3.holeB ⟨a, b, s⟩)) ∧ Below w.heap.size w w' := by
  unfold p3V
  go_enter Try.func44, Try.ntmps44
  go_wp2
  all_goals go_ret
  all_goals exact ⟨ret_bool (by simp [P3.holeB, *]), (Below.refl _ _).alloc (Nat.le_refl _) _⟩

section
variable {w : World} {g d B : Nat} {F : Nat → Prop} {m : PileM}
theorem oMap (h : IsPile w g d B F m) : Calls Try.prog 19 #[.pointer (some ⟨g, 0, none⟩)] w fun e w' => e = .returned (.pointer (some ⟨B, 0, none⟩)) ∧ w = w' := by
  obtain ⟨c0, c1, c2, c3⟩ := h.cells
  have hlt := h.lt _ h.fg
  have h := Lib.hid h
  go_enter Try.func19, Try.ntmps19
  go_wp2
  go_ret
  exact ⟨rfl, rfl⟩
theorem oStamp (h : IsPile w g d B F m) : Calls Try.prog 24 #[.pointer (some ⟨g, 0, none⟩)] w fun e w' => e = .returned (.int .u64 (m.stamp : Int)) ∧ w = w' := by
  obtain ⟨c0, c1, c2, c3⟩ := h.cells
  have hlt := h.lt _ h.fg
  have h := Lib.hid h
  go_enter Try.func24, Try.ntmps24
  go_wp2
  go_ret
  exact ⟨rfl, rfl⟩
theorem pile_set2 (d B s b s' : Nat) : (pileL d B s b).set 2 (.int .u64 (s' : Int)) = pileL d B s' b := rfl
theorem pile_set3 (d B s b b' : Nat) : (pileL d B s b).set 3 (.int .u64 (b' : Int)) = pileL d B s b' := rfl

set_option maxHeartbeats 1000000 in
theorem oNext (h : IsPile w g d B F m) (hs : m.stamp < 18446744073709551615) : Calls Try.prog 16 #[.pointer (some ⟨g, 0, none⟩)] w fun e w' => e = .returned (.tuple #[]) ∧ PTurned w g d B F m.next w' := by
  obtain ⟨c0, c1, c2, c3⟩ := h.cells
  have hlt := h.lt _ h.fg
  have hfz := h.frozen 2
  have hwr : IntKind.u64.wrap ((m.stamp : Int) + 1) = ((m.stamp + 1 : Nat) : Int) := by
    rw [show ((m.stamp + 1 : Nat) : Int) = (m.stamp : Int) + 1 from by omega]
    rw [IntKind.wrap_u64]; omega
  have h := Lib.hid h
  go_enter Try.func16, Try.ntmps16
  go_wp2
  go_end0
  have hb := h.out.blk.set 2 (.int .u64 ((m.stamp + 1 : Nat) : Int))
  rw [pile_set2] at hb
  exact ⟨rfl, h.out.turnOwn hb (Kept.cellAt _ _ _ _)⟩

end

set_option maxHeartbeats 1000000 in
theorem New_pile {w : World} {d B : Nat} {Fd : Nat → Prop} {dm : DevM} {f : Nat → Nat} (s b : Nat) (hd : IsDev w d Fd dm) (hm : MapAt w B f) (hn : ¬ Fd B) :
    Calls Try.prog 29 #[.pointer (some ⟨d, 0, none⟩), .pointer (some ⟨B, 0, none⟩), .int .u64 (s : Int), .int .u64 (b : Int)] w fun e w' =>
      ∃ g, e = .returned (.pointer (some ⟨g, 0, none⟩)) ∧ w.heap.size ≤ g ∧ IsPile w' g d B (fun k => Fd k ∨ k = g ∨ k = B) ⟨dm, f, s, b⟩ ∧ Below w.heap.size w w' := by
  have hd := Lib.hid hd
  have hm := Lib.hid hm
  go_enter Try.func29, Try.ntmps29
  go_wp2
  go_ret
  have hlt : ∀ k, (Fd k ∨ k = w.heap.size ∨ k = B) → k < w.heap.size + 1 := by
    rintro k (hk | rfl | rfl)
    · have := hd.out.lt _ hk; omega
    · omega
    · have := hm.out.lt; omega
  refine ⟨w.heap.size, rfl, Nat.le_refl _, ⟨Blk.newA w _ _, ?_, hm.out.alloc _, .inr (.inl rfl), .inr (.inr rfl), fun k hk => by simpa using hlt k hk⟩, (Below.refl _ _).alloc (Nat.le_refl _) _⟩
  exact (hd.out.alloc _).wide (fun k hk => ⟨.inl hk, fun e => by have := hd.out.lt _ hk; omega, fun e => hn (e ▸ hk)⟩) fun k hk => by simpa using hlt k hk.1

end Go.Proofs.Ytgdefibkemkejaa

/- Drop and Get of a pile. -/
namespace Go.Proofs.Ytgdefibkemkejaa
open Go.ChangeShapes Go.WideShapes Go.ChangeAt Go.RowKit
set_option linter.unusedVariables false
set_option maxRecDepth 20000

section
variable {P : Program} {ops : Array Oper} {o : Oper} {a : Act} {w : World} {Q : Exit → Act → World → Prop} {K : Act → World → Prop} {E : Prop}
/-- the store of a whole element, a load of one: steps of a region that draws its order -/
theorem step_store_blk (hgd : o.guard = none) (ty : TypeId) (x y : Operand) (ho : o.op = .store ty x y)
    (g off : Nat) (hx : a.eval x = .pointer (some ⟨g, off, none⟩)) (vs : List Value) (hy : a.eval y = .agg vs.toArray) (t : TypeId) (cur new : List Value) (hb : Blk w g t cur)
    (hl : off + vs.length ≤ cur.length) (h1 : ∀ v ∈ vs, v.oneCell' = true) (hi : (P.info? ty).map (·.size) = some vs.length) (hnew : new = cur.take off ++ vs ++ cur.drop (off + vs.length))
    (h : ∀ w', Blk w' g t new → Kept (· = g) w w' → w'.heap.size = w.heap.size → K (a.put o.dst undef) w') :
    if Region.wanted o (yielded ops a.tmps) = true then Oper.wp P o a w K Q else E := by
  have hw : Region.wanted o (yielded ops a.tmps) = true := by simp [Region.wanted, hgd]
  rw [if_pos hw]
  exact wp_store_blk ty x y ho g off hx vs hy t cur new hb hl h1 hi hnew h
theorem step_load_row (hgd : o.guard = none) (ty : TypeId) (x : Operand) (ho : o.op = .load ty x)
    (b off : Nat) (hx : a.eval x = .pointer (some ⟨b, off, none⟩)) (cs : List Value) (d : TypeDesc) (hc : w.rangeAt b off cs)
    (hu : P.underlying ty = some d) (hd : d.isRow = true) (hi : (P.info? ty).map (·.size) = some cs.length) (h : K (a.put o.dst (.agg cs.toArray)) w) :
    if Region.wanted o (yielded ops a.tmps) = true then Oper.wp P o a w K Q else E := by
  have hw : Region.wanted o (yielded ops a.tmps) = true := by simp [Region.wanted, hgd]
  rw [if_pos hw]
  exact wp_load_mid ty x ho b off hx cs d hc hu hd hi h
end

/-- several cells of a block overwritten -/
theorem Kept.cellsAt (g : Nat) : ∀ (vs : List Value) (o : Nat) (w : World), Kept (· = g) w (w.setCells g o vs)
  | [], _, w => Kept.refl _ w
  | v :: r, o, w => (Kept.cellAt w g o v).trans (Kept.cellsAt g r (o + 1) (w.setCell ⟨g, o, none⟩ v))
theorem Blk.cellsAt {g : Nat} {t : TypeId} : ∀ (vs : List Value) (o : Nat) (w : World) (cur : List Value), Blk w g t cur → o + vs.length ≤ cur.length → Blk (w.setCells g o vs) g t (cur.take o ++ vs ++ cur.drop (o + vs.length))
  | [], o, w, cur, h, _ => by simpa [World.setCells] using h
  | v :: r, o, w, cur, h, hl => by
    have h1 := Blk.cellsAt r (o + 1) (w.setCell ⟨g, o, none⟩ v) (cur.set o v) (h.set o v) (by simp at hl ⊢; omega)
    have e : (cur.set o v).take (o + 1) ++ r ++ (cur.set o v).drop (o + 1 + r.length) = cur.take o ++ (v :: r) ++ cur.drop (o + (v :: r).length) := by
      have hlt : o < cur.length := by simp at hl; omega
      rw [List.drop_set_of_lt (by omega), List.take_set, List.take_succ_eq_append_getElem hlt, List.set_append_right _ _ (by simp; omega)]
      simp only [List.length_take, Nat.min_eq_left (Nat.le_of_lt hlt), Nat.sub_self, List.set_cons_zero, List.append_assoc, List.cons_append, List.nil_append, List.length_cons]
      congr 4
      omega
    rw [e] at h1
    exact h1
theorem secCells {w : World} {g : Nat} {s t : Sec} (h : Blk w g 23 (secL s)) : Blk (w.setCells g 0 (secL t)) g 23 (secL t) := by
  have := Blk.cellsAt (secL t) 0 w _ h (by simp only [secL_length]; decide)
  rwa [← wholeS] at this

/-- a sector's slice shows its bytes -/
theorem secBytes {w : World} {g : Nat} {s : Sec} (h : Blk w g 23 (secL s)) : Bytes w (some ⟨g, 0, none⟩) s.1 := Reads.of_blk h

set_option maxHeartbeats 4000000 in
theorem oGet_hole {w : World} {g d B : Nat} {F : Nat → Prop} {m : PileM} (h : IsPile w g d B F m) (q : P3) (hq : q.holeB = true) :
    Calls Try.prog 27 #[.pointer (some ⟨g, 0, none⟩), p3V q] w fun e w' => e = .returned (.tuple #[.agg (secL sec0).toArray, .int .i64 0]) ∧ PTurned w g d B F m w' := by
  obtain ⟨a, b, s⟩ := q
  have hh := fun W => pHole_any a b s W
  rw [hq] at hh
  have h := Lib.hid h
  have hz := zeroSec
  unfold p3V at *
  have hh := Lib.hid hh
  clear hq
  go_enter Try.func27, Try.ntmps27
  go_wp2_with fail
  refine (hh.out _).mono ?_
  rintro e w1 ⟨rfl, hb1⟩
  have l3 := Lib.hid (((((Side.nil w F w.heap.size).new h.out.lt (Nat.le_refl _) 32 (p3L ⟨a, b, s⟩)).new (h.out.alloc _).lt (by simp) 23 (secL sec0))).below hb1)
  simp only [World.size_alloc] at l3
  have s3 := Lib.hid ((((PStep.start h.out).alloc _).alloc _).below hb1)
  clear hb1
  go_wp2_with (first
    | ((with_reducible refine guardList ?_); refine wantList_build (by rfl) 23 [] rfl (secL sec0) _ (by rfl) built_sec0 ?_)
    | ((with_reducible refine guardList ?_)
       refine wantList_store (by rfl) 23 _ _ rfl (w.heap.size + 1) 0 (by rfl) (secL sec0) (by rfl) _ (secL sec0) (secL sec0) l3.out.one (by simp only [secL_length]; decide) (secL_one _) (infoSecL _) wholeS ?_
       intro w5 hR5 k5 z5
       have hR5 := Lib.hid hR5
       have k5 := Lib.hid k5
       clear z5))
  refine bodyPost_ret (results_row_tmp rfl (rowSec hR5.out)) rfl ⟨by simp [go_sem], ?_⟩
  exact (s3.out.over k5.out l3.out.low l3.out.out).done

set_option maxHeartbeats 4000000 in
theorem oGet_not {w : World} {g d B : Nat} {F : Nat → Prop} {m : PileM} (h : IsPile w g d B F m) (q : P3) (hf : q.Fit) (hq : q.holeB = false) :
    Calls Try.prog 27 #[.pointer (some ⟨g, 0, none⟩), p3V q] w fun e w' => e = .returned (.tuple #[.agg (secL (m.get q).2.1).toArray, .int .i64 (m.get q).2.2]) ∧ PTurned w g d B F (m.get q).1 w' := by
  obtain ⟨a, b, s⟩ := q
  have hI : Hid (I64 a) := Lib.hid hf.1
  have hh := fun W => pHole_any a b s W
  have hG : Hid (m.get ⟨a, b, s⟩ = ({ m with dev := m.dev.tick },
    if (m.dev.read a).2 = 41 then (sec0, 91)
    else if (m.dev.read a).2 = 0 then (if sumS (m.dev.read a).1 = s then ((m.dev.read a).1, 0) else (sec0, 91))
    else (sec0, (m.dev.read a).2))) := Lib.hid (by unfold PileM.get; rw [hq]; rfl)
  rw [hq] at hh
  generalize m.get ⟨a, b, s⟩ = MG at *
  obtain ⟨S, er, hse⟩ : ∃ S er, Hid (m.dev.read a = (S, er)) := ⟨_, _, Lib.hid rfl⟩
  have hG := Lib.hid (show _ from by have := hG.out; rw [hse.out] at this; exact this)
  dsimp only at hG
  have h := Lib.hid h
  have hz := zeroSec
  unfold p3V at *
  have hh := Lib.hid hh
  clear hq hf
  go_enter Try.func27, Try.ntmps27
  go_wp2_with fail
  refine (hh.out _).mono ?_
  rintro e w1 ⟨rfl, hb1⟩
  have l1 := Lib.hid (((((Side.nil w F w.heap.size).new h.out.lt (Nat.le_refl _) 32 (p3L ⟨a, b, s⟩)).new (h.out.alloc _).lt (by simp) 23 (secL sec0))).below hb1)
  simp only [World.size_alloc] at l1
  have s1 := Lib.hid ((((PStep.start h.out).alloc _).alloc _).below hb1)
  clear hb1
  obtain ⟨p0, p1, p2⟩ := PtrAt.cells (p := ⟨a, b, s⟩) l1.out.rest.one
  obtain ⟨c0, c1, c2, c3⟩ := s1.out.at_.cells
  have hlt := s1.out.at_.lt _ s1.out.at_.fg
  dsimp only at p0 p1 p2
  go_wp2
  clear p1 p2 c1 c2 c3
  go_region_held3 (fun w' => w'.cell? ⟨g, 0, none⟩ = some (.pointer (some ⟨d, 0, none⟩)) ∧ w'.cell? ⟨w.heap.size, 0, none⟩ = some (.int .i64 a)) (first | exact hkk | exact hkn _ | exact hk3 | go_keep)
    (first
    | (go_at_call 45
       refine (o_Read (s1.out.drewN _).at_.dev a hI.out).mono ?_
       rw [hse.out]
       rintro e w2 ⟨rfl, T⟩
       obtain ⟨F2, T2⟩ := (s1.out.drewN _).at_.turnDev T
       have s2 := Lib.hid ((s1.out.drewN _).trans T2)
       have l2 := Lib.hid ((l1.out.drewN _).turn T2.kept T2.grows)
       have hz2 : Hid (w.heap.size + 1 < w2.heap.size) := Lib.hid l2.out.one.lt
       have hkk : w2.cell? ⟨g, 0, none⟩ = some (.pointer (some ⟨d, 0, none⟩)) ∧ w2.cell? ⟨w.heap.size, 0, none⟩ = some (.int .i64 a) := ⟨s2.out.at_.cells.1, (PtrAt.cells (p := ⟨a, b, s⟩) l2.out.rest.one).1⟩
       have hkn : ∀ o : Obj, (w2.alloc o).cell? ⟨g, 0, none⟩ = some (.pointer (some ⟨d, 0, none⟩)) ∧ (w2.alloc o).cell? ⟨w.heap.size, 0, none⟩ = some (.int .i64 a) := fun o => ⟨cell_alloc hkk.1 o, cell_alloc hkk.2 o⟩
       have hB2 := Blk.new w2 23 (secL sec0)
       have k3 := Kept.cellsAt w2.heap.size (secL S) 0 (w2.alloc (.cells (secL sec0).toArray 23))
       have s2b := Lib.hid (s2.out.alloc (.cells (secL sec0).toArray 23))
       have l2b := Lib.hid (l2.out.new s2.out.at_.lt (by have := hz2.out; omega) 23 (secL sec0))
       have hB3 := secCells (t := S) hB2
       have l3 := Lib.hid (l2b.out.set (fun x hx => by
         have := hz2.out
         rcases hx with _ | ⟨_, _ | ⟨_, hx⟩⟩
         · show w.heap.size + 1 ≠ _; omega
         · show w.heap.size ≠ _; omega
         · cases hx) k3 hB3)
       have s3 := Lib.hid (s2b.out.over k3 l3.out.low l3.out.out)
       have hk3 : ((w2.alloc (.cells (secL sec0).toArray 23)).setCells w2.heap.size 0 (secL S)).cell? ⟨g, 0, none⟩ = some (.pointer (some ⟨d, 0, none⟩)) ∧ ((w2.alloc (.cells (secL sec0).toArray 23)).setCells w2.heap.size 0 (secL S)).cell? ⟨w.heap.size, 0, none⟩ = some (.int .i64 a) := ⟨s3.out.at_.cells.1, (PtrAt.cells (p := ⟨a, b, s⟩) l3.out.rest.rest.one).1⟩
       have hS1 := secL_one S
       have hS2 := hB2.there (o := 0) (n := (secL S).length) (by simp only [secL_length]; decide)
       have hS3 := infoSecL S
       clear T T2 hB3 k3 hB2 s2b l2b)
    | (go_at_call 45
       refine (o_Read (s1.out.alloc (.cells (secL sec0).toArray 23)).drew.at_.dev a hI.out).mono ?_
       rw [hse.out]
       rintro e w2 ⟨rfl, T⟩
       obtain ⟨F2, T2⟩ := (s1.out.alloc (.cells (secL sec0).toArray 23)).drew.at_.turnDev T
       have s2 := Lib.hid ((s1.out.alloc (.cells (secL sec0).toArray 23)).drew.trans T2)
       have l2 := Lib.hid ((l1.out.new s1.out.at_.lt (by have := l1.out.one.lt; omega) 23 (secL sec0)).drew.turn T2.kept T2.grows)
       have s2b := s2
       have hB2 := l2.out.one
       have hz2 : Hid (w.heap.size + 1 < w1.heap.size) := Lib.hid l1.out.one.lt
       have hkk : w2.cell? ⟨g, 0, none⟩ = some (.pointer (some ⟨d, 0, none⟩)) ∧ w2.cell? ⟨w.heap.size, 0, none⟩ = some (.int .i64 a) := ⟨s2.out.at_.cells.1, (PtrAt.cells (p := ⟨a, b, s⟩) l2.out.rest.rest.one).1⟩
       have k3 := Kept.cellsAt w1.heap.size (secL S) 0 w2
       have l2b := l2
       have hB3 := secCells (t := S) hB2
       have l3 := Lib.hid (l2b.out.set (fun x hx => by
         have := hz2.out
         rcases hx with _ | ⟨_, _ | ⟨_, hx⟩⟩
         · show w.heap.size + 1 ≠ _; omega
         · show w.heap.size ≠ _; omega
         · cases hx) k3 hB3)
       have s3 := Lib.hid (s2b.out.over k3 l3.out.low l3.out.out)
       have hk3 : (w2.setCells w1.heap.size 0 (secL S)).cell? ⟨g, 0, none⟩ = some (.pointer (some ⟨d, 0, none⟩)) ∧ (w2.setCells w1.heap.size 0 (secL S)).cell? ⟨w.heap.size, 0, none⟩ = some (.int .i64 a) := ⟨s3.out.at_.cells.1, (PtrAt.cells (p := ⟨a, b, s⟩) l3.out.rest.rest.one).1⟩
       have hS1 := secL_one S
       have hS2 := hB2.there (o := 0) (n := (secL S).length) (by simp only [secL_length]; decide)
       have hS3 := infoSecL S
       clear T T2 hB3 k3 hB2 s2b l2b))
  all_goals
    clear hS1 hS2 hS3 p0 c0 hk3 hkk
    first
    | (obtain ⟨w3, hw3⟩ : ∃ w3 : World, w3 = ((w2.alloc (.cells (secL sec0).toArray 23)).setCells w2.heap.size 0 (secL S)) := ⟨_, rfl⟩
       rw [← hw3] at l3 s3 ⊢
       obtain ⟨x2, hx2⟩ : ∃ x2 : Nat, x2 = w2.heap.size := ⟨_, rfl⟩
       rw [← hx2] at l3 hz2 ⊢
       clear hw3 hx2 s2 l2 hkn)
    | (obtain ⟨w3, hw3⟩ : ∃ w3 : World, w3 = (w2.setCells w1.heap.size 0 (secL S)) := ⟨_, rfl⟩
       rw [← hw3] at l3 s3 ⊢
       obtain ⟨x2, hx2⟩ : ∃ x2 : Nat, x2 = w1.heap.size := ⟨_, rfl⟩
       rw [← hx2] at l3 hz2 ⊢
       clear hw3 hx2 s2 l2)
    by_cases h41 : er = 41
    · have hG1 : Hid (MG = ({ m with dev := m.dev.tick }, sec0, 91)) := Lib.hid (by rw [hG.out, if_pos h41])
      clear hG hse
      subst h41
      go_wp2_with (first
      | ((with_reducible refine guardList ?_); refine wantList_build (by rfl) 23 [] rfl (secL sec0) _ (by rfl) built_sec0 ?_)
      | ((with_reducible refine guardList ?_)
         refine wantList_store (by rfl) 23 _ _ rfl (w.heap.size + 1) 0 (by rfl) (secL sec0) (by rfl) _ (secL sec0) (secL sec0) l3.out.rest.one (by simp only [secL_length]; decide) (secL_one _) (infoSecL _) wholeS ?_
         intro w5 hR5 k5 z5
         have hR5 := Lib.hid hR5
         have k5 := Lib.hid k5
         clear z5))
      refine bodyPost_ret (results_row_tmp rfl (rowSec hR5.out)) rfl ?_
      rw [hG1.out]
      exact ⟨by simp [go_sem], (s3.out.over k5.out l3.out.rest.low l3.out.rest.out).done⟩
    · by_cases h0 : er = 0
      · have hG1 : Hid (MG = ({ m with dev := m.dev.tick }, if sumS S = s then (S, 0) else (sec0, 91))) := Lib.hid (by rw [hG.out, if_neg h41, if_pos h0])
        clear hG hse h41
        subst h0
        obtain ⟨p0, p1, p2⟩ := PtrAt.cells (p := ⟨a, b, s⟩) l3.out.rest.rest.one
        dsimp only at p0 p1 p2
        go_wp2
        go_region_held3 (fun w' => w'.cell? ⟨w.heap.size, 2, none⟩ = some (.int .u32 (s : Int))) (first | exact hkk | go_keep)
          (first
          | (go_at_call 46
             refine (Of_n 128 _ S.1 _ _ (by exact secBytes l3.out.one) S.2 (by decide)).mono ?_
             rintro e w4 ⟨rfl, rfl⟩))
        clear p0 p1
        have hsum : Hid (sumS S = crcMore 0 S.1) := Lib.hid rfl
        generalize crcMore 0 S.1 = c at *
        by_cases hc : c = s
        · have hG2 : Hid (MG = ({ m with dev := m.dev.tick }, S, 0)) := Lib.hid (by rw [hG1.out, hsum.out, if_pos hc])
          clear hG1 hsum
          subst hc
          go_wp2_with (first
            | ((with_reducible refine guardList ?_); refine wantList_load (by rfl) 23 _ rfl x2 0 (by rfl) (secL S) _ (rangeB l3.out.one) Try.underlying23 rfl (infoSecL _) ?_)
            | ((with_reducible refine guardList ?_)
               refine wantList_store (by rfl) 23 _ _ rfl (w.heap.size + 1) 0 (by rfl) (secL S) (by rfl) _ (secL sec0) (secL S) l3.out.rest.one (by simp only [secL_length]; decide) (secL_one _) (infoSecL _) wholeS ?_
               intro w5 hR5 k5 z5
               have hR5 := Lib.hid hR5
               have k5 := Lib.hid k5
               clear z5))
          refine bodyPost_ret (results_row_tmp rfl (rowSec hR5.out)) rfl ?_
          rw [hG2.out]
          exact ⟨by simp [go_sem], (s3.out.drew.over k5.out l3.out.rest.low l3.out.rest.out).done⟩
        · have hG2 : Hid (MG = ({ m with dev := m.dev.tick }, sec0, 91)) := Lib.hid (by rw [hG1.out, hsum.out, if_neg hc])
          clear hG1 hsum
          have hcn : ((c : Int) == (s : Int)) = false := by simp; omega
          go_wp2_with (first
            | ((with_reducible refine guardList ?_); refine wantList_build (by rfl) 23 [] rfl (secL sec0) _ (by rfl) built_sec0 ?_)
            | ((with_reducible refine guardList ?_)
               refine wantList_store (by rfl) 23 _ _ rfl (w.heap.size + 1) 0 (by rfl) (secL sec0) (by rfl) _ (secL sec0) (secL sec0) l3.out.rest.one (by simp only [secL_length]; decide) (secL_one _) (infoSecL _) wholeS ?_
               intro w5 hR5 k5 z5
               have hR5 := Lib.hid hR5
               have k5 := Lib.hid k5
               clear z5))
          refine bodyPost_ret (results_row_tmp rfl (rowSec hR5.out)) rfl ?_
          rw [hG2.out]
          exact ⟨by simp [go_sem], (s3.out.drew.over k5.out l3.out.rest.low l3.out.rest.out).done⟩
      · go_wp2_with (first
        | ((with_reducible refine guardList ?_); refine wantList_build (by rfl) 23 [] rfl (secL sec0) _ (by rfl) built_sec0 ?_)
        | ((with_reducible refine guardList ?_)
           refine wantList_store (by rfl) 23 _ _ rfl (w.heap.size + 1) 0 (by rfl) (secL sec0) (by rfl) _ (secL sec0) (secL sec0) l3.out.rest.one (by simp only [secL_length]; decide) (secL_one _) (infoSecL _) wholeS ?_
           intro w5 hR5 k5 z5
           have hR5 := Lib.hid hR5
           have k5 := Lib.hid k5
           clear z5))
        refine bodyPost_ret (results_row_tmp rfl (rowSec hR5.out)) rfl ?_
        rw [hG.out, if_neg h41, if_neg h0]
        exact ⟨by simp [go_sem], (s3.out.over k5.out l3.out.rest.low l3.out.rest.out).done⟩

theorem oGet {w : World} {g d B : Nat} {F : Nat → Prop} {m : PileM} (h : IsPile w g d B F m) (q : P3) (hf : q.Fit) :
    Calls Try.prog 27 #[.pointer (some ⟨g, 0, none⟩), p3V q] w fun e w' => e = .returned (.tuple #[.agg (secL (m.get q).2.1).toArray, .int .i64 (m.get q).2.2]) ∧ PTurned w g d B F (m.get q).1 w' := by
  cases hq : q.holeB with
  | false => exact oGet_not h q hf hq
  | true =>
    have : m.get q = (m, sec0, 0) := by unfold PileM.get; rw [if_pos hq]
    rw [this]
    exact oGet_hole h q hq
end Go.Proofs.Ytgdefibkemkejaa

/- PutAt of a pile. -/
namespace Go.Proofs.Ytgdefibkemkejaa
open Go.ChangeShapes Go.WideShapes Go.ChangeAt Go.RowKit
set_option linter.unusedVariables false
set_option maxRecDepth 20000

/-- copy to a block's begin, of any length that it has room for -/
theorem wpList_copyB {P : Program} {ops : Array Oper} {rest : List Oper} {o : Oper} {a : Act} {w : World} {Q : Exit → Act → World → Prop}
    (hgd : o.guard = none) (d s : Operand) (dT sT : TypeId) (ho : o.op = .call { callee := .builtin .copy, args := #[d, s], argTypes := #[dT, sT] })
    (elem : TypeId) (hu : P.underlying dT = some (.slice elem)) (hsz : (P.info? elem).map (·.size) = some 1)
    (g dLen dCap : Nat) (hd : a.eval d = .slice (some ⟨g, 0, none⟩) dLen dCap) (so : Option Addr) (n sCap : Nat) (hs : a.eval s = .slice so n sCap)
    (t : TypeId) (cur new cs : List Value) (hb : Blk w g t cur) (hn : cs.length = n) (hle : n ≤ dLen) (hsrc : Reads w so cs)
    (hfit : n ≤ cur.length) (h1 : ∀ v ∈ cs, v.oneCell' = true) (hnew : new = cs ++ cur.drop n)
    (h : ∀ w', Blk w' g t new → Kept (· = g) w w' → w'.heap.size = w.heap.size → wpList P ops Q rest (a.put o.dst (goInt n)) w') : wpList P ops Q (o :: rest) a w := by
  by_cases hpos : 0 < n
  · exact wpList_copyR hgd d s dT sT ho elem hu hsz g 0 dLen dCap hd so n sCap hs t cur new cs hb hn hpos hle hsrc (by simpa using hfit) h1 (by rw [hnew]; simp) h
  · obtain rfl : n = 0 := by omega
    obtain rfl : cs = [] := List.eq_nil_of_length_eq_zero hn
    simp only [List.nil_append, List.drop_zero] at hnew
    subst hnew
    have hrun := run_copy_none (P := P) w dT sT o.type elem (some ⟨g, 0, none⟩) so dLen dCap 0 sCap hu hsz (by simp)
    refine wpList_plain hgd fun K hK => ?_
    unfold Oper.wp
    simp [execOp, ho, resolve, invoke, builtin, hd, hs, hrun, Result.andThen]
    exact hK _ _ (h w hb (Kept.refl _ _) rfl)

theorem block_copy {bs : List UInt8} (h : bs.length ≤ 128) : secL (blockS bs) = bytesV bs ++ (secL sec0).drop bs.length := by
  unfold secL blockS blockL sec0
  simp only [List.take_of_length_le h]
  unfold bytesV
  rw [List.map_append, ← List.map_drop, List.drop_replicate]

set_option maxHeartbeats 4000000 in
theorem oPutAt_big {w : World} {g d B : Nat} {F : Nat → Prop} {m : PileM} (h : IsPile w g d B F m) (i : Int) (ao : Option Addr) (n cap : Nat) (hn : 128 < n) :
    Calls Try.prog 52 #[.pointer (some ⟨g, 0, none⟩), .int .i64 i, .slice ao n cap] w fun e w' => e = .returned (.tuple #[p3V p3z, .int .i64 92]) ∧ PTurned w g d B F m w' := by
  have h := Lib.hid h
  have hF : decide (n ≤ 128) = false := decide_eq_false (by omega)
  go_enter Try.func52, Try.ntmps52
  go_wp2_with fail
  refine (fits_any ao n cap _).mono ?_
  rw [hF]
  rintro e w1 ⟨rfl, rfl⟩
  have l1 := Lib.hid ((Side.nil w F w.heap.size).new h.out.lt (Nat.le_refl _) 32 (p3L p3z))
  have s1 := Lib.hid ((PStep.start h.out).alloc (.cells (p3L p3z).toArray 32))
  go_wp2_with (first
    | ((with_reducible refine guardList ?_)
       refine wantList_store (by rfl) 32 _ _ rfl w.heap.size 0 (by rfl) (p3L p3z) (by rfl) _ (p3L p3z) (p3L p3z) l1.out.one (by decide) (p3L_one _) (infoPtr _) (whole_new rfl) ?_
       intro w5 hR5 k5 z5
       have hR5 := Lib.hid hR5
       have k5 := Lib.hid k5
       clear z5))
  refine bodyPost_ret (results_row_tmp rfl (rowPtr hR5.out)) rfl ⟨rfl, ?_⟩
  exact (s1.out.over k5.out l1.out.low l1.out.out).done

set_option maxHeartbeats 4000000 in
theorem oPutAt_not {w : World} {g d B : Nat} {F : Nat → Prop} {m : PileM} (h : IsPile w g d B F m) (i : Int) (hi : I64 i) (ao : Option Addr) (n cap : Nat) (hn : n ≤ 128) (hc : canTurn m.map i 2 = false) :
    Calls Try.prog 52 #[.pointer (some ⟨g, 0, none⟩), .int .i64 i, .slice ao n cap] w fun e w' => e = .returned (.tuple #[p3V p3z, .int .i64 72]) ∧ PTurned w g d B F m w' := by
  have h := Lib.hid h
  have hF : decide (n ≤ 128) = true := decide_eq_true (by omega)
  rw [← setS_has] at hc
  have hc := Lib.hid hc
  go_enter Try.func52, Try.ntmps52
  go_wp2_with fail
  refine (fits_any ao n cap _).mono ?_
  rw [hF]
  rintro e w1 ⟨rfl, rfl⟩
  have l1 := Lib.hid ((Side.nil w F w.heap.size).new h.out.lt (Nat.le_refl _) 32 (p3L p3z))
  have s1 := Lib.hid ((PStep.start h.out).alloc (.cells (p3L p3z).toArray 32))
  obtain ⟨c0, c1, c2, c3⟩ := h.out.cells
  have hlt := h.out.lt _ h.out.fg
  go_wp2_with fail
  refine (Taken_set B m.map _ s1.out.at_.map).mono ?_
  rintro e w2 ⟨so, sc, rfl, hs, _, hb⟩
  have s2 := Lib.hid (s1.out.below hb)
  have l2 := Lib.hid (l1.out.below hb)
  clear hb c0 c1 c2 c3 hlt
  have hs := Lib.hid hs
  go_wp2_with fail
  refine (Has_any so sc (setS m.map 2) i w2 hs.out (setS_fits _ _) (setS_right _ _)).mono ?_
  rw [hc.out]
  rintro e w3 ⟨rfl, hb⟩
  have s3 := Lib.hid (s2.out.below hb)
  have l3 := Lib.hid (l2.out.below hb)
  clear hb
  go_wp2_with (first
    | ((with_reducible refine guardList ?_)
       refine wantList_store (by rfl) 32 _ _ rfl w.heap.size 0 (by rfl) (p3L p3z) (by rfl) _ (p3L p3z) (p3L p3z) l3.out.one (by decide) (p3L_one _) (infoPtr _) (whole_new rfl) ?_
       intro w5 hR5 k5 z5
       have hR5 := Lib.hid hR5
       have k5 := Lib.hid k5
       clear z5))
  refine bodyPost_ret (results_row_tmp rfl (rowPtr hR5.out)) rfl ⟨rfl, ?_⟩
  exact (s3.out.over k5.out l3.out.low l3.out.out).done

set_option maxHeartbeats 4000000 in
theorem oPutAt_yes {w : World} {g d B : Nat} {F : Nat → Prop} {m : PileM} (h : IsPile w g d B F m) (i : Int) (hi : I64 i) (ao : Option Addr) (bs : List UInt8) (cap : Nat) (hb : Bytes w ao bs) (hn : bs.length ≤ 128) (hc : canTurn m.map i 2 = true) (hp : m.dev.pending.length ≤ 1000000000) :
    Calls Try.prog 52 #[.pointer (some ⟨g, 0, none⟩), .int .i64 i, .slice ao bs.length cap] w fun e w' => e = .returned (.tuple #[p3V (m.putAt i bs).2.1, .int .i64 (m.putAt i bs).2.2]) ∧ PTurned w g d B F (m.putAt i bs).1 w' := by
  obtain ⟨D2, er, hw⟩ : ∃ D2 er, Hid (m.dev.write i (blockS bs) = (D2, er)) := ⟨_, _, Lib.hid rfl⟩
  have hG : Hid (m.putAt i bs = if er = 0 then ({ m with dev := D2 }, ⟨i, m.stamp, sumS (blockS bs)⟩, 0) else ({ m with dev := D2 }, p3z, er)) := Lib.hid (by
    unfold PileM.putAt; rw [if_pos hn, if_pos hc, hw.out])
  generalize m.putAt i bs = MG at *
  have hsec := block_copy hn
  generalize blockS bs = S at *
  have hsum : Hid (sumS S = crcMore 0 S.1) := Lib.hid rfl
  have hF : decide (bs.length ≤ 128) = true := decide_eq_true hn
  have hb := Lib.hid hb
  have hbl := Lib.hid (bytesV_length bs)
  have hbo := Lib.hid (bytesV_one bs)
  obtain ⟨n, hnn⟩ : ∃ n, Hid (bs.length = n) := ⟨_, Lib.hid rfl⟩
  rw [hnn.out] at hsec hF hn hbl
  have hsec := Lib.hid hsec
  rw [hnn.out]
  have h := Lib.hid h
  rw [← setS_has] at hc
  have hc := Lib.hid hc
  have hp := Lib.hid hp
  have hi := Lib.hid hi
  have hz := zeroSec
  go_enter Try.func52, Try.ntmps52
  go_wp2_with fail
  refine (fits_any ao n cap _).mono ?_
  rw [hF]
  rintro e w1 ⟨rfl, rfl⟩
  have l1 := Lib.hid ((Side.nil w F w.heap.size).new h.out.lt (Nat.le_refl _) 32 (p3L p3z))
  have s1 := Lib.hid ((PStep.start h.out).alloc (.cells (p3L p3z).toArray 32))
  obtain ⟨c0, c1, c2, c3⟩ := h.out.cells
  have hlt := h.out.lt _ h.out.fg
  go_wp2_with fail
  refine (Taken_set B m.map _ s1.out.at_.map).mono ?_
  rintro e w2 ⟨so, sc, rfl, hs, _, hb2⟩
  have s2 := Lib.hid (s1.out.below hb2)
  have l2 := Lib.hid (l1.out.below hb2)
  have q2 := Lib.hid (below_boxed hb2)
  clear hb2 c0 c1 c2 c3 hlt
  have hs := Lib.hid hs
  go_wp2_with fail
  refine (Has_any so sc (setS m.map 2) i w2 hs.out (setS_fits _ _) (setS_right _ _)).mono ?_
  rw [hc.out]
  rintro e w3 ⟨rfl, hb3⟩
  have s3 := Lib.hid (s2.out.below hb3)
  have l3 := Lib.hid (l2.out.below hb3)
  have q3 := Lib.hid (q2.out.trans (hb3.mono q2.out.size))
  clear hb3
  have l4 := Lib.hid (l3.out.new s3.out.at_.lt q3.out.size 23 (secL sec0))
  have s4 := Lib.hid (s3.out.alloc (.cells (secL sec0).toArray 23))
  have hx1 : Hid (w.heap.size < w3.heap.size) := Lib.hid l3.out.one.lt
  have hb4 : Hid (Bytes (w3.alloc (.cells (secL sec0).toArray 23)) ao bs) := Lib.hid (hb.out.below (q3.out.alloc q3.out.size _))
  go_wp2_with (first
    | (refine wpList_copyB rfl (.tmp 23) (.tmp 24) 39 39 rfl 5 Try.underlying39 infoU8' w3.heap.size 128 128 (by rfl) ao n cap (by rfl) 23 (secL sec0) (secL S) (bytesV bs) l4.out.one hbl.out hn hb4.out (by simp only [secL_length]; exact hn) hbo.out hsec.out ?_
       intro w5 hR5 k5 z5
       have l5 := Lib.hid (l4.out.set (fun x hx => by
         have := hx1.out
         rcases hx with _ | ⟨_, hx⟩
         · show w.heap.size ≠ _; omega
         · cases hx) k5 hR5)
       have s5 := Lib.hid (s4.out.over k5 l4.out.low l4.out.out)
       clear hR5 k5 z5))
  obtain ⟨c0, c1, c2, c3⟩ := s5.out.at_.cells
  have hlt := s5.out.at_.lt _ s5.out.at_.fg
  refine inO_region [(3, fun w' => w'.cell? ⟨g, 0, none⟩ = some (.pointer (some ⟨d, 0, none⟩))), (5, fun w' => w'.rangeAt (w3.heap.size) (0) (secL S))] (by kernel_rfl) (Owed.cons (c0) (Owed.cons (rangeB l5.out.one) (Owed.nil _ _))) ?_
  refine inO_take 0 ⟨_, _, _, _, _, _⟩ (.pointer (some ⟨g, 0, none⟩)) rfl (by kernel_rfl) (by kernel_rfl) (by kernel_rfl) (fun _ _ _ h => h) rfl (fun ww => exec_move (by rfl) (by rfl) ww) ?_
  simp only [Act.put, List.setIfInBounds_toArray, List.set_cons_zero, List.set_cons_succ]
  refine inO_take 1 ⟨_, _, _, _, _, _⟩ (.pointer (some ⟨g, 0, none⟩)) rfl (by kernel_rfl) (by kernel_rfl) (by kernel_rfl) (fun _ _ _ h => h) rfl (fun ww => exec_nilCheck (by rfl) (by rfl) ww) ?_
  simp only [Act.put, List.setIfInBounds_toArray, List.set_cons_zero, List.set_cons_succ]
  refine inO_take 2 ⟨_, _, _, _, _, _⟩ (.pointer (some ⟨g, 0, none⟩)) rfl (by kernel_rfl) (by kernel_rfl) (by kernel_rfl) (fun _ _ _ h => h) rfl (fun ww => by go_simp) ?_
  simp only [Act.put, List.setIfInBounds_toArray, List.set_cons_zero, List.set_cons_succ]
  refine inO_load 3 ⟨_, _, _, _, _, _⟩ (.pointer (some ⟨d, 0, none⟩)) (fun w' => w'.cell? ⟨g, 0, none⟩ = some (.pointer (some ⟨d, 0, none⟩))) rfl (by kernel_rfl) (by kernel_rfl) (by kernel_rfl) (fun _ _ _ h => h) rfl (.head _) (fun ww hw => by go_simp) ?_
  simp only [Act.put, List.setIfInBounds_toArray, List.set_cons_zero, List.set_cons_succ]
  refine inO_take 4 ⟨_, _, _, _, _, _⟩ (.int .i64 i) rfl (by kernel_rfl) (by kernel_rfl) (by kernel_rfl) (fun _ _ _ h => h) rfl (fun ww => exec_move (by rfl) (by rfl) ww) ?_
  simp only [Act.put, List.setIfInBounds_toArray, List.set_cons_zero, List.set_cons_succ]
  refine inO_load 5 ⟨_, _, _, _, _, _⟩ (.agg (secL S).toArray) (fun w' => w'.rangeAt (w3.heap.size) (0) (secL S)) rfl (by kernel_rfl) (by kernel_rfl) (by kernel_rfl) (fun _ _ _ h => h) rfl (.tail _ (.head _)) (fun ww hw => exec_load_mid _ _ (by rfl) _ _ (by rfl) _ _ hw Try.underlying23 rfl (infoSecL _)) ?_
  simp only [Act.put, List.setIfInBounds_toArray, List.set_cons_zero, List.set_cons_succ]
  refine inO_step 6 ⟨_, _, _, _, _, _⟩ rfl (by kernel_rfl) rfl (fun K hK => ?_)
  refine wp_call Try.func64 (by kernel_rfl) rfl _ _ rfl _ rfl _ (o_Write s5.out.drew.at_.dev i hi.out S hp.out) fun e w6 T => ?_
  rw [hw.out] at T
  obtain ⟨rfl, T⟩ := T
  obtain ⟨F6, T6⟩ := s5.out.drew.at_.turnDev T
  have s6 := Lib.hid (s5.out.drew.trans T6)
  have l6 := Lib.hid (l5.out.drew.turn T6.kept T6.grows)
  clear T T6
  refine ⟨_, rfl, ?_⟩
  refine hK _ _ (Keeps.late (by kernel_rfl) (Keeps.late (by kernel_rfl) (Keeps.nil _ _ _))) ?_
  clear hK K
  simp only [Act.put, List.setIfInBounds_toArray, List.set_cons_zero, List.set_cons_succ]
  refine inO_take 7 ⟨_, _, _, _, _, _⟩ (.int .i64 er) rfl (by kernel_rfl) (by kernel_rfl) (by kernel_rfl) (fun _ _ _ h => h) rfl (fun ww => by go_simp) ?_
  simp only [Act.put, List.setIfInBounds_toArray, List.set_cons_zero, List.set_cons_succ]
  refine inO_done (by kernel_rfl) ?_
  clear c0 c1 c2 c3 hlt hF
  by_cases h0 : er = 0
  · have hG1 : Hid (MG = ({ m with dev := D2 }, ⟨i, m.stamp, sumS S⟩, 0)) := Lib.hid (by rw [hG.out, if_pos h0])
    clear hG hw
    subst h0
    obtain ⟨c0, c1, c2, c3⟩ := s6.out.at_.cells
    have hlt := s6.out.at_.lt _ s6.out.at_.fg
    have hP := l6.out.rest.one
    obtain ⟨p0, p1, p2⟩ := PtrAt.cells (p := p3z) hP
    have f0 := hP.frozen 0
    have f1 := hP.frozen 1
    have f2 := hP.frozen 2
    have hlx := hP.lt
    clear hP
    have hgx : g ≠ w.heap.size := fun e => l6.out.rest.out (e ▸ s6.out.at_.fg)
    have hxg : w.heap.size ≠ g := fun e => hgx e.symm
    dsimp only at c2
    go_wp2
    go_region_held3 (fun w' => w'.cell? ⟨g, 2, none⟩ = some (.int .u64 (m.stamp : Int))) (first | exact hkk | go_keep)
      (first
      | (go_at_call 46
         refine (Of_n 128 _ S.1 _ _ (by exact secBytes l6.out.one) S.2 (by decide)).mono ?_
         rintro e w7 ⟨rfl, rfl⟩))
    have hR5 := Lib.hid (((l6.out.rest.one.set 0 (.int .i64 i)).set 1 (.int .u64 (m.stamp : Int))).set 2 (.int .u32 (crcMore 0 S.1 : Int))).drew
    have k5 := Lib.hid (((Kept.cellAt w6 w.heap.size 0 (.int .i64 i)).trans (Kept.cellAt _ w.heap.size 1 (.int .u64 (m.stamp : Int)))).trans (Kept.cellAt _ w.heap.size 2 (.int .u32 (crcMore 0 S.1 : Int)))).drew
    go_wp2
    refine bodyPost_ret (results_row_tmp rfl (rowPtr (p := ⟨i, m.stamp, crcMore 0 S.1⟩) hR5.out)) rfl ?_
    rw [hG1.out, hsum.out]
    exact ⟨rfl, (s6.out.over k5.out l6.out.rest.low l6.out.rest.out).done⟩
  · have hG1 : Hid (MG = ({ m with dev := D2 }, p3z, er)) := Lib.hid (by rw [hG.out, if_neg h0])
    clear hG hw
    go_wp2_with (first
      | ((with_reducible refine guardList ?_)
         refine wantList_store (by rfl) 32 _ _ rfl w.heap.size 0 (by rfl) (p3L p3z) (by rfl) _ (p3L p3z) (p3L p3z) l6.out.rest.one (by decide) (p3L_one _) (infoPtr _) (whole_new rfl) ?_
         intro w7 hR5 k5 z5
         have hR5 := Lib.hid hR5
         have k5 := Lib.hid k5
         clear z5))
    refine bodyPost_ret (results_row_tmp rfl (rowPtr hR5.out)) rfl ?_
    rw [hG1.out]
    exact ⟨rfl, (s6.out.over k5.out l6.out.rest.low l6.out.rest.out).done⟩

theorem oPutAt {w : World} {g d B : Nat} {F : Nat → Prop} {m : PileM} (h : IsPile w g d B F m) (i : Int) (hi : I64 i) (ao : Option Addr) (bs : List UInt8) (cap : Nat) (hb : Bytes w ao bs) (hp : m.dev.pending.length ≤ 1000000000) :
    Calls Try.prog 52 #[.pointer (some ⟨g, 0, none⟩), .int .i64 i, .slice ao bs.length cap] w fun e w' => e = .returned (.tuple #[p3V (m.putAt i bs).2.1, .int .i64 (m.putAt i bs).2.2]) ∧ PTurned w g d B F (m.putAt i bs).1 w' := by
  by_cases hn : bs.length ≤ 128
  · cases hc : canTurn m.map i 2 with
    | true => exact oPutAt_yes h i hi ao bs cap hb hn hc hp
    | false =>
      have : m.putAt i bs = (m, p3z, 72) := by unfold PileM.putAt; rw [if_pos hn, if_neg (by rw [hc]; decide)]
      rw [this]
      exact oPutAt_not h i hi ao _ cap hn hc
  · have : m.putAt i bs = (m, p3z, 92) := by unfold PileM.putAt; rw [if_neg hn]
    rw [this]
    exact oPutAt_big h i ao _ cap (by omega)
end Go.Proofs.Ytgdefibkemkejaa

/- Put of a pile; Count of its map; Rot of its device. -/
namespace Go.Proofs.Ytgdefibkemkejaa
open Go.ChangeShapes Go.WideShapes Go.ChangeAt Go.RowKit
set_option linter.unusedVariables false
set_option maxRecDepth 20000

theorem infoPtr3 : (Try.prog.info? 32).map (·.size) = some 3 := by kernel_rfl

set_option maxHeartbeats 4000000 in
theorem oPut_big {w : World} {g d B : Nat} {F : Nat → Prop} {m : PileM} (h : IsPile w g d B F m) (ao : Option Addr) (n cap : Nat) (hn : 128 < n) :
    Calls Try.prog 35 #[.pointer (some ⟨g, 0, none⟩), .slice ao n cap] w fun e w' => e = .returned (.tuple #[p3V p3z, .int .i64 92]) ∧ PTurned w g d B F m w' := by
  have h := Lib.hid h
  have hF : decide (n ≤ 128) = false := decide_eq_false (by omega)
  go_enter Try.func35, Try.ntmps35
  go_wp2_with fail
  refine (fits_any ao n cap _).mono ?_
  rw [hF]
  rintro e w1 ⟨rfl, rfl⟩
  have l1 := Lib.hid ((Side.nil w F w.heap.size).new h.out.lt (Nat.le_refl _) 32 (p3L p3z))
  have s1 := Lib.hid ((PStep.start h.out).alloc (.cells (p3L p3z).toArray 32))
  go_wp2_with (first
    | ((with_reducible refine guardList ?_)
       refine wantList_store (by rfl) 32 _ _ rfl w.heap.size 0 (by rfl) (p3L p3z) (by rfl) _ (p3L p3z) (p3L p3z) l1.out.one (by decide) (p3L_one _) (infoPtr _) (whole_new rfl) ?_
       intro w5 hR5 k5 z5
       have hR5 := Lib.hid hR5
       have k5 := Lib.hid k5
       clear z5))
  refine bodyPost_ret (results_row_tmp rfl (rowPtr hR5.out)) rfl ⟨rfl, ?_⟩
  exact (s1.out.over k5.out l1.out.low l1.out.out).done

set_option maxHeartbeats 4000000 in
theorem oPut_none {w : World} {g d B : Nat} {F : Nat → Prop} {m : PileM} (h : IsPile w g d B F m) (ao : Option Addr) (n cap : Nat) (hn : n ≤ 128) (hA : allocO m.map = none) :
    Calls Try.prog 35 #[.pointer (some ⟨g, 0, none⟩), .slice ao n cap] w fun e w' => e = .returned (.tuple #[p3V p3z, .int .i64 71]) ∧ PTurned w g d B F m w' := by
  have h := Lib.hid h
  have hF : decide (n ≤ 128) = true := decide_eq_true (by omega)
  have e1 : allocI m.map = 0 := by unfold allocI; rw [hA]
  have e2 : allocE m.map = 71 := by unfold allocE; rw [hA]
  have e3 : updO m.map (allocO m.map) = m.map := by rw [hA]; rfl
  have e1 := Lib.hid e1
  have e2 := Lib.hid e2
  have e3 := Lib.hid e3
  go_enter Try.func35, Try.ntmps35
  go_wp2_with fail
  refine (fits_any ao n cap _).mono ?_
  rw [hF]
  rintro e w1 ⟨rfl, rfl⟩
  have l1 := Lib.hid ((Side.nil w F w.heap.size).new h.out.lt (Nat.le_refl _) 32 (p3L p3z))
  have s1 := Lib.hid ((PStep.start h.out).alloc (.cells (p3L p3z).toArray 32))
  obtain ⟨c0, c1, c2, c3⟩ := h.out.cells
  have hlt := h.out.lt _ h.out.fg
  go_wp2_with fail
  refine (Alloc_any B m.map _ s1.out.at_.map).mono ?_
  rw [e1.out, e2.out, e3.out]
  rintro e w2 ⟨rfl, hm2, hk2⟩
  obtain ⟨F2, T2⟩ := s1.out.at_.turnMap hm2 hk2
  have s2 := Lib.hid (s1.out.trans T2)
  have l2 := Lib.hid (l1.out.turn T2.kept T2.grows)
  clear T2 hm2 hk2 c0 c1 c2 c3 hlt
  go_wp2_with (first
    | ((with_reducible refine guardList ?_)
       refine wantList_store (by rfl) 32 _ _ rfl w.heap.size 0 (by rfl) (p3L p3z) (by rfl) _ (p3L p3z) (p3L p3z) l2.out.one (by decide) (p3L_one _) (infoPtr _) (whole_new rfl) ?_
       intro w5 hR5 k5 z5
       have hR5 := Lib.hid hR5
       have k5 := Lib.hid k5
       clear z5))
  refine bodyPost_ret (results_row_tmp rfl (rowPtr hR5.out)) rfl ⟨rfl, ?_⟩
  exact (s2.out.over k5.out l2.out.low l2.out.out).done

set_option maxHeartbeats 4000000 in
theorem oPut_someK {w : World} {g d B : Nat} {F : Nat → Prop} {m : PileM} (h : IsPile w g d B F m) (ao : Option Addr) (bs : List UInt8) (cap : Nat) (hb : Bytes w ao bs) (hbn : ∀ W, Kept F w W → Bytes W ao bs) (hp : m.dev.pending.length ≤ 1000000000)
    (hn : bs.length ≤ 128) (i : Nat) (hA : allocO m.map = some i) :
    Calls Try.prog 35 #[.pointer (some ⟨g, 0, none⟩), .slice ao bs.length cap] w fun e w' => e = .returned (.tuple #[p3V (m.put bs).2.1, .int .i64 (m.put bs).2.2]) ∧ PTurned w g d B F (m.put bs).1 w' := by
  have hi := (allocO_some hA).1
  have e1 : allocI m.map = (i : Int) := by unfold allocI; rw [hA]
  have e2 : allocE m.map = 0 := by unfold allocE; rw [hA]
  have e3 : updO m.map (allocO m.map) = upd m.map i 2 := by rw [hA]; rfl
  obtain ⟨m1, hm1⟩ : ∃ m1 : PileM, m1 = { m with map := upd m.map i 2 } := ⟨_, rfl⟩
  have hG : m.put bs = if (m1.putAt i bs).2.2 = 0 then m1.putAt i bs else ({ (m1.putAt i bs).1 with map := turnF (m1.putAt i bs).1.map i 2 1 }, (m1.putAt i bs).2) := by
    unfold PileM.put; rw [if_pos hn, hA, hm1]
  have hq := fun (W : World) (G : Nat → Prop) (hh : IsPile W g d B G m1) (hy : Bytes W ao bs) => oPutAt hh (i : Int) (by unfold I64; omega) ao bs cap hy (by rw [hm1]; exact hp)
  generalize m1.putAt i bs = R at *
  obtain ⟨m2, ⟨qa, qb, qs⟩, er⟩ := R
  dsimp only at hG hq
  generalize m.put bs = MG at *
  have hF : decide (bs.length ≤ 128) = true := decide_eq_true (by omega)
  unfold p3V at hq
  have hq := Lib.hid hq
  have hG := Lib.hid hG
  have hm1 := Lib.hid hm1
  have h := Lib.hid h
  have hb := Lib.hid hb
  have hbn := Lib.hid hbn
  have hI : Hid (I64 (i : Int)) := Lib.hid (by unfold I64; omega)
  have e1 := Lib.hid e1
  have e2 := Lib.hid e2
  have e3 := Lib.hid e3
  clear hA hn
  obtain ⟨n, hnn⟩ : ∃ n, Hid (bs.length = n) := ⟨_, Lib.hid rfl⟩
  rw [hnn.out] at hq hF ⊢
  go_enter Try.func35, Try.ntmps35
  go_wp2_with fail
  refine (fits_any ao n cap _).mono ?_
  rw [hF]
  rintro e w1 ⟨rfl, rfl⟩
  have l1 := Lib.hid ((Side.nil w F w.heap.size).new h.out.lt (Nat.le_refl _) 32 (p3L p3z))
  have s1 := Lib.hid ((PStep.start h.out).alloc (.cells (p3L p3z).toArray 32))
  obtain ⟨c0, c1, c2, c3⟩ := h.out.cells
  have hlt := h.out.lt _ h.out.fg
  go_wp2_with fail
  refine (Alloc_any B m.map _ s1.out.at_.map).mono ?_
  rw [e1.out, e2.out, e3.out]
  rintro e w2 ⟨rfl, hm2, hk2⟩
  obtain ⟨F2, T2⟩ := s1.out.at_.turnMap hm2 hk2
  rw [← hm1.out] at T2
  have s2 := Lib.hid (s1.out.trans T2)
  have l2 := Lib.hid (l1.out.turn T2.kept T2.grows)
  have hb2 : Hid (Bytes w2 ao bs) := Lib.hid (hbn.out _ s2.out.kept)
  clear T2 hm2 hk2 c0 c1 c2 c3 hlt hF
  go_wp2_with fail
  refine (hq.out _ _ s2.out.at_ hb2.out).mono ?_
  rintro e w3 ⟨rfl, F3, T3⟩
  have s3 := Lib.hid (s2.out.trans T3)
  have l3 := Lib.hid (l2.out.turn T3.kept T3.grows)
  clear T3
  have hx1 : Hid (w.heap.size < w3.heap.size) := Lib.hid l3.out.one.lt
  have l4 := Lib.hid (l3.out.new s3.out.at_.lt (by have := hx1.out; omega) 32 (p3L ⟨qa, qb, qs⟩))
  have s4 := Lib.hid (s3.out.alloc (.cells (p3L ⟨qa, qb, qs⟩).toArray 32))
  obtain ⟨c0, c1, c2, c3⟩ := s3.out.at_.cells
  have hlt := s3.out.at_.lt _ s3.out.at_.fg
  by_cases h0 : er = 0
  · have hG1 : Hid (MG = (m2, ⟨qa, qb, qs⟩, 0)) := Lib.hid (by rw [hG.out, if_pos h0, h0])
    clear hG
    subst h0
    go_wp2_with (first
      | ((with_reducible refine guardList ?_)
         refine wantList_store (by rfl) 32 _ _ rfl w.heap.size 0 (by rfl) (p3L ⟨qa, qb, qs⟩) (by rfl) _ (p3L p3z) (p3L ⟨qa, qb, qs⟩) l4.out.rest.one (by simp [p3L_length]) (p3L_one _) (infoPtr _) (whole_new rfl) ?_
         intro w5 hR5 k5 z5
         have hR5 := Lib.hid hR5
         have k5 := Lib.hid k5
         clear z5))
    refine bodyPost_ret (results_row_tmp rfl (rowPtr hR5.out)) rfl ?_
    rw [hG1.out]
    exact ⟨rfl, (s4.out.over k5.out l4.out.rest.low l4.out.rest.out).done⟩
  · have hG1 : Hid (MG = ({ m2 with map := turnF m2.map i 2 1 }, ⟨qa, qb, qs⟩, er)) := Lib.hid (by rw [hG.out, if_neg h0])
    clear hG
    go_wp2_with fail
    refine (Free_any B m2.map (i : Int) _ s4.out.at_.map hI.out).mono ?_
    rintro e w6 ⟨rfl, hm6, hk6⟩
    obtain ⟨F6, T6⟩ := s4.out.at_.turnMap hm6 hk6
    have s6 := Lib.hid (s4.out.trans T6)
    have l6 := Lib.hid (l4.out.turn T6.kept T6.grows)
    clear T6 hm6 hk6 c0 c1 c2 c3 hlt
    obtain ⟨p0, p1, p2⟩ := PtrAt.cells (p := ⟨qa, qb, qs⟩) l6.out.one
    have hl6 := l6.out.one.lt
    dsimp only at p0 p1 p2
    go_wp2_with (first
      | ((with_reducible refine guardList ?_)
         refine wantList_store (by rfl) 32 _ _ rfl w.heap.size 0 (by rfl) (p3L ⟨qa, qb, qs⟩) (by rfl) _ (p3L p3z) (p3L ⟨qa, qb, qs⟩) l6.out.rest.one (by simp [p3L_length]) (p3L_one _) (infoPtr _) (whole_new rfl) ?_
         intro w5 hR5 k5 z5
         have hR5 := Lib.hid hR5
         have k5 := Lib.hid k5
         clear z5))
    refine bodyPost_ret (results_row_tmp rfl (rowPtr hR5.out)) rfl ?_
    rw [hG1.out]
    exact ⟨rfl, (s6.out.over k5.out l6.out.rest.low l6.out.rest.out).done⟩

theorem oPutK {w : World} {g d B : Nat} {F : Nat → Prop} {m : PileM} (h : IsPile w g d B F m) (ao : Option Addr) (bs : List UInt8) (cap : Nat) (hb : Bytes w ao bs) (hbn : ∀ W, Kept F w W → Bytes W ao bs) (hp : m.dev.pending.length ≤ 1000000000) :
    Calls Try.prog 35 #[.pointer (some ⟨g, 0, none⟩), .slice ao bs.length cap] w fun e w' => e = .returned (.tuple #[p3V (m.put bs).2.1, .int .i64 (m.put bs).2.2]) ∧ PTurned w g d B F (m.put bs).1 w' := by
  by_cases hn : bs.length ≤ 128
  · cases hA : allocO m.map with
    | some i => exact oPut_someK h ao bs cap hb hbn hp hn i hA
    | none =>
      have : m.put bs = (m, p3z, 71) := by unfold PileM.put; rw [if_pos hn, hA]
      rw [this]
      exact oPut_none h ao _ cap hn hA
  · have : m.put bs = (m, p3z, 92) := by unfold PileM.put; rw [if_neg hn]
    rw [this]
    exact oPut_big h ao _ cap (by omega)

theorem oPut {w : World} {g d B : Nat} {F : Nat → Prop} {m : PileM} (h : IsPile w g d B F m) (ao : Option Addr) (bs : List UInt8) (cap : Nat) (hb : Bytes w ao bs) (hbn : ∀ a, ao = some a → ¬ F a.block) (hp : m.dev.pending.length ≤ 1000000000) :
    Calls Try.prog 35 #[.pointer (some ⟨g, 0, none⟩), .slice ao bs.length cap] w fun e w' => e = .returned (.tuple #[p3V (m.put bs).2.1, .int .i64 (m.put bs).2.2]) ∧ PTurned w g d B F (m.put bs).1 w' :=
  oPutK h ao bs cap hb (fun W k => hb.keptF k hbn) hp

/-- what its map and its device answer -/
theorem oCount {w : World} {g d B : Nat} {F : Nat → Prop} {m : PileM} (h : IsPile w g d B F m) : Calls Try.prog 23 #[.pointer (some ⟨B, 0, none⟩)] w fun e w' => e = .returned (.int .i64 (countN m.map : Nat)) ∧ w' = w := Count_map B m.map w h.map
end Go.Proofs.Ytgdefibkemkejaa

/- Bytes as a sector: the document's own Block. -/
namespace Go.Proofs.Ytgdefibkemkejaa
open Go.ChangeShapes Go.WideShapes Go.ChangeAt Go.RowKit
set_option linter.unusedVariables false
set_option maxRecDepth 20000

def blockK (bs : List UInt8) (k : Nat) : List UInt8 := bs.take k ++ List.replicate (128 - k) 0
theorem blockK_zero (bs : List UInt8) : blockK bs 0 = List.replicate 128 0 := by simp [blockK]
theorem blockK_step {bs : List UInt8} {k : Nat} (h : k < bs.length) (h2 : k < 128) : (blockK bs k).set k bs[k] = blockK bs (k + 1) := by
  unfold blockK
  rw [List.set_append_right _ _ (by simp; omega), show 128 - k = (128 - (k + 1)) + 1 from by omega, List.replicate_succ, List.take_succ_eq_append_getElem h]
  simp only [List.length_take, Nat.min_eq_left (Nat.le_of_lt h), Nat.sub_self, List.set_cons_zero, List.append_assoc, List.cons_append, List.nil_append]
theorem blockK_end {bs : List UInt8} {k : Nat} (hk : k ≤ bs.length) (h2 : k ≤ 128) (h : k = bs.length ∨ k = 128) : blockK bs k = blockL bs := by
  unfold blockK blockL
  rcases h with h | h
  · rw [List.take_of_length_le (by omega), List.take_of_length_le (by omega), h]
  · subst h; rw [show 128 - bs.length = 0 from by omega]
theorem blockK_length {bs : List UInt8} {k : Nat} (hk : k ≤ bs.length) (h2 : k ≤ 128) : (blockK bs k).length = 128 := by
  unfold blockK; simp; omega
theorem blockK_at {bs : List UInt8} {k : Nat} (hk : k ≤ bs.length) (h2 : k < 128) : (bytesV (blockK bs k))[k]? = some (.int .u8 0) := by
  unfold blockK bytesV
  rw [List.getElem?_map, List.getElem?_append_right (by simp; omega)]
  simp [Nat.min_eq_left hk, List.getElem?_replicate, byteV]
  omega

set_option maxHeartbeats 4000000 in
theorem Block_any (ao : Option Addr) (bs : List UInt8) (cap : Nat) (w : World) (hb : Bytes w ao bs) (hl : bs.length ≤ 281474976710656) :
    Calls Try.prog 13 #[.slice ao bs.length cap] w fun e w' => e = .returned (.agg (secL (blockS bs)).toArray) ∧ Below w.heap.size w w' := by
  have hz := zeroSec
  have hb := Lib.hid hb
  obtain ⟨S, hS⟩ : ∃ S, Hid (S = blockS bs) := ⟨_, Lib.hid rfl⟩
  rw [← hS.out]
  obtain ⟨n, hn⟩ : ∃ n, Hid (bs.length = n) := ⟨_, Lib.hid rfl⟩
  rw [hn.out] at hl ⊢
  have l0 := Lib.hid (((Side.nil w (fun _ => False) w.heap.size).new (fun _ => False.elim) (Nat.le_refl _) 23 (secL sec0)).new (fun _ => False.elim) (by simp) 23 (secL sec0))
  simp only [World.size_alloc] at l0
  have q0 : Hid (Below w.heap.size w ((w.alloc (.cells (secL sec0).toArray 23)).alloc (.cells (secL sec0).toArray 23))) := Lib.hid (((Below.refl _ _).alloc (Nat.le_refl _) _).alloc (by simp) _)
  go_enter Try.func13, Try.ntmps13
  go_wp2_with (first
    | ((with_reducible refine guardList ?_); refine wantList_build (by rfl) 23 [] rfl (secL sec0) _ (by rfl) built_sec0 ?_)
    | ((with_reducible refine guardList ?_)
       refine wantList_store (by rfl) 23 _ _ rfl (w.heap.size + 1) 0 (by rfl) (secL sec0) (by rfl) _ (secL sec0) (secL sec0) l0.out.one (by simp only [secL_length]; decide) (secL_one _) (infoSecL _) wholeS ?_
       intro w1 hR1 k1 z1
       have l1 := Lib.hid (l0.out.set (fun x hx => by
         rcases hx with _ | ⟨_, hx⟩
         · show w.heap.size ≠ _; omega
         · cases hx) k1 hR1)
       have q1 := Lib.hid (Kept.out q0.out k1 (fun i _ e => by omega) (by simp; omega))
       clear hR1 k1 z1))
  clear l0 q0
  go_loopw [4] (fun i wr => ∃ k : Nat, k ≤ n ∧ k ≤ 128 ∧ i = .int .i64 k ∧ Hid (Side wr (fun _ => False) w.heap.size [(w.heap.size + 1, 23, bytesV (blockK bs k)), (w.heap.size, 23, secL sec0)]) ∧ Hid (Below w.heap.size w wr))
    (fun i _ => 128 - (intOf i).toNat)
  case atStart => exact ⟨0, by omega, by omega, rfl, by rw [blockK_zero]; exact l1, q1⟩
  case round =>
    clear l1 q1
    obtain ⟨k, hk, hk2, rfl, lr, qr⟩ := hrel
    by_cases hlt : k < n ∧ k < 128
    · obtain ⟨h1, h2⟩ := hlt
      have h1' : k < bs.length := by rw [hn.out]; exact h1
      obtain ⟨b, off, rfl, cb, hbl⟩ := Reads.byte (hb.out.below qr.out) h1'
      have cx : wr.cell? ⟨w.heap.size + 1, k, none⟩ = some (.int .u8 0) := by rw [lr.out.one.cell]; exact blockK_at (Nat.le_of_lt h1') h2
      have fx := lr.out.one.frozen k
      have hxl := lr.out.one.lt
      have hst := blockK_step h1' h2
      have hset := bytesV_set (blockK bs k) k bs[k]
      rw [hst] at hset
      have hset := Lib.hid hset
      generalize bs[k] = y at *
      clear hst
      go_wp2
      go_roundw
      case rel =>
        refine ⟨k + 1, by omega, by omega, by go_num, Lib.hid ?_, Lib.hid (qr.out.setCell (by simp) _)⟩
        rw [← hset.out]
        exact lr.out.set (fun x hx => by
          rcases hx with _ | ⟨_, hx⟩
          · show w.heap.size ≠ _; omega
          · cases hx) (Kept.cellAt _ _ _ _) (lr.out.one.set k _)
      case measure => simp [intOf] <;> omega
    · have hend : Hid (bytesV (blockK bs k) = secL S) := Lib.hid (by rw [hS.out]; unfold secL blockS; rw [blockK_end (by rw [hn.out]; exact hk) hk2 (by rw [hn.out]; omega)])
      have lr2 := Lib.hid (show Side _ _ _ _ from by have := lr.out; rw [hend.out] at this; exact this)
      clear lr hend
      have hk3 : k = n ∨ (k < n ∧ k = 128) := by omega
      rcases hk3 with rfl | ⟨h3, rfl⟩
      all_goals
        go_wp2_with (first
          | ((with_reducible refine guardList ?_); refine wantList_load (by rfl) 23 _ rfl (w.heap.size + 1) 0 (by rfl) (secL S) _ (rangeB lr2.out.one) Try.underlying23 rfl (infoSecL _) ?_)
          | ((with_reducible refine guardList ?_)
             refine wantList_store (by rfl) 23 _ _ rfl w.heap.size 0 (by rfl) (secL S) (by rfl) _ (secL sec0) (secL S) lr2.out.rest.one (by simp only [secL_length]; decide) (secL_one _) (infoSecL _) wholeS ?_
             intro w5 hR5 k5 z5
             have hR5 := Lib.hid hR5
             have k5 := Lib.hid k5
             clear z5))
        refine bodyPost_ret (results_row rfl (rowSec hR5.out)) rfl ⟨rfl, ?_⟩
        exact Kept.out qr.out k5.out (fun i _ e => by omega) qr.out.size
end Go.Proofs.Ytgdefibkemkejaa

/- A pile that goes on, as plain data: what put, get and drop do to it. -/
namespace Go.Proofs.Ytgdefibkemkejaa
open Go.ChangeShapes Go.WideShapes Go.ChangeAt Go.RowKit
set_option linter.unusedVariables false
set_option maxRecDepth 20000

theorem write_now (m : DevM) (i : Nat) (s : Sec) : putAll m.stable (m.pending ++ [(i, s)]) = m.now.set i s := putAll_snoc _ _ _

/-- a pile of n sectors whose power lasts, at most k writes pending -/
structure PLive (m : PileM) (n k : Nat) : Prop where
  len : m.dev.stable.length = n
  dead : m.dev.dead = false
  left : m.dev.left = -1
  pend : m.dev.pending.length ≤ k
/-- the rest of it is as before -/
structure PSame (m m' : PileM) : Prop where
  stamp : m'.stamp = m.stamp
  base : m'.base = m.base
namespace PLive
variable {m : PileM} {n k : Nat}
theorem more (h : PLive m n k) {k' : Nat} (hk : k ≤ k') : PLive m n k' := ⟨h.len, h.dead, h.left, Nat.le_trans h.pend hk⟩
theorem lasts (h : PLive m n k) : m.dev.lasts = true := by unfold DevM.lasts; rw [h.dead, h.left]; rfl
theorem spend (h : PLive m n k) : m.dev.tick.spend = m.dev.tick := by
  have : m.dev.tick.lasts = true := h.lasts
  unfold DevM.spend
  rw [this, if_pos rfl, if_neg (by show ¬ 0 < m.dev.left; rw [h.left]; decide)]
theorem has (h : PLive m n k) {i : Nat} (h1 : i < n) : m.dev.has (i : Int) = true := by
  unfold DevM.has
  rw [h.len, decide_eq_true (by omega), decide_eq_true (by omega)]
  rfl
theorem read (h : PLive m n k) {i : Nat} (hi : i < n) : m.dev.read (i : Int) = (m.dev.now.getD i sec0, 0) := by
  unfold DevM.read
  rw [h.has hi, h.dead]
  simp
theorem write (h : PLive m n k) {i : Nat} (hi : i < n) (s : Sec) (f : Nat → Nat) : ∃ d, m.dev.write (i : Int) s = (d, 0) ∧ PLive { m with dev := d, map := f } n (k + 1) ∧ d.now = m.dev.now.set i s := by
  have hp := h.pend
  refine ⟨(m.dev.write (i : Int) s).1, ?_, ?_⟩
  · unfold DevM.write
    rw [h.has hi, h.lasts]
    rfl
  · unfold DevM.write
    rw [h.has hi, h.lasts, h.spend]
    refine ⟨⟨h.len, h.dead, h.left, ?_⟩, ?_⟩
    · show (m.dev.pending ++ [_]).length ≤ _; rw [List.length_append, List.length_singleton]; omega
    · exact write_now m.dev i s

theorem putAt_ok (h : PLive m n k) {i : Nat} (hi : i < n) {bs : List UInt8} (hb : bs.length ≤ 128) (hc : canTurn m.map i 2 = true) :
    ∃ m', m.putAt i bs = (m', ⟨i, m.stamp, sumS (blockS bs)⟩, 0) ∧ PLive m' n (k + 1) ∧ PSame m m' ∧ m'.map = m.map ∧ m'.dev.now = m.dev.now.set i (blockS bs) := by
  obtain ⟨d, h1, h2, h3⟩ := h.write hi (blockS bs) m.map
  refine ⟨{ m with dev := d }, ?_, h2, ⟨rfl, rfl⟩, rfl, h3⟩
  unfold PileM.putAt
  rw [if_pos hb, if_pos hc, h1]
  rfl
theorem put_ok (h : PLive m n k) {i : Nat} (hi : i < n) {bs : List UInt8} (hb : bs.length ≤ 128) (hA : allocO m.map = some i) :
    ∃ m', m.put bs = (m', ⟨i, m.stamp, sumS (blockS bs)⟩, 0) ∧ PLive m' n (k + 1) ∧ PSame m m' ∧ m'.map = upd m.map i 2 ∧ m'.dev.now = m.dev.now.set i (blockS bs) := by
  have hL : PLive ({ m with map := upd m.map i 2 } : PileM) n k := ⟨h.len, h.dead, h.left, h.pend⟩
  have hi2 := (allocO_some hA).1
  obtain ⟨m', h1, h2, h3, h4, h5⟩ := hL.putAt_ok hi hb (by show canTurn (upd m.map i 2) (i : Int) 2 = true; rw [canTurn_nat _ hi2, upd_same]; rfl)
  refine ⟨m', ?_, h2, ⟨h3.stamp, h3.base⟩, h4, h5⟩
  unfold PileM.put
  rw [if_pos hb, hA]
  simp only [h1]
  rfl
theorem put_none {bs : List UInt8} (hb : bs.length ≤ 128) (hA : allocO m.map = none) : m.put bs = (m, p3z, 71) := by
  unfold PileM.put; rw [if_pos hb, hA]
theorem put_big {bs : List UInt8} (hb : ¬ bs.length ≤ 128) : m.put bs = (m, p3z, 92) := by
  unfold PileM.put; rw [if_neg hb]
theorem get_ok (h : PLive m n k) {i b s : Nat} (hi : i < n) (hq : P3.holeB ⟨i, b, s⟩ = false) :
    ∃ m', m.get ⟨i, b, s⟩ = (m', if sumS (m.dev.now.getD i sec0) = s then (m.dev.now.getD i sec0, 0) else (sec0, 91)) ∧ PLive m' n k ∧ PSame m m' ∧ m'.map = m.map ∧ m'.dev.now = m.dev.now := by
  refine ⟨{ m with dev := m.dev.tick }, ?_, ⟨h.len, h.dead, h.left, h.pend⟩, ⟨rfl, rfl⟩, rfl, rfl⟩
  unfold PileM.get
  rw [hq]
  simp only [h.read hi]
  rfl
theorem rot (h : PLive m n k) (i : Int) (s : Sec) :
    PLive { m with dev := (m.dev.rot i s).1 } n k ∧ (m.dev.rot i s).1.now = if 0 ≤ i ∧ i < n then m.dev.now.set i.toNat s else m.dev.now := by
  by_cases hi : 0 ≤ i ∧ i < n
  · obtain ⟨j, rfl⟩ : ∃ j : Nat, i = j := ⟨i.toNat, by omega⟩
    rw [if_pos hi]
    unfold DevM.rot
    rw [h.has (by omega)]
    exact ⟨⟨by show (m.dev.stable.set _ _).length = n; rw [List.length_set]; exact h.len, h.dead, h.left, by show (m.dev.pending.map _).length ≤ k; rw [List.length_map]; exact h.pend⟩, rot_now _ _ _ _⟩
  · rw [if_neg hi]
    have : m.dev.has i = false := by
      unfold DevM.has
      rw [h.len, ← Bool.decide_and]
      exact decide_eq_false hi
    unfold DevM.rot
    rw [this]
    exact ⟨⟨h.len, h.dead, h.left, h.pend⟩, rfl⟩
end PLive
theorem fresh_now (n : Nat) : (DevM.fresh n).now = List.replicate n sec0 := rfl
theorem PLive.first (n : Nat) (f : Nat → Nat) (s b : Nat) : PLive ⟨DevM.fresh n, f, s, b⟩ n 0 := ⟨List.length_replicate .., rfl, rfl, Nat.le_refl _⟩
theorem drop_not {m : PileM} {q : P3} (hq : q.holeB = false) : m.drop q = ({ m with map := turnF m.map q.a 2 (if m.base < q.b then 1 else 3) }, turnE m.map q.a 2) := by
  unfold PileM.drop
  rw [hq]
  by_cases h : m.base < q.b
  · simp [h]
  · simp [h]
theorem drop_hole {m : PileM} {q : P3} (hq : q.holeB = true) : m.drop q = (m, 0) := by
  unfold PileM.drop
  rw [if_pos hq]
theorem hole_birth {a : Int} {b s : Nat} (h : b ≠ 0) : P3.holeB ⟨a, b, s⟩ = false := by
  unfold P3.holeB
  simp [h]
theorem now_len {m : PileM} {n k : Nat} (h : PLive m n k) : m.dev.now.length = n := by rw [DevM.now_length, h.len]
theorem get_set (l : List Sec) (i j : Nat) (s : Sec) (hi : i < l.length) : (l.set i s).getD j sec0 = if j = i then s else l.getD j sec0 := by
  simp only [List.getD_eq_getElem?_getD, List.getElem?_set]
  by_cases h : i = j
  · subst h; simp [hi]
  · have : ¬ j = i := fun e => h e.symm
    simp [h, this]
end Go.Proofs.Ytgdefibkemkejaa
