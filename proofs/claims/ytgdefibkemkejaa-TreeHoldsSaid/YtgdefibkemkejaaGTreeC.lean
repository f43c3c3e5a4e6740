/- TreeC: the texts TreeP, TreeQ, TreeR, TreeS, TreeT, TreeU, TreeV, TreeW, one behind the other. -/
import Derived.Test.YtgdefibkemkejaaGTree
import Derived.Test.YtgdefibkemkejaaGTreeB
/- The program's way through a tree, by value and in a block; has, hole, block, left. -/
namespace Go.Proofs.Ytgdefibkemkejaa
open Go.ChangeShapes Go.WideShapes Go.ChangeAt Go.RowKit
set_option linter.unusedVariables false
set_option maxRecDepth 20000

structure Way where
  root : P3
  a : P8
  b : P8
  i : Nat
  j : Nat
def wayT (W : Way) : List Value := [.int .i64 (W.i : Int), .int .i64 (W.j : Int)]
def wayL (W : Way) : List Value := p3L W.root ++ (p8L W.a ++ (p8L W.b ++ wayT W))
theorem wayT_length (W : Way) : (wayT W).length = 2 := rfl
theorem wayL_length (W : Way) : (wayL W).length = 53 := by unfold wayL; simp only [List.length_append, p3L_length, p8L_length, wayT_length]
theorem wayL_one (W : Way) : ∀ v ∈ wayL W, v.oneCell' = true := by
  intro v hv
  unfold wayL at hv
  rcases List.mem_append.1 hv with h | h
  · exact p3L_one _ v h
  · rcases List.mem_append.1 h with h | h
    · exact p8L_one _ v h
    · rcases List.mem_append.1 h with h | h
      · exact p8L_one _ v h
      · simp only [wayT, List.mem_cons, List.not_mem_nil, or_false] at h
        rcases h with rfl | rfl <;> rfl
theorem infoWay (W : Way) : (Try.prog.info? 68).map (·.size) = some (wayL W).length := by rw [wayL_length]; kernel_rfl
theorem wholeWay {s t : Way} : wayL s = (wayL t).take 0 ++ wayL s ++ (wayL t).drop (0 + (wayL s).length) := whole_new (by rw [wayL_length, wayL_length])
theorem rowWay {w : World} {g : Nat} {t : TypeId} {W : Way} (h : Blk w g t (wayL W)) : RowRes Try.prog w 68 (.pointer (some ⟨g, 0, none⟩)) (wayL W) :=
  ⟨⟨g, _, rfl, h⟩, ⟨_, Try.underlying68, rfl⟩, infoWay W⟩
theorem mid_set {A B C B' : List Value} {o : Nat} (ho : A.length = o) (hl : B'.length = B.length) : A ++ (B' ++ C) = (A ++ (B ++ C)).take o ++ B' ++ (A ++ (B ++ C)).drop (o + B'.length) := by
  rw [List.take_left' ho, hl]
  have : (A ++ (B ++ C)).drop (o + B.length) = C := by
    rw [← List.append_assoc]
    exact List.drop_left' (by rw [List.length_append, ho])
  rw [this, List.append_assoc]
theorem mid_at {A B C : List Value} {o : Nat} (ho : A.length = o) {k : Nat} {v : Value} (hv : B[k]? = some v) : (A ++ (B ++ C))[o + k]? = some v := by
  have hk : k < B.length := by
    by_cases h : k < B.length
    · exact h
    · rw [List.getElem?_eq_none (by omega)] at hv; cases hv
  rw [List.getElem?_append_right (by omega), List.getElem?_append_left (by omega), ← hv]
  congr 1
  omega
section
variable {w : World} {g : Nat} {t : TypeId} {W : Way}
theorem wayL_root {k : Nat} {v : Value} (h : (p3L W.root)[k]? = some v) : (wayL W)[0 + k]? = some v := mid_at (A := []) rfl h
theorem wayL_a {k : Nat} {v : Value} (h : (p8L W.a)[k]? = some v) : (wayL W)[3 + k]? = some v := mid_at (p3L_length _) h
theorem wayL_b {k : Nat} {v : Value} (h : (p8L W.b)[k]? = some v) : (wayL W)[27 + k]? = some v := by
  have e : wayL W = (p3L W.root ++ p8L W.a) ++ (p8L W.b ++ wayT W) := by unfold wayL; rw [List.append_assoc]
  rw [e]
  exact mid_at (by rw [List.length_append, p3L_length, p8L_length]) h
theorem wayL_t {k : Nat} {v : Value} (h : (wayT W)[k]? = some v) : (wayL W)[51 + k]? = some v := by
  have e : wayL W = (p3L W.root ++ (p8L W.a ++ p8L W.b)) ++ (wayT W ++ []) := by unfold wayL; simp
  rw [e]
  exact mid_at (by simp only [List.length_append, p3L_length, p8L_length]) h
theorem way_cells (h : Blk w g t (wayL W)) : w.cell? ⟨g, 51, none⟩ = some (.int .i64 (W.i : Int)) ∧ w.cell? ⟨g, 52, none⟩ = some (.int .i64 (W.j : Int)) :=
  ⟨by rw [h.cell]; exact wayL_t (k := 0) rfl, by rw [h.cell]; exact wayL_t (k := 1) rfl⟩
theorem way_root (h : Blk w g t (wayL W)) : w.rangeAt g 0 (p3L W.root) := h.range fun j v hv => wayL_root hv
theorem way_a (h : Blk w g t (wayL W)) : w.rangeAt g 3 (p8L W.a) := h.range fun j v hv => wayL_a hv
theorem way_b (h : Blk w g t (wayL W)) : w.rangeAt g 27 (p8L W.b) := h.range fun j v hv => wayL_b hv
theorem way_ak (h : Blk w g t (wayL W)) {k : Nat} (hk : k < 8) : w.rangeAt g (3 + k * 3) (p3L (W.a.get k)) := h.range fun j v hv => by rw [Nat.add_assoc]; exact wayL_a (p8L_at W.a hk hv)
theorem way_bk (h : Blk w g t (wayL W)) {k : Nat} (hk : k < 8) : w.rangeAt g (27 + k * 3) (p3L (W.b.get k)) := h.range fun j v hv => by rw [Nat.add_assoc]; exact wayL_b (p8L_at W.b hk hv)
def Way.setA (W : Way) (X : P8) : Way := ⟨W.root, X, W.b, W.i, W.j⟩
def Way.setB (W : Way) (X : P8) : Way := ⟨W.root, W.a, X, W.i, W.j⟩
theorem way_setA (X : P8) : wayL (W.setA X) = (wayL W).take 3 ++ p8L X ++ (wayL W).drop (3 + (p8L X).length) := mid_set (p3L_length _) (by rw [p8L_length, p8L_length])
theorem way_setB (X : P8) : wayL (W.setB X) = (wayL W).take 27 ++ p8L X ++ (wayL W).drop (27 + (p8L X).length) := by
  have e : ∀ Y : P8, wayL (W.setB Y) = (p3L W.root ++ p8L W.a) ++ (p8L Y ++ wayT W) := fun Y => by
    unfold wayL Way.setB wayT; rw [List.append_assoc]
  have e0 : wayL W = (p3L W.root ++ p8L W.a) ++ (p8L W.b ++ wayT W) := e W.b
  rw [e X, e0]
  exact mid_set (by rw [List.length_append, p3L_length, p8L_length]) (by rw [p8L_length, p8L_length])
theorem inner_set {A B C B' : List Value} {o k n : Nat} (ho : A.length = o) {v : List Value} (hn : v.length = n) (hk : k + n ≤ B.length) (hB : B' = B.take k ++ v ++ B.drop (k + n)) : A ++ (B' ++ C) = (A ++ (B ++ C)).take (o + k) ++ v ++ (A ++ (B ++ C)).drop (o + k + v.length) := by
  subst hB ho hn
  have e1 : (A ++ (B ++ C)).take (A.length + k) = A ++ B.take k := by
    rw [List.take_append, List.take_of_length_le (by omega), Nat.add_sub_cancel_left, List.take_append_of_le_length (by omega)]
  have e2 : (A ++ (B ++ C)).drop (A.length + k + v.length) = B.drop (k + v.length) ++ C := by
    rw [List.drop_append, List.drop_of_length_le (by omega), List.nil_append, show A.length + k + v.length - A.length = k + v.length from by omega, List.drop_append_of_le_length (by omega)]
  rw [e1, e2]
  simp only [List.append_assoc]
theorem way_setAk {k : Nat} (hk : k < 8) (q : P3) : wayL (W.setA (W.a.set k q)) = (wayL W).take (3 + k * 3) ++ p3L q ++ (wayL W).drop (3 + k * 3 + (p3L q).length) :=
  inner_set (p3L_length _) (p3L_length q) (by rw [p8L_length]; omega) (p8L_set W.a hk q)
theorem way_setBk {k : Nat} (hk : k < 8) (q : P3) : wayL (W.setB (W.b.set k q)) = (wayL W).take (27 + k * 3) ++ p3L q ++ (wayL W).drop (27 + k * 3 + (p3L q).length) := by
  have e : ∀ Y : P8, wayL (W.setB Y) = (p3L W.root ++ p8L W.a) ++ (p8L Y ++ wayT W) := fun Y => by
    unfold wayL Way.setB wayT; rw [List.append_assoc]
  have e0 : wayL W = (p3L W.root ++ p8L W.a) ++ (p8L W.b ++ wayT W) := e W.b
  rw [e, e0]
  exact inner_set (by rw [List.length_append, p3L_length, p8L_length]) (p3L_length q) (by rw [p8L_length]; omega) (p8L_set W.b hk q)
end

theorem tHas_any (i : Int) (w : World) : Calls Try.prog 25 #[.int .i64 i] w fun e w' => e = .returned (.bool (decide (0 ≤ i ∧ i < 64))) ∧ w' = w := by
  by_cases h1 : 0 ≤ i <;> by_cases h2 : i < 64
  all_goals
    go_enter Try.func25, Try.ntmps25
    go_wp2
    go_ret
    exact ⟨ret_bool (by simp <;> omega), rfl⟩

set_option maxHeartbeats 1000000 in
theorem tHole_any (q : P3) (w : World) :
    Calls Try.prog 32 #[.agg (p3L q).toArray] w fun e w' => e = .returned (.bool q.holeB) ∧ Below w.heap.size w w' := by
  obtain ⟨a, b, s⟩ := q
  show Calls Try.prog 32 #[.agg #[.int .i64 a, .int .u64 (b : Int), .int .u32 (s : Int)]] w _
  go_enter Try.func32, Try.ntmps32
  go_wp2
  all_goals go_ret
  all_goals exact ⟨ret_bool (by simp [P3.holeB, *]), (Below.refl _ _).alloc (Nat.le_refl _) _⟩

/-- two blocks at a call's begin -/
structure Two (w wb : World) (t : TypeId) (cs : List Value) (u : TypeId) (ds : List Value) : Prop where
  b0 : Blk wb w.heap.size t cs
  b1 : Blk wb (w.heap.size + 1) u ds
  q : Below w.heap.size w wb
  size : w.heap.size + 1 < wb.heap.size
theorem Two.open (w : World) (t : TypeId) (cs : List Value) (u : TypeId) (ds : List Value) : ∃ wb : World, Hid (wb = (w.alloc (.cells cs.toArray t)).alloc (.cells ds.toArray u)) ∧ Hid (Two w wb t cs u ds) :=
  ⟨_, Lib.hid rfl, Lib.hid ⟨(Blk.new w t cs).alloc _, two_new w _ u ds, two_below w _ _, by simp⟩⟩
/-- the zero of a pointer, as it is laid -/
def z3 : List Value := [.int .i64 0, .int .u64 0, .int .u32 0]
theorem z3_eq : z3 = p3L p3z := rfl

set_option maxHeartbeats 2000000 in
theorem wBlock_any (W : Way) (hj : W.j < 8) (w : World) :
    Calls Try.prog 28 #[.agg (wayL W).toArray] w fun e w' => e = .returned (.agg (p3L (W.b.get W.j)).toArray) ∧ Below w.heap.size w w' := by
  obtain ⟨wb, hwb, T⟩ := Two.open w 68 (wayL W) 32 [.int .i64 0, .int .u64 0, .int .u32 0]
  obtain ⟨c1, c2⟩ := way_cells T.out.b0
  have hlt := T.out.size
  go_enter Try.func28, Try.ntmps28
  go_upto_region 1 with (fail)
  rw [← hwb.out]
  go_wp2_with (first
    | ((with_reducible refine guardList ?_); refine wantList_load (by rfl) 32 _ rfl w.heap.size (27 + W.j * 3) (by rfl) (p3L (W.b.get W.j)) _ (way_bk T.out.b0 hj) Try.underlying32 rfl (infoPtr _) ?_)
    | ((with_reducible refine guardList ?_)
       refine wantList_store (by rfl) 32 _ _ rfl (w.heap.size + 1) 0 (by rfl) (p3L (W.b.get W.j)) (by rfl) _ (p3L p3z) (p3L (W.b.get W.j)) T.out.b1 (by simp only [p3L_length]; decide) (p3L_one _) (infoPtr _) (whole_new rfl) ?_
       intro w5 hR5 k5 z5
       have hR5 := Lib.hid hR5
       have q5 := Lib.hid (Kept.out T.out.q k5 (fun i _ e => by omega) (by omega))
       clear z5 k5))
  refine bodyPost_ret (results_row rfl (rowPtr hR5.out)) rfl ⟨rfl, q5.out⟩
end Go.Proofs.Ytgdefibkemkejaa

/- left, load, save of the program's tree. -/
namespace Go.Proofs.Ytgdefibkemkejaa
open Go.ChangeShapes Go.WideShapes Go.ChangeAt Go.RowKit
set_option linter.unusedVariables false
set_option maxRecDepth 20000

/-- a block at a call's begin -/
structure One (w wb : World) (t : TypeId) (cs : List Value) : Prop where
  b0 : Blk wb w.heap.size t cs
  q : Below w.heap.size w wb
theorem One.open (w : World) (t : TypeId) (cs : List Value) : ∃ wb : World, Hid (wb = w.alloc (.cells cs.toArray t)) ∧ Hid (One w wb t cs) :=
  ⟨_, Lib.hid rfl, Lib.hid ⟨Blk.new w t cs, (Below.refl _ _).alloc (Nat.le_refl _) _⟩⟩
namespace One
variable {w w1 w2 : World} {t : TypeId} {cs cs' : List Value}
theorem below (h : One w w1 t cs) (hb : Below w1.heap.size w1 w2) : One w w2 t cs := ⟨blk_out h.b0 hb, h.q.trans (hb.mono h.q.size)⟩
theorem drew (h : One w w1 t cs) : One w w1.drew t cs := ⟨h.b0, h.q.drew⟩
theorem lay (h : One w w1 t cs) (k : Kept (· = w.heap.size) w1 w2) (hb : Blk w2 w.heap.size t cs') : One w w2 t cs' := ⟨hb, Kept.out h.q k (fun i _ e => by omega) h.q.size⟩
end One

/-- how many NODES are to be put -/
def leftN (W : Way) : Nat := if W.b.set W.j p3z = holesP then (if W.a.set W.i p3z = holesP then 0 else 1) else 2

set_option maxHeartbeats 2000000 in
theorem wLeft_any (W : Way) (hi : W.i < 8) (hj : W.j < 8) (w : World) :
    Calls Try.prog 33 #[.agg (wayL W).toArray] w fun e w' => e = .returned (.int .i64 (leftN W : Int)) ∧ Below w.heap.size w w' := by
  obtain ⟨wb, hwb, T⟩ := One.open w 68 (wayL W)
  obtain ⟨c1, c2⟩ := way_cells T.out.b0
  have hlt := T.out.b0.lt
  have hE1 := fun w => Empty_any (W.b.set W.j p3z) w
  have hE2 := fun w => Empty_any (W.a.set W.i p3z) w
  simp only [nodeEmpty_iff] at hE1 hE2
  have hN : Hid (leftN W = if decide (W.b.set W.j p3z = holesP) = true then (if decide (W.a.set W.i p3z = holesP) = true then 0 else 1) else 2) := Lib.hid (by unfold leftN; simp)
  have hs1 : Hid (wayL (W.setB (W.b.set W.j p3z)) = (wayL W).take (27 + W.j * 3) ++ p3L p3z ++ (wayL W).drop (27 + W.j * 3 + (p3L p3z).length)) := Lib.hid (way_setBk hj p3z)
  generalize leftN W = N at *
  generalize decide (W.b.set W.j p3z = holesP) = e1 at *
  generalize decide (W.a.set W.i p3z = holesP) = e2 at *
  have hE1 := Lib.hid hE1
  have hE2 := Lib.hid hE2
  go_enter Try.func33, Try.ntmps33
  go_upto_region 1 with (fail)
  rw [← hwb.out]
  go_wp2_with (first
    | ((with_reducible refine guardList ?_)
       refine wantList_store (by rfl) 32 _ _ rfl w.heap.size (27 + W.j * 3) (by rfl) (p3L p3z) (by rfl) _ (wayL W) (wayL (W.setB (W.b.set W.j p3z))) T.out.b0 (by simp only [p3L_length, wayL_length]; omega) (p3L_one _) (infoPtr _) hs1.out ?_
       intro w1 hR1 k1 z1
       have T1 := Lib.hid (T.out.lay k1 hR1)
       clear z1 k1 hR1)
    | ((with_reducible refine guardList ?_); refine wantList_load (by rfl) 66 _ rfl w.heap.size 27 (by rfl) (p8L (W.b.set W.j p3z)) _ (way_b T1.out.b0) Try.underlying66 rfl (infoP8 _) ?_))
  refine (hE1.out _).mono ?_
  rintro e w2 ⟨rfl, b2⟩
  have T2 := Lib.hid (T1.out.below b2)
  clear b2 T1 T c1 c2 hlt
  obtain ⟨c1, c2⟩ := way_cells T2.out.b0
  simp only [Way.setB] at c1 c2
  have hlt := T2.out.b0.lt
  have hs2 : Hid (wayL ((W.setB (W.b.set W.j p3z)).setA (W.a.set W.i p3z)) = (wayL (W.setB (W.b.set W.j p3z))).take (3 + W.i * 3) ++ p3L p3z ++ (wayL (W.setB (W.b.set W.j p3z))).drop (3 + W.i * 3 + (p3L p3z).length)) := Lib.hid (way_setAk (W := W.setB (W.b.set W.j p3z)) hi p3z)
  cases e1
  · go_wp2
    go_ret
    rw [hN.out]
    exact ⟨rfl, T2.out.q⟩
  · go_wp2_with (first
      | ((with_reducible refine guardList ?_)
         refine wantList_store (by rfl) 32 _ _ rfl w.heap.size (3 + W.i * 3) (by rfl) (p3L p3z) (by rfl) _ (wayL (W.setB (W.b.set W.j p3z))) (wayL ((W.setB (W.b.set W.j p3z)).setA (W.a.set W.i p3z))) T2.out.b0 (by simp only [p3L_length, wayL_length]; omega) (p3L_one _) (infoPtr _) hs2.out ?_
         intro w3 hR1 k1 z1
         have T3 := Lib.hid (T2.out.lay k1 hR1)
         clear z1 k1 hR1)
      | ((with_reducible refine guardList ?_); refine wantList_load (by rfl) 66 _ rfl w.heap.size 3 (by rfl) (p8L (W.a.set W.i p3z)) _ (way_a T3.out.b0) Try.underlying66 rfl (infoP8 _) ?_))
    refine (hE2.out _).mono ?_
    rintro e w4 ⟨rfl, b4⟩
    have T4 := Lib.hid (T3.out.below b4)
    clear b4 T3 T2 c1 c2 hlt
    cases e2
    · go_wp2
      go_ret
      rw [hN.out]
      exact ⟨rfl, T4.out.q⟩
    · go_wp2
      go_ret
      rw [hN.out]
      exact ⟨rfl, T4.out.q⟩

/-- a call on a pile, and blocks of its own -/
structure CL (w0 w : World) (g d B : Nat) (F F' : Nat → Prop) (m : PileM) (L : List (Nat × TypeId × List Value)) : Prop where
  p : PStep w0 g d B F F' m w
  l : Side w F' w0.heap.size L
  nd : (L.map (·.1)).Nodup
namespace CL
variable {w0 w w' : World} {g d B : Nat} {F F' F'' : Nat → Prop} {m m' : PileM} {L L' : List (Nat × TypeId × List Value)} {x : Nat} {t : TypeId} {cs cs' : List Value} {y z u : Nat × TypeId × List Value}
theorem start (h : IsPile w g d B F m) : CL w w g d B F F m [] := ⟨PStep.start h, Side.nil _ _ _, List.nodup_nil⟩
theorem below (h : CL w0 w g d B F F' m L) (hb : Below w.heap.size w w') : CL w0 w' g d B F F' m L := ⟨h.p.below hb, h.l.below hb, h.nd⟩
theorem alloc (h : CL w0 w g d B F F' m L) (o : Obj) : CL w0 (w.alloc o) g d B F F' m L := h.below ((Below.refl _ _).alloc (Nat.le_refl _) o)
theorem drew (h : CL w0 w g d B F F' m L) : CL w0 w.drew g d B F F' m L := ⟨h.p.drew, h.l.drew, h.nd⟩
theorem drewN (h : CL w0 w g d B F F' m L) (n : Nat) : CL w0 (w.drewN n) g d B F F' m L := ⟨h.p.drewN n, h.l.drewN n, h.nd⟩
theorem size (h : CL w0 w g d B F F' m L) : w0.heap.size ≤ w.heap.size := h.p.kept.size
theorem fresh (h : CL w0 w g d B F F' m L) : w.heap.size ∉ L.map (·.1) := fun hx => by
  obtain ⟨y, hy, e⟩ := List.mem_map.1 hx
  have := (h.l y hy).1.lt
  omega
theorem box (h : CL w0 w g d B F F' m L) (t : TypeId) (cs : List Value) : CL w0 (w.alloc (.cells cs.toArray t)) g d B F F' m ((w.heap.size, t, cs) :: L) :=
  ⟨h.p.alloc _, h.l.new h.p.at_.lt h.size t cs, List.nodup_cons.2 ⟨h.fresh, h.nd⟩⟩
theorem turn (h : CL w0 w g d B F F' m L) (T : PStep w g d B F' F'' m' w') : CL w0 w' g d B F F'' m' L := ⟨h.p.trans T, h.l.turn T.kept T.grows, h.nd⟩
theorem over (h : CL w0 w g d B F F' m ((x, t, cs) :: L)) (k : Kept (· = x) w w') (hb : Blk w' x t cs') : CL w0 w' g d B F F' m ((x, t, cs') :: L) :=
  ⟨h.p.over k h.l.low h.l.out, h.l.set (fun y hy e => (List.nodup_cons.1 h.nd).1 (List.mem_map.2 ⟨y, hy, e⟩)) k hb, h.nd⟩
theorem perm (h : CL w0 w g d B F F' m L) (p : L.Perm L') : CL w0 w g d B F F' m L' := ⟨h.p, h.l.sub fun _ hx => p.mem_iff.2 hx, (p.map _).nodup_iff.1 h.nd⟩
theorem tail (h : CL w0 w g d B F F' m (y :: L)) : CL w0 w g d B F F' m L := ⟨h.p, h.l.sub fun _ hx => .tail _ hx, (List.nodup_cons.1 h.nd).2⟩
theorem swap (h : CL w0 w g d B F F' m (y :: z :: L)) : CL w0 w g d B F F' m (z :: y :: L) := h.perm (List.Perm.swap _ _ _)
theorem over1 (h : CL w0 w g d B F F' m (y :: (x, t, cs) :: L)) (k : Kept (· = x) w w') (hb : Blk w' x t cs') : CL w0 w' g d B F F' m (y :: (x, t, cs') :: L) := (h.swap.over k hb).swap
theorem over2 (h : CL w0 w g d B F F' m (y :: z :: (x, t, cs) :: L)) (k : Kept (· = x) w w') (hb : Blk w' x t cs') : CL w0 w' g d B F F' m (y :: z :: (x, t, cs') :: L) := by
  have p : ∀ c : List Value, (y :: z :: (x, t, c) :: L).Perm ((x, t, c) :: y :: z :: L) := fun c => (((List.Perm.swap _ _ _).cons y).trans (List.Perm.swap _ _ _))
  exact ((h.perm (p cs)).over k hb).perm (p cs').symm
theorem over3 (h : CL w0 w g d B F F' m (y :: z :: u :: (x, t, cs) :: L)) (k : Kept (· = x) w w') (hb : Blk w' x t cs') : CL w0 w' g d B F F' m (y :: z :: u :: (x, t, cs') :: L) := by
  have p : ∀ c : List Value, (y :: z :: u :: (x, t, c) :: L).Perm ((x, t, c) :: y :: z :: u :: L) := fun c => ((((List.Perm.swap _ _ _).cons z).trans (List.Perm.swap _ _ _)).cons y).trans (List.Perm.swap _ _ _)
  exact ((h.perm (p cs)).over k hb).perm (p cs').symm
theorem b0 (h : CL w0 w g d B F F' m ((x, t, cs) :: L)) : Blk w x t cs := h.l.one
theorem b1 (h : CL w0 w g d B F F' m (y :: (x, t, cs) :: L)) : Blk w x t cs := h.tail.b0
theorem b2 (h : CL w0 w g d B F F' m (y :: z :: (x, t, cs) :: L)) : Blk w x t cs := h.tail.b1
theorem b3 (h : CL w0 w g d B F F' m (y :: z :: u :: (x, t, cs) :: L)) : Blk w x t cs := h.tail.b2
/-- a new block that is stored to -/
theorem lay (h : CL w0 w g d B F F' m L) (k : Kept (· = w.heap.size) (w.alloc (.cells cs.toArray t)) w') (hb : Blk w' w.heap.size t cs') : CL w0 w' g d B F F' m ((w.heap.size, t, cs') :: L) := (h.box t cs).over k hb
theorem done (h : CL w0 w g d B F F' m L) : PTurned w0 g d B F m w := h.p.done
end CL
/-- the world behind some boxes -/
theorem CL.named {w w1 : World} {g d B : Nat} {F F' : Nat → Prop} {m : PileM} {L : List (Nat × TypeId × List Value)} (h : CL w w1 g d B F F' m L) : ∃ wb : World, Hid (wb = w1) ∧ Hid (CL w wb g d B F F' m L) := ⟨_, Lib.hid rfl, Lib.hid h⟩

set_option maxHeartbeats 4000000 in
/-- load of a pointer that leads to a node's sector -/
theorem tLoad_ok {w : World} {g d B : Nat} {F : Nat → Prop} {m m' : PileM} {q : P3} {s : Sec} {l : P8} (h : IsPile w g d B F m) (hq : q.Fit) (hG : m.get q = (m', s, 0)) (hr : nodeRP s = some l) :
    Calls Try.prog 43 #[.pointer (some ⟨g, 0, none⟩), .agg (p3L q).toArray] w fun e w' => e = .returned (.tuple #[.agg (p8L l).toArray, .int .i64 0]) ∧ PTurned w g d B F m' w' := by
  have hGet := fun W (G : Nat → Prop) (hW : IsPile W g d B G m) => oGet hW q hq
  rw [hG] at hGet
  dsimp only at hGet
  unfold p3V at hGet
  have hRd := fun w => nRead_any s w
  rw [hr] at hRd
  have hGet := Lib.hid hGet
  have hRd := Lib.hid hRd
  clear hr hG
  obtain ⟨wb, hwb, T⟩ := (((CL.start h).box 32 (p3L q)).box 66 (p8L holesP)).named
  have h := Lib.hid h
  have hz := zeroP8
  have hz2 := zeroSec
  go_enter Try.func43, Try.ntmps43
  go_upto_region 1 with (fail)
  rw [← hwb.out]
  simp only [World.size_alloc] at T
  go_wp2_with ((with_reducible refine guardList ?_); refine wantList_load (by rfl) 32 _ rfl w.heap.size 0 (by rfl) (p3L q) _ (rangeN T.out.b1) Try.underlying32 rfl (infoPtr _) ?_)
  refine (hGet.out _ _ T.out.p.at_).mono ?_
  rintro e w2 ⟨rfl, F2, T2⟩
  have T2 := Lib.hid (T.out.turn T2)
  have hN := Blk.new w2 23 (secL sec0)
  have hN := Lib.hid hN
  go_wp2_with (first
    | ((with_reducible refine guardList ?_)
       refine wantList_store (by rfl) 23 _ _ rfl w2.heap.size 0 (by rfl) (secL s) (by rfl) _ (secL sec0) (secL s) hN.out (by simp only [secL_length]; decide) (secL_one _) (infoSecL _) wholeSn ?_
       intro w3 hR3 k3 z3
       have T3 := Lib.hid (T2.out.lay k3 hR3)
       clear z3 k3 hR3)
    | ((with_reducible refine guardList ?_); refine wantList_load (by rfl) 23 _ rfl w2.heap.size 0 (by rfl) (secL s) _ (rangeN T3.out.b0) Try.underlying23 rfl (infoSecL _) ?_))
  refine (hRd.out _).mono ?_
  rintro e w4 ⟨rfl, b4⟩
  have T4 := Lib.hid (T3.out.below b4)
  have hN4 := Lib.hid (Blk.new w4 66 (p8L holesP))
  clear b4 T3 T2 T hN
  go_wp2_with (first
    | ((with_reducible refine guardList ?_)
       refine wantList_store (by rfl) 66 _ _ rfl w4.heap.size 0 (by rfl) (p8L l) (by rfl) _ (p8L holesP) (p8L l) hN4.out (by simp only [p8L_length]; decide) (p8L_one _) (infoP8 _) wholeP8 ?_
       intro w5 hR5 k5 z5
       have T5 := Lib.hid (T4.out.lay k5 hR5)
       clear z5 k5 hR5)
    | ((with_reducible refine guardList ?_); refine wantList_load (by rfl) 66 _ rfl w4.heap.size 0 (by rfl) (p8L l) _ (rangeN T5.out.b0) Try.underlying66 rfl (infoP8 _) ?_)
    | ((with_reducible refine guardList ?_)
       refine wantList_store (by rfl) 66 _ _ rfl (w.heap.size + 1) 0 (by rfl) (p8L l) (by rfl) _ (p8L holesP) (p8L l) T5.out.b2 (by simp only [p8L_length]; decide) (p8L_one _) (infoP8 _) wholeP8 ?_
       intro w6 hR6 k6 z6
       have T6 := Lib.hid (T5.out.over2 k6 hR6)
       clear z6 k6 hR6))
  refine bodyPost_ret (results_row_tmp rfl (rowP8 T6.out.b2)) rfl ⟨rfl, T6.out.done⟩
end Go.Proofs.Ytgdefibkemkejaa

/- save and pointers of the program's tree. -/
namespace Go.Proofs.Ytgdefibkemkejaa
open Go.ChangeShapes Go.WideShapes Go.ChangeAt Go.RowKit
set_option linter.unusedVariables false
set_option maxRecDepth 20000

set_option maxHeartbeats 4000000 in
/-- a node is put, if it isn't empty -/
theorem tSave_ok {w : World} {g d B : Nat} {F : Nat → Prop} {m m' : PileM} {n : Nat} {q : P3} {l : P8} (h : IsPile w g d B F m) (hf : l.Fit) (hr : l.right = true) (hP : PutN m m' n l q) (hp : m.dev.pending.length ≤ 1000000000) :
    Calls Try.prog 49 #[.pointer (some ⟨g, 0, none⟩), .agg (p8L l).toArray] w fun e w' => e = .returned (.tuple #[.agg (p3L q).toArray, .int .i64 0]) ∧ PTurned w g d B F m' w' := by
  have hE := fun w => Empty_any l w
  rw [nodeEmpty_iff] at hE
  have hB := fun w => nBytes_any l w hf
  rw [secO_yes hr] at hB
  have hPut : l ≠ holesP → ∀ (W : World) (G : Nat → Prop) (x : Nat), IsPile W g d B G m → Bytes W (some ⟨x, 0, none⟩) l.sec.1 → ¬ G x → Calls Try.prog 35 #[.pointer (some ⟨g, 0, none⟩), .slice (some ⟨x, 0, none⟩) 128 128] W fun e w' => e = .returned (.tuple #[.agg (p3L q).toArray, .int .i64 0]) ∧ PTurned W g d B G m' w' := fun hne W G x hW hy hx => by
    rcases hP with ⟨e, _⟩ | ⟨_, p1⟩
    · exact absurd e hne
    · have := oPut hW (some ⟨x, 0, none⟩) l.sec.1 128 hy (fun a e => by cases e; exact hx) hp
      rw [p1.put, l.sec.2] at this
      exact this
  have hNo : l = holesP → m' = m ∧ q = p3z := fun e => by
    rcases hP with ⟨_, h1, h2⟩ | ⟨h1, _⟩
    · exact ⟨h1, h2⟩
    · exact absurd e h1
  have hE := Lib.hid hE
  have hB := Lib.hid hB
  have hPut := Lib.hid hPut
  have hNo := Lib.hid hNo
  clear hP hr hf hp
  obtain ⟨wb, hwb, T⟩ := (((CL.start h).box 66 (p8L l)).box 32 [.int .i64 0, .int .u64 0, .int .u32 0]).named
  have h := Lib.hid h
  have hz := zeroP8
  have hz2 := zeroSec
  generalize l.sec = S at *
  go_enter Try.func49, Try.ntmps49
  go_upto_region 1 with (fail)
  rw [← hwb.out]
  simp only [World.size_alloc] at T
  go_wp2_with ((with_reducible refine guardList ?_); refine wantList_load (by rfl) 66 _ rfl w.heap.size 0 (by rfl) (p8L l) _ (rangeN T.out.b1) Try.underlying66 rfl (infoP8 _) ?_)
  refine (hE.out _).mono ?_
  by_cases he : l = holesP
  · rw [decide_eq_true he]
    rintro e w2 ⟨rfl, b2⟩
    have T2 := Lib.hid (T.out.below b2)
    obtain ⟨rfl, rfl⟩ := hNo.out he
    clear b2
    go_wp2_with (first
      | ((with_reducible refine guardList ?_)
         refine wantList_store (by rfl) 32 _ _ rfl (w.heap.size + 1) 0 (by rfl) (p3L p3z) (by rfl) _ (p3L p3z) (p3L p3z) T2.out.b0 (by simp only [p3L_length]; decide) (p3L_one _) (infoPtr _) (whole_new rfl) ?_
         intro w5 hR5 k5 z5
         have T5 := Lib.hid (T2.out.over k5 hR5)
         clear z5 k5 hR5))
    refine bodyPost_ret (results_row_tmp rfl (rowPtr T5.out.b0)) rfl ⟨rfl, T5.out.done⟩
  · rw [decide_eq_false he]
    rintro e w2 ⟨rfl, b2⟩
    have T2 := Lib.hid (T.out.below b2)
    have hPut := Lib.hid (hPut.out he)
    clear b2 T
    go_wp2_with ((with_reducible refine guardList ?_); refine wantList_load (by rfl) 66 _ rfl w.heap.size 0 (by rfl) (p8L l) _ (rangeN T2.out.b1) Try.underlying66 rfl (infoP8 _) ?_)
    refine (hB.out _).mono ?_
    rintro e w3 ⟨rfl, b3⟩
    have T3 := Lib.hid (T2.out.below b3)
    have hN := Lib.hid (Blk.new w3 23 (secL sec0))
    clear b3 T2
    go_wp2_with (first
    | ((with_reducible refine guardList ?_)
       refine wantList_store (by rfl) 23 _ _ rfl w3.heap.size 0 (by rfl) (secL S) (by rfl) _ (secL sec0) (secL S) hN.out (by simp only [secL_length]; decide) (secL_one _) (infoSecL _) wholeSn ?_
       intro w4 hR4 k4 z4
       have T4 := Lib.hid (T3.out.lay k4 hR4)
       clear z4 k4 hR4))
    refine (hPut.out _ _ _ T4.out.p.at_ (secBytes T4.out.b0) T4.out.l.out).mono ?_
    rintro e w5 ⟨rfl, F5, T5⟩
    have T5 := Lib.hid (T4.out.turn T5)
    clear T4 T3
    go_wp2_with (first
    | ((with_reducible refine guardList ?_)
       refine wantList_store (by rfl) 32 _ _ rfl (w.heap.size + 1) 0 (by rfl) (p3L q) (by rfl) _ (p3L p3z) (p3L q) T5.out.b1 (by simp only [p3L_length]; decide) (p3L_one _) (infoPtr _) (whole_new rfl) ?_
       intro w6 hR6 k6 z6
       have T6 := Lib.hid (T5.out.over1 k6 hR6)
       clear z6 k6 hR6))
    refine bodyPost_ret (results_row_tmp rfl (rowPtr T6.out.b1)) rfl ⟨rfl, T6.out.done⟩

end Go.Proofs.Ytgdefibkemkejaa

/- pointers of the program's way. -/
namespace Go.Proofs.Ytgdefibkemkejaa
open Go.ChangeShapes Go.WideShapes Go.ChangeAt Go.RowKit Go.Deep
set_option linter.unusedVariables false
set_option maxRecDepth 20000

theorem YL.none (w : World) : YL w w (.slice none 0 0) [] := ⟨World.ownsRow_nil _ _ _ _, Below.refl _ _⟩
theorem rows_part (l : List P3) {k : Nat} (h : k < l.length) : ((rowsL p3L l).drop (k * 3)).take 3 = p3L (l[k]) := by
  rw [rowsL_split p3L_length l k h]
  have hl : (rowsL p3L (l.take k)).length = k * 3 := by rw [rowsL_length p3L_length, List.length_take, Nat.min_eq_left (by omega)]
  rw [List.append_assoc, ← hl, List.drop_left, List.take_left' (p3L_length _)]
theorem idx3 {l : List P3} (hl : l.length = 3) {k : Nat} (hk : k < l.length) (w : World) : Sem.run Try.prog (Instr.index 116 (.agg (rowsL p3L l).toArray) (.int .i64 (k : Int))) w = .ok (.agg (p3L (l[k])).toArray) w := by
  have hp := rows_part l hk
  have hs := sizePtr w
  rw [hl] at hk
  simp [Instr.index, run_underlying Try.underlying116, asIntOf, hk, part, hs, go_sem]
  exact hp
theorem built_3 (x y z : P3) : Try.prog.built 116 [(0, .agg (p3L x).toArray), (1, .agg (p3L y).toArray), (2, .agg (p3L z).toArray)] = some (rowsL p3L [x, y, z]).toArray := by kernel_rfl
theorem nh_step (l : List P3) {k : Nat} (hk : k < l.length) : nh (l.take (k + 1)) = nh (l.take k) ++ if (l[k]).holeB then [] else [l[k]] := by
  rw [List.take_succ_eq_append_getElem hk, nh_append]
  congr 1
  unfold nh
  cases h : (l[k]).holeB <;> simp [h]

/-- pointers that a call made, no pile beside it -/
def PL3 (w w' : World) (v : Value) (L : List P3) : Prop :=
  ∃ ao cap, v = .slice ao L.length cap ∧ Reads w' ao (rowsL p3L L) ∧ (ao = none → cap = 0) ∧ ∀ a, ao = some a → w.heap.size ≤ a.block ∧ a.block < w'.heap.size
theorem YL.pl {ws w : World} {v : Value} {ys : List P3} (h : YL ws w v ys) : PL3 ws w v ys := by
  have hc := h.own
  obtain ⟨hl, ⟨hv, hz⟩ | ⟨g, cap, cur, hv, _⟩⟩ := h.own
  · exact ⟨.none, 0, by rw [hv, hz], by rw [List.eq_nil_of_length_eq_zero hz]; exact Reads.nil _ _, fun _ => rfl, fun a e => by cases e⟩
  · refine ⟨some ⟨g, 0, .none⟩, cap, hv, fun i hi => ⟨g, 0, rfl, ?_⟩, (fun e => by cases e), fun a e => ?_⟩
    · subst hv
      rw [Nat.zero_add, World.ownsRow.cellAt hc i (by omega)]
      simp [hi]
    · cases e
      have := World.ownsRow.lt h.own g (by rw [hv]; rfl)
      exact this

set_option maxRecDepth 100000 in
set_option maxHeartbeats 4000000 in
theorem wPtrs_any (W : Way) (hi : W.i < 8) (hj : W.j < 8) (w : World) :
    Calls Try.prog 48 #[.agg (wayL W).toArray] w fun e w' => ∃ v, e = .returned v ∧ PL3 w w' v (nh [W.b.get W.j, W.a.get W.i, W.root]) ∧ Below w.heap.size w w' := by
  obtain ⟨wb, hwb, T⟩ := One.open w 68 (wayL W)
  obtain ⟨c1, c2⟩ := way_cells T.out.b0
  have hlt := T.out.b0.lt
  have hB := Lib.hid fun W' => wBlock_any W hj W'
  have hi := Lib.hid hi
  go_enter Try.func48, Try.ntmps48
  go_upto_region 1 with (fail)
  rw [← hwb.out]
  go_wp2
  refine inO_region [(0, fun w' => w'.rangeAt (w.heap.size) (0) (wayL W)), (3, fun w' => w'.cell? ⟨w.heap.size, 51, none⟩ = some (.int .i64 (W.i : Int))), (6, fun w' => w'.rangeAt (w.heap.size) (3 + W.i * 3) (p3L (W.a.get W.i))), (8, fun w' => w'.rangeAt (w.heap.size) (0) (p3L W.root))] (by kernel_rfl) (Owed.cons (rangeN T.out.b0) (Owed.cons ((way_cells T.out.b0).1) (Owed.cons (way_ak T.out.b0 hi.out) (Owed.cons (way_root T.out.b0) (Owed.nil _ _))))) ?_
  refine inO_load 0 ⟨_, _, _, _, _, _⟩ (.agg (wayL W).toArray) (fun w' => w'.rangeAt (w.heap.size) (0) (wayL W)) rfl (by kernel_rfl) (by kernel_rfl) (by kernel_rfl) (fun _ _ _ h => h) rfl (.head _) (fun ww hw => exec_load_mid _ _ (by rfl) _ _ (by rfl) _ _ hw Try.underlying68 rfl (infoWay _)) ?_
  simp only [Act.put, List.setIfInBounds_toArray, List.set_cons_zero, List.set_cons_succ]
  refine inO_take 2 ⟨_, _, _, _, _, _⟩ (.pointer (some ⟨w.heap.size, 51, none⟩)) rfl (by kernel_rfl) (by kernel_rfl) (by kernel_rfl) (fun _ _ _ h => h) rfl (fun ww => by go_simp) ?_
  simp only [Act.put, List.setIfInBounds_toArray, List.set_cons_zero, List.set_cons_succ]
  refine inO_load 3 ⟨_, _, _, _, _, _⟩ (.int .i64 (W.i : Int)) (fun w' => w'.cell? ⟨w.heap.size, 51, none⟩ = some (.int .i64 (W.i : Int))) rfl (by kernel_rfl) (by kernel_rfl) (by kernel_rfl) (fun _ _ _ h => h) rfl (.tail _ (.head _)) (fun ww hw => by go_simp) ?_
  simp only [Act.put, List.setIfInBounds_toArray, List.set_cons_zero, List.set_cons_succ]
  refine inO_take 4 ⟨_, _, _, _, _, _⟩ (.pointer (some ⟨w.heap.size, 3, none⟩)) rfl (by kernel_rfl) (by kernel_rfl) (by kernel_rfl) (fun _ _ _ h => h) rfl (fun ww => by go_simp) ?_
  simp only [Act.put, List.setIfInBounds_toArray, List.set_cons_zero, List.set_cons_succ]
  refine inO_take 5 ⟨_, _, _, _, _, _⟩ (.pointer (some ⟨w.heap.size, 3 + W.i * 3, none⟩)) rfl (by kernel_rfl) (by kernel_rfl) (by kernel_rfl) (fun _ _ _ h => h) rfl (fun ww => by go_simp; intro h; have := hi.out; omega) ?_
  simp only [Act.put, List.setIfInBounds_toArray, List.set_cons_zero, List.set_cons_succ]
  refine inO_load 6 ⟨_, _, _, _, _, _⟩ (.agg (p3L (W.a.get W.i)).toArray) (fun w' => w'.rangeAt (w.heap.size) (3 + W.i * 3) (p3L (W.a.get W.i))) rfl (by kernel_rfl) (by kernel_rfl) (by kernel_rfl) (fun _ _ _ h => h) rfl (.tail _ (.tail _ (.head _))) (fun ww hw => exec_load_mid _ _ (by rfl) _ _ (by rfl) _ _ hw Try.underlying32 rfl (infoPtr _)) ?_
  simp only [Act.put, List.setIfInBounds_toArray, List.set_cons_zero, List.set_cons_succ]
  refine inO_take 7 ⟨_, _, _, _, _, _⟩ (.pointer (some ⟨w.heap.size, 0, none⟩)) rfl (by kernel_rfl) (by kernel_rfl) (by kernel_rfl) (fun _ _ _ h => h) rfl (fun ww => by go_simp) ?_
  simp only [Act.put, List.setIfInBounds_toArray, List.set_cons_zero, List.set_cons_succ]
  refine inO_load 8 ⟨_, _, _, _, _, _⟩ (.agg (p3L W.root).toArray) (fun w' => w'.rangeAt (w.heap.size) (0) (p3L W.root)) rfl (by kernel_rfl) (by kernel_rfl) (by kernel_rfl) (fun _ _ _ h => h) rfl (.tail _ (.tail _ (.tail _ (.head _)))) (fun ww hw => exec_load_mid _ _ (by rfl) _ _ (by rfl) _ _ hw Try.underlying32 rfl (infoPtr _)) ?_
  simp only [Act.put, List.setIfInBounds_toArray, List.set_cons_zero, List.set_cons_succ]
  refine inO_take 10 ⟨_, _, _, _, _, _⟩ (.int .i64 0) rfl (by kernel_rfl) (by kernel_rfl) (by kernel_rfl) (fun _ _ _ h => h) rfl (fun ww => by go_simp) ?_
  simp only [Act.put, List.setIfInBounds_toArray, List.set_cons_zero, List.set_cons_succ]
  refine inO_step 1 ⟨_, _, _, _, _, _⟩ rfl (by kernel_rfl) rfl (fun K hK => ?_)
  refine wp_call Try.func28 (by kernel_rfl) rfl _ _ rfl _ rfl _ (hB.out _) fun e w8 R => ?_
  obtain ⟨rfl, bb⟩ := R
  have T8 := Lib.hid (T.out.drew.below bb)
  clear bb
  refine ⟨_, rfl, ?_⟩
  refine hK _ _ (Keeps.cons (fun _ => rangeN T8.out.b0) (Keeps.cons (fun _ => (way_cells T8.out.b0).1) (Keeps.cons (fun _ => way_ak T8.out.b0 hi.out) (Keeps.cons (fun _ => way_root T8.out.b0) (Keeps.nil _ _ _))))) ?_
  clear hK K
  simp only [Act.put, List.setIfInBounds_toArray, List.set_cons_zero, List.set_cons_succ]
  refine inO_take 9 ⟨_, _, _, _, _, _⟩ (.agg (rowsL p3L [W.b.get W.j, W.a.get W.i, W.root]).toArray) rfl (by kernel_rfl) (by kernel_rfl) (by kernel_rfl) (fun _ _ _ h => h) rfl (fun ww => exec_build _ _ (by rfl) _ _ (by rfl) (built_3 _ _ _) ww) ?_
  simp only [Act.put, List.setIfInBounds_toArray, List.set_cons_zero, List.set_cons_succ]
  refine inO_done (by kernel_rfl) ?_
  clear T c1 c2 hlt hwb hB
  obtain ⟨qs, hqs⟩ : ∃ qs : List P3, Hid (qs = [W.b.get W.j, W.a.get W.i, W.root]) := ⟨_, Lib.hid rfl⟩
  have hl3 : qs.length = 3 := by rw [hqs.out]; rfl
  rw [← hqs.out]
  have hx : Hid (∀ k : Nat, (hk : k < qs.length) → ∀ W : World, Sem.run Try.prog (Instr.index 116 (.agg (rowsL p3L qs).toArray) (.int .i64 (k : Int))) W = .ok (.agg (p3L (qs[k])).toArray) W) := Lib.hid fun k hk W => idx3 hl3 hk W
  have hs : Hid (∀ k : Nat, (hk : k < qs.length) → nh (qs.take (k + 1)) = nh (qs.take k) ++ if (qs[k]).holeB then [] else [qs[k]]) := Lib.hid fun k hk => nh_step qs hk
  have hz0 : Hid (nh (qs.take 0) = []) := Lib.hid rfl
  have h3 : Hid (nh (qs.take 3) = nh qs) := Lib.hid (by rw [List.take_of_length_le (by omega)])
  have q8 := Lib.hid T8.out.q
  have hl3 := Lib.hid hl3
  have hys : Hid (∀ k, (nh (qs.take k)).length ≤ 3) := Lib.hid fun k => by
    have h1 := List.length_filter_le (fun q : P3 => !q.holeB) (qs.take k)
    have h2 : (qs.take k).length ≤ 3 := by rw [List.length_take, hl3.out]; exact Nat.min_le_right _ _
    exact Nat.le_trans h1 h2
  generalize (rowsL p3L qs).toArray = L at *
  clear T8 hj
  obtain ⟨j0, hj, hy0, hy1, hy2⟩ := info_parts infoPtr4
  go_wp2
  go_loopw [3, 16] (fun v i wr => ∃ (k : Nat) (ys : List P3), k ≤ 3 ∧ i = .int .i64 k ∧ Hid (YL w8 wr v ys) ∧ Hid (nh (qs.take k) = ys))
    (fun _ i _ => 3 - (intOf i).toNat)
  case atStart => exact ⟨0, [], by omega, rfl, Lib.hid (YL.none w8), hz0⟩
  case round =>
    obtain ⟨k, ys, hk, rfl, Y, hny⟩ := hrel
    have hyl : ys.length ≤ 3 := by rw [← hny.out]; exact hys.out k
    by_cases hlt : k < 3
    · have hx0 := hx.out k (by rw [hl3.out]; exact hlt)
      have hs1 := hs.out k (by rw [hl3.out]; exact hlt)
      rw [hny.out] at hs1
      generalize qs[k]'(by rw [hl3.out]; exact hlt) = q at *
      obtain ⟨qa, qb, qs'⟩ := q
      have hx1 : ∀ W, Sem.run Try.prog (Instr.index 116 (.agg L) (.int .i64 (k : Int))) W = .ok (.agg #[.int .i64 qa, .int .u64 (qb : Int), .int .u32 (qs' : Int)]) W := hx0
      clear hx0
      have hH := Lib.hid fun W => tHole_any ⟨qa, qb, qs'⟩ W
      have Y1 := Lib.hid (Y.out.alloc (.cells #[.int .i64 qa, .int .u64 (qb : Int), .int .u32 (qs' : Int)] 32))
      have hbx := Lib.hid (Blk.new wr 32 (p3L ⟨qa, qb, qs'⟩))
      go_wp2_with fail
      refine (hH.out _).mono ?_
      rintro e w2 ⟨rfl, b2⟩
      have Y2 := Lib.hid (Y1.out.below b2)
      have bb := blk_out hbx.out b2
      have p0 : w2.cell? ⟨wr.heap.size, 0, none⟩ = some (.int .i64 qa) := bb.cell 0
      have p1 : w2.cell? ⟨wr.heap.size, 1, none⟩ = some (.int .u64 (qb : Int)) := bb.cell 1
      have p2 : w2.cell? ⟨wr.heap.size, 2, none⟩ = some (.int .u32 (qs' : Int)) := bb.cell 2
      have hlt2 := bb.lt
      clear b2 bb hbx Y1 hx1
      generalize P3.holeB ⟨qa, qb, qs'⟩ = hb at *
      cases hb
      · have hs2 : Hid (nh (qs.take (k + 1)) = ys ++ [⟨qa, qb, qs'⟩]) := Lib.hid hs1
        clear hs1
        have hsz := Lib.hid Y2.out.q.size
        go_wp2_with (at_builtin
                     refine wpList_pushN rfl _ _ 37 rfl w8.heap.size 32 j0 _ 3 24 Try.underlying37 hj hy0 hy1 hy2 rfl (by decide) u3 _ _ w2 rfl Y2.out.own 1 #[.int .i64 qa, .int .u64 (qb : Int), .int .u32 (qs' : Int)] rfl rfl (p3L_one ⟨qa, qb, qs'⟩) (by omega) (by omega) hsz.out ?_
                     intro v' w7 ho7 hg7 hv7
                     have Y7 := Lib.hid (Y2.out.push ⟨qa, qb, qs'⟩ ho7 hg7)
                     clear ho7 hg7 hv7)
        go_roundw
        case rel => exact ⟨k + 1, ys ++ [⟨qa, qb, qs'⟩], by omega, by go_num, Y7, hs2⟩
        case measure => simp [intOf] <;> omega
      · have hs2 : Hid (nh (qs.take (k + 1)) = ys) := Lib.hid (by rw [hs1, if_pos rfl, List.append_nil])
        clear hs1
        go_wp2
        go_roundw
        case rel => exact ⟨k + 1, ys, by omega, by go_num, Y2, hs2⟩
        case measure => simp [intOf] <;> omega
    · obtain rfl : k = 3 := by omega
      have hp := Y.out.pl
      have hq := q8.out.trans (Y.out.q.mono q8.out.size)
      have hsz8 := q8.out.size
      obtain ⟨ao, cap, rfl, h1, h2, h4⟩ := hp
      have hfin : ys = nh qs := by rw [← hny.out, h3.out]
      have hres : PL3 w wr (.slice ao ys.length cap) (nh qs) := by rw [← hfin]; exact ⟨ao, cap, rfl, h1, h2, fun a ha => ⟨Nat.le_trans hsz8 (h4 a ha).1, (h4 a ha).2⟩⟩
      have hres := Lib.hid hres
      have hq := Lib.hid hq
      clear h1 h2 h4 hsz8 hfin
      go_wp2
      go_ret
      rw [← hqs.out]
      exact ⟨_, rfl, hres.out, hq.out⟩
end Go.Proofs.Ytgdefibkemkejaa

/- find and lead of the program's tree. -/
namespace Go.Proofs.Ytgdefibkemkejaa
open Go.ChangeShapes Go.WideShapes Go.ChangeAt Go.RowKit
set_option linter.unusedVariables false
set_option maxRecDepth 20000

/-- the slot that a store goes through -/
def tStore (o : Oper) : Option Nat := match o.op with
  | .store _ (.tmp n) _ => some n
  | _ => none
theorem tOper (t : Nat) {P : Program} {ops : Array Oper} {rest : List Oper} {o : Oper} {a : Act} {w : World} {Q : Exit → Act → World → Prop} (hd : tStore o = some t) (h : wpList P ops Q (o :: rest) a w) : wpList P ops Q (o :: rest) a w := h
def wayZ : Way := ⟨p3z, holesP, holesP, 0, 0⟩
theorem zeroWay (w : World) : Sem.run Try.prog (zeroValue 68) w = .ok (.agg (wayL wayZ).toArray) w := by kernel_rfl
theorem builtWay (q : P3) (i j : Nat) : Try.prog.built 68 [(0, .agg (p3L q).toArray), (3, .int .i64 (i : Int)), (4, .int .i64 (j : Int))] = some (wayL ⟨q, holesP, holesP, i, j⟩).toArray := by kernel_rfl

set_option maxHeartbeats 4000000 in
theorem tFind_ok {w : World} {g d B : Nat} {F : Nat → Prop} {m : PileM} {n kk c : Nat} {t : Tree} {f : Nat → Sec} (h : IsPile w g d B F m) (hp : TP m n kk c) (ok : TreeOk m n t f) {i : Nat} (hi : i < 64) :
    Calls Try.prog 26 #[.pointer (some ⟨g, 0, none⟩), .agg (p3L t.root).toArray, .int .i64 (i : Int)] w fun e w' => ∃ m', e = .returned (.tuple #[.agg (wayL ⟨t.root, t.a, t.c (i / 8), i / 8, i % 8⟩).toArray, .int .i64 0]) ∧ TP m' n kk c ∧ Alike m m' ∧ PTurned w g d B F m' w' := by
  obtain ⟨m1, g1, p1, a1⟩ := ok.top.get hp
  have ok1 := ok.alike a1
  have hk : i / 8 < 8 := by omega
  have hj : i % 8 < 8 := by omega
  obtain ⟨m2, g2, p2, a2⟩ := (ok1.mid (i / 8) hk).get p1
  have hL1 := fun W (G : Nat → Prop) (hW : IsPile W g d B G m) => tLoad_ok hW (ok.top.right hp).2 g1 (ok.aRead hp)
  have hL2 := fun W (G : Nat → Prop) (hW : IsPile W g d B G m1) => tLoad_ok hW ((ok1.mid (i / 8) hk).right p1).2 g2 (ok1.cRead p1 hk)
  have p2 := Lib.hid p2
  have a2 := Lib.hid (a1.trans a2)
  have hL1 := Lib.hid hL1
  have hL2 := Lib.hid hL2
  clear ok1 ok p1 hp g1 g2 a1
  have hbw : Hid (Try.prog.built 68 [(0, .agg (p3L t.root).toArray), (3, .int .i64 ((i : Int) / 8)), (4, .int .i64 ((i : Int) % 8))] = some (wayL ⟨t.root, holesP, holesP, i / 8, i % 8⟩).toArray) := Lib.hid (builtWay t.root (i / 8) (i % 8))
  generalize i / 8 = k at *
  generalize i % 8 = j at *
  generalize t.c k = tc at *
  generalize t.a = ta at *
  generalize t.root = r at *
  obtain ⟨wb, hwb, T⟩ := (((CL.start h).box 32 (p3L r)).box 68 (wayL wayZ)).named
  have h := Lib.hid h
  have hz := zeroWay
  have hN := Lib.hid (Blk.new wb 68 (wayL wayZ))
  go_enter Try.func26, Try.ntmps26
  go_upto_region 1 with (fail)
  rw [← hwb.out]
  simp only [World.size_alloc] at T
  go_wp2_with (first
    | ((with_reducible refine n2Dst (some 10) (by rfl) ?_); refine wantList_load (by rfl) 32 _ rfl (w.heap.size) (0) (by rfl) (p3L (r)) _ (rangeN T.out.b1) Try.underlying32 rfl (infoPtr _) ?_)
    | ((with_reducible refine n2Dst (some 15) (by rfl) ?_); refine wantList_build (by rfl) 68 [(0, .tmp 10), (3, .tmp 12), (4, .tmp 14)] rfl (wayL (⟨r, holesP, holesP, k, j⟩)) _ (by rfl) (hbw.out) ?_)
    | ((with_reducible refine guardList ?_); refine tOper 8 (by rfl) ?_; refine wantList_store (by rfl) 68 _ _ rfl (wb.heap.size) 0 (by rfl) (wayL (⟨r, holesP, holesP, k, j⟩)) (by rfl) _ (wayL (wayZ)) (wayL (⟨r, holesP, holesP, k, j⟩)) (hN.out) (by simp only [wayL_length]; decide) (wayL_one _) (infoWay _) wholeWay ?_; intro w1 hR kk zz; have T1 := Lib.hid (T.out.lay kk hR); clear zz kk hR)
    | ((with_reducible refine n2Dst (some 18) (by rfl) ?_); refine wantList_load (by rfl) 32 _ rfl (w.heap.size) (0) (by rfl) (p3L (r)) _ (rangeN T1.out.b2) Try.underlying32 rfl (infoPtr _) ?_))
  refine (hL1.out _ _ T1.out.p.at_).mono ?_
  rintro e w2 ⟨rfl, F2, T2⟩
  have T2 := Lib.hid (T1.out.turn T2)
  clear T1 T hN
  have hsA : Hid (wayL ⟨r, ta, holesP, k, j⟩ = (wayL ⟨r, holesP, holesP, k, j⟩).take 3 ++ p8L ta ++ (wayL ⟨r, holesP, holesP, k, j⟩).drop (3 + (p8L ta).length)) := Lib.hid (way_setA (W := ⟨r, holesP, holesP, k, j⟩) ta)
  have hsB : Hid (wayL ⟨r, ta, tc, k, j⟩ = (wayL ⟨r, ta, holesP, k, j⟩).take 27 ++ p8L tc ++ (wayL ⟨r, ta, holesP, k, j⟩).drop (27 + (p8L tc).length)) := Lib.hid (way_setB (W := ⟨r, ta, holesP, k, j⟩) tc)
  go_wp2_with (first
    | ((with_reducible refine guardList ?_); refine tOper 22 (by rfl) ?_; refine wantList_store (by rfl) 66 _ _ rfl (wb.heap.size) (3) (by rfl) (p8L (ta)) (by rfl) _ (wayL (⟨r, holesP, holesP, k, j⟩)) (wayL (⟨r, ta, holesP, k, j⟩)) (T2.out.b0) (by simp only [p8L_length, wayL_length]; omega) (p8L_one _) (infoP8 _) (hsA.out) ?_; intro w3 hR kk zz; have T3 := Lib.hid (T2.out.over kk hR); have c3 : w3.cell? ⟨wb.heap.size, 51, none⟩ = some (.int .i64 (k : Int)) := (way_cells T3.out.b0).1; have hlt3 := T3.out.b0.lt; clear zz kk hR)
    | ((with_reducible refine n2Dst (some 33) (by rfl) ?_); refine wantList_load (by rfl) 32 _ rfl (wb.heap.size) (3 + k * 3) (by rfl) (p3L (ta.get k)) _ (way_ak (W := ⟨r, ta, holesP, k, j⟩) T3.out.b0 hk) Try.underlying32 rfl (infoPtr _) ?_))
  refine (hL2.out _ _ T3.out.p.at_).mono ?_
  rintro e w4 ⟨rfl, F4, T4⟩
  have T4 := Lib.hid (T3.out.turn T4)
  clear T3 T2 c3 hlt3
  go_wp2_with (first
    | ((with_reducible refine guardList ?_); refine tOper 37 (by rfl) ?_; refine wantList_store (by rfl) 66 _ _ rfl (wb.heap.size) (27) (by rfl) (p8L (tc)) (by rfl) _ (wayL (⟨r, ta, holesP, k, j⟩)) (wayL (⟨r, ta, tc, k, j⟩)) (T4.out.b0) (by simp only [p8L_length, wayL_length]; omega) (p8L_one _) (infoP8 _) (hsB.out) ?_; intro w5 hR kk zz; have T5 := Lib.hid (T4.out.over kk hR); clear zz kk hR)
    | ((with_reducible refine n2Dst (some 42) (by rfl) ?_); refine wantList_load (by rfl) 68 _ rfl (wb.heap.size) (0) (by rfl) (wayL (⟨r, ta, tc, k, j⟩)) _ (rangeN T5.out.b0) Try.underlying68 rfl (infoWay _) ?_)
    | ((with_reducible refine guardList ?_); refine tOper 6 (by rfl) ?_; refine wantList_store (by rfl) 68 _ _ rfl (w.heap.size + 1) 0 (by rfl) (wayL (⟨r, ta, tc, k, j⟩)) (by rfl) _ (wayL (wayZ)) (wayL (⟨r, ta, tc, k, j⟩)) (T5.out.b1) (by simp only [wayL_length]; decide) (wayL_one _) (infoWay _) wholeWay ?_; intro w6 hR kk zz; have T6 := Lib.hid (T5.out.over1 kk hR); clear zz kk hR))
  refine bodyPost_ret (results_row_tmp rfl (rowWay T6.out.b1)) rfl ⟨_, rfl, p2.out, a2.out, T6.out.done⟩

theorem results_row_tmp_tmp {P : Program} {fn : Func} {p q r : Tmp} {ty : TypeId} (h : fn.results = #[.cell p ty, .tmp q, .tmp r]) {tmps : Array Value} {w : World} {cs : List Value} (hr : RowRes P w ty (tmps.getD p undef) cs) :
    (results fn tmps).run P w = .ok (.tuple #[.agg cs.toArray, tmps.getD q undef, tmps.getD r undef]) w := by
  obtain ⟨a, ha, hl⟩ := hr.run
  have ha' : tmps[p]?.getD undef = .pointer (some a) := by simpa using ha
  simp [results, h, ha', asAddr, hl]

set_option maxHeartbeats 4000000 in
theorem tLead_ok {w : World} {g d B : Nat} {F : Nat → Prop} {m m1 m2 : PileM} {n : Nat} {q mid r : P3} (h : IsPile w g d B F m) (W : Way) (hi : W.i < 8) (hj : W.j < 8)
    (n1 : PutN m m1 n (W.b.set W.j q) mid) (n2 : PutN m1 m2 n (W.a.set W.i mid) r) (f1 : (W.b.set W.j q).Fit) (r1 : (W.b.set W.j q).right = true) (f2 : (W.a.set W.i mid).Fit) (r2 : (W.a.set W.i mid).right = true)
    (hp1 : m.dev.pending.length ≤ 1000000000) (hp2 : m1.dev.pending.length ≤ 1000000000) :
    Calls Try.prog 34 #[.agg (wayL W).toArray, .pointer (some ⟨g, 0, none⟩), .agg (p3L q).toArray] w fun e w' => ∃ v F', e = .returned (.tuple #[.agg (p3L r).toArray, v, .int .i64 0]) ∧ PStep w g d B F F' m2 w' ∧ LP w w' F' v (nh [W.b.get W.j, W.a.get W.i, W.root]) := by
  have hS1 := fun W' (G : Nat → Prop) (hW : IsPile W' g d B G m) => tSave_ok hW f1 r1 n1 hp1
  have hS2 := fun W' (G : Nat → Prop) (hW : IsPile W' g d B G m1) => tSave_ok hW f2 r2 n2 hp2
  have hS1 := Lib.hid hS1
  have hS2 := Lib.hid hS2
  have hP := fun W' => wPtrs_any W hi hj W'
  clear n1 n2 f1 f2 r1 r2 hp1 hp2
  generalize nh [W.b.get W.j, W.a.get W.i, W.root] = L at *
  have hP := Lib.hid hP
  have hs1 : Hid (wayL (W.setB (W.b.set W.j q)) = (wayL W).take (27 + W.j * 3) ++ p3L q ++ (wayL W).drop (27 + W.j * 3 + (p3L q).length)) := Lib.hid (way_setBk hj q)
  have hs2 : Hid (wayL ((W.setB (W.b.set W.j q)).setA (W.a.set W.i mid)) = (wayL (W.setB (W.b.set W.j q))).take (3 + W.i * 3) ++ p3L mid ++ (wayL (W.setB (W.b.set W.j q))).drop (3 + W.i * 3 + (p3L mid).length)) := Lib.hid (way_setAk (W := W.setB (W.b.set W.j q)) hi mid)
  obtain ⟨wb, hwb, T⟩ := ((((CL.start h).box 68 (wayL W)).box 32 (p3L q)).box 32 [.int .i64 0, .int .u64 0, .int .u32 0]).named
  have hzb : Hid (wb.heap.size = w.heap.size + 3) := Lib.hid (by rw [hwb.out]; simp)
  have h := Lib.hid h
  go_enter Try.func34, Try.ntmps34
  go_upto_region 1 with (fail)
  rw [← hwb.out]
  simp only [World.size_alloc] at T
  go_wp2_with (first
    | ((with_reducible refine n2Dst (some 13) (by rfl) ?_); refine wantList_load (by rfl) 68 _ rfl (w.heap.size) (0) (by rfl) (wayL (W)) _ (rangeN T.out.b2) Try.underlying68 rfl (infoWay _) ?_))
  refine (hP.out _).mono ?_
  rintro e w2 ⟨v2, rfl, hpl, b2⟩
  obtain ⟨ao, cap, rfl, hrd, hnil, hab⟩ := hpl
  have lst2 : Hid (Lst w2 F (w.heap.size + 2) ao (rowsL p3L L)) := Lib.hid ⟨hrd, fun a ha => ⟨(hab a ha).2, fun hf => by have h1 := (hab a ha).1; have h2 := hzb.out; have h3 := h.out.lt _ hf; omega, by have h1 := (hab a ha).1; have h2 := hzb.out; omega⟩⟩
  have T2 := Lib.hid (T.out.below b2)
  have hnil := Lib.hid hnil
  clear hab hrd b2 T
  have c2 : w2.cell? ⟨w.heap.size, 52, none⟩ = some (.int .i64 (W.j : Int)) := (way_cells T2.out.b2).2
  have hlt2 := T2.out.b2.lt
  go_wp2_with (first
    | ((with_reducible refine n2Dst (some 17) (by rfl) ?_); refine wantList_load (by rfl) 32 _ rfl (w.heap.size + 1) (0) (by rfl) (p3L (q)) _ (rangeN T2.out.b1) Try.underlying32 rfl (infoPtr _) ?_)
    | ((with_reducible refine guardList ?_); refine tOper 19 (by rfl) ?_; refine wantList_store (by rfl) 32 _ _ rfl (w.heap.size) (27 + W.j * 3) (by rfl) (p3L (q)) (by rfl) _ (wayL (W)) (wayL (W.setB (W.b.set W.j q))) (T2.out.b2) (by simp only [p3L_length, wayL_length]; omega) (p3L_one _) (infoPtr _) (hs1.out) ?_; intro w3 hR kk zz; have T3 := Lib.hid (T2.out.over2 kk hR); have lst3 := Lib.hid (lst2.out.over kk (.inl (by omega))); clear zz kk hR)
    | ((with_reducible refine n2Dst (some 23) (by rfl) ?_); refine wantList_load (by rfl) 66 _ rfl (w.heap.size) (27) (by rfl) (p8L (W.b.set W.j q)) _ (way_b T3.out.b2) Try.underlying66 rfl (infoP8 _) ?_))
  refine (hS1.out _ _ T3.out.p.at_).mono ?_
  rintro e w4 ⟨rfl, F4, S4⟩
  have T4 := Lib.hid (T3.out.turn S4)
  have lst4 := Lib.hid (lst3.out.turn S4.kept S4.grows)
  have hN := Lib.hid (Blk.new w4 32 (p3L p3z))
  clear S4 T3 T2 lst2 lst3 c2 hlt2
  go_wp2_with (first
    | ((with_reducible refine guardList ?_); refine tOper 10 (by rfl) ?_; refine wantList_store (by rfl) 32 _ _ rfl (w4.heap.size) 0 (by rfl) (p3L (mid)) (by rfl) _ (p3L (p3z)) (p3L (mid)) (hN.out) (by simp only [p3L_length]; decide) (p3L_one _) (infoPtr _) (whole_new rfl) ?_; intro w5 hR kk zz; have T5 := Lib.hid (T4.out.lay kk hR); have lst5 := Lib.hid ((lst4.out.alloc _).over kk (.inr (.inr fun a ha => Nat.ne_of_lt (lst4.out.out a ha).1))); have c5 : w5.cell? ⟨w.heap.size, 51, none⟩ = some (.int .i64 (W.i : Int)) := (way_cells T5.out.b3).1; have hlt5 := T5.out.b3.lt; clear zz kk hR)
    | ((with_reducible refine n2Dst (some 34) (by rfl) ?_); refine wantList_load (by rfl) 32 _ rfl (w4.heap.size) (0) (by rfl) (p3L (mid)) _ (rangeN T5.out.b0) Try.underlying32 rfl (infoPtr _) ?_)
    | ((with_reducible refine guardList ?_); refine tOper 36 (by rfl) ?_; refine wantList_store (by rfl) 32 _ _ rfl (w.heap.size) (3 + W.i * 3) (by rfl) (p3L (mid)) (by rfl) _ (wayL (W.setB (W.b.set W.j q))) (wayL ((W.setB (W.b.set W.j q)).setA (W.a.set W.i mid))) (T5.out.b3) (by simp only [p3L_length, wayL_length]; omega) (p3L_one _) (infoPtr _) (hs2.out) ?_; intro w6 hR kk zz; have T6 := Lib.hid (T5.out.over3 kk hR); have lst6 := Lib.hid (lst5.out.over kk (.inl (by omega))); clear zz kk hR)
    | ((with_reducible refine n2Dst (some 40) (by rfl) ?_); refine wantList_load (by rfl) 66 _ rfl (w.heap.size) (3) (by rfl) (p8L (W.a.set W.i mid)) _ (way_a T6.out.b3) Try.underlying66 rfl (infoP8 _) ?_))
  refine (hS2.out _ _ T6.out.p.at_).mono ?_
  rintro e w7 ⟨rfl, F7, S7⟩
  have T7 := Lib.hid (T6.out.turn S7)
  have lst7 := Lib.hid (lst6.out.turn S7.kept S7.grows)
  have hN := Lib.hid (Blk.new w7 32 (p3L p3z))
  clear S7 T4 T5 T6 lst4 lst5 lst6 c5 hlt5
  go_wp2_with (first
    | ((with_reducible refine guardList ?_); refine tOper 12 (by rfl) ?_; refine wantList_store (by rfl) 32 _ _ rfl (w7.heap.size) 0 (by rfl) (p3L (r)) (by rfl) _ (p3L (p3z)) (p3L (r)) (hN.out) (by simp only [p3L_length]; decide) (p3L_one _) (infoPtr _) (whole_new rfl) ?_; intro w8 hR kk zz; have T8 := Lib.hid (T7.out.lay kk hR); have lst8 := Lib.hid ((lst7.out.alloc _).over kk (.inr (.inr fun a ha => Nat.ne_of_lt (lst7.out.out a ha).1))); clear zz kk hR)
    | ((with_reducible refine n2Dst (some 49) (by rfl) ?_); refine wantList_load (by rfl) 32 _ rfl (w7.heap.size) (0) (by rfl) (p3L (r)) _ (rangeN T8.out.b0) Try.underlying32 rfl (infoPtr _) ?_)
    | ((with_reducible refine guardList ?_); refine tOper 6 (by rfl) ?_; refine wantList_store (by rfl) 32 _ _ rfl (w.heap.size + 2) 0 (by rfl) (p3L (r)) (by rfl) _ (p3L (p3z)) (p3L (r)) (T8.out.b2) (by simp only [p3L_length]; decide) (p3L_one _) (infoPtr _) (whole_new rfl) ?_; intro w9 hR kk zz; have T9 := Lib.hid (T8.out.over2 kk hR); have lst9 := Lib.hid (lst8.out.over kk (.inl (by omega))); clear zz kk hR))
  refine bodyPost_ret (results_row_tmp_tmp rfl (rowPtr T9.out.b2)) rfl ⟨_, _, rfl, T9.out.p, ao, cap, rfl, lst9.out.reads, hnil.out, fun a ha => ?_⟩
  have h1 := lst9.out.out a ha
  exact ⟨by omega, h1.1, h1.2.1⟩
end Go.Proofs.Ytgdefibkemkejaa

/- Get, Set and Trim of the program's tree. -/
namespace Go.Proofs.Ytgdefibkemkejaa
open Go.ChangeShapes Go.WideShapes Go.ChangeAt Go.RowKit
set_option linter.unusedVariables false
set_option maxRecDepth 20000

theorem has_yes {i : Nat} (h : i < 64) (W : World) : Calls Try.prog 25 #[.int .i64 (i : Int)] W fun e w' => e = .returned (.bool true) ∧ w' = W := by
  have := tHas_any (i : Int) W
  rw [decide_eq_true (show 0 ≤ (i : Int) ∧ (i : Int) < 64 from ⟨by omega, by omega⟩)] at this
  exact this
theorem has_no {i : Int} (h : ¬ (0 ≤ i ∧ i < 64)) (W : World) : Calls Try.prog 25 #[.int .i64 i] W fun e w' => e = .returned (.bool false) ∧ w' = W := by
  have := tHas_any i W
  rw [decide_eq_false h] at this
  exact this
theorem right_set {l : P8} (hl : l.right = true) {q : P3} (hq : q.rightB = true) {k : Nat} : (l.set k q).right = true := by
  unfold P8.right nodeRight at *
  refine List.all_eq_true.2 fun x hx => ?_
  rcases List.mem_or_eq_of_mem_set hx with hx | hx
  · exact List.all_eq_true.1 hl x hx
  · rw [hx]; exact hq
theorem bytes_on {w w' : World} {g d B : Nat} {F F' : Nat → Prop} {m' : PileM} {ao : Option Addr} {bs : List UInt8} (hb : Bytes w ao bs) (hF : ∀ a, ao = some a → ¬ F a.block) (p : PStep w g d B F F' m' w') : Bytes w' ao bs ∧ ∀ W, Kept F' w' W → Bytes W ao bs := by
  have h1 : Bytes w' ao bs := hb.keptF p.kept hF
  refine ⟨h1, fun W k => ?_⟩
  cases bs with
  | nil => exact Reads.nil _ _
  | cons x r => exact h1.keptF k fun a ha => p.not (hF a ha) (Reads.lt hb 0 (by simp [bytesV]) a ha)
theorem LP.none {w w' : World} {F' : Nat → Prop} : LP w w' F' (.slice none 0 0) [] := ⟨.none, 0, rfl, Reads.nil _ _, fun _ => rfl, fun a e => by cases e⟩
theorem LP.up {w w1 w' : World} {F' : Nat → Prop} {v : Value} {L : List P3} (h : LP w1 w' F' v L) (hs : w.heap.size ≤ w1.heap.size) : LP w w' F' v L := by
  obtain ⟨ao, cap, h1, h2, h3, h4⟩ := h
  exact ⟨ao, cap, h1, h2, h3, fun a ha => ⟨Nat.le_trans hs (h4 a ha).1, (h4 a ha).2⟩⟩
/-- a block of the call's own is overwritten that the list doesn't lie in -/
theorem LP.over {w1 w' w'' : World} {F' : Nat → Prop} {v : Value} {L : List P3} (h : LP w1 w' F' v L) {x : Nat} (k : Kept (· = x) w' w'') (hx : x < w1.heap.size) : LP w1 w'' F' v L := by
  obtain ⟨ao, cap, h1, h2, h3, h4⟩ := h
  exact ⟨ao, cap, h1, Reads.keptF h2 k (fun a ha e => by have := (h4 a ha).1; omega), h3, fun a ha => ⟨(h4 a ha).1, Nat.lt_of_lt_of_le (h4 a ha).2.1 k.size, (h4 a ha).2.2⟩⟩

set_option maxHeartbeats 4000000 in
theorem tGet_no {w : World} {g d B : Nat} {F : Nat → Prop} {m : PileM} (h : IsPile w g d B F m) (r : P3) (i : Int) (hi : ¬ (0 ≤ i ∧ i < 64)) :
    Calls Try.prog 8 #[.pointer (some ⟨g, 0, none⟩), .agg (p3L r).toArray, .int .i64 i] w fun e w' => e = .returned (.tuple #[.agg (secL sec0).toArray, .int .i64 111]) ∧ PTurned w g d B F m w' := by
  obtain ⟨wb, hwb, T⟩ := (((CL.start h).box 32 (p3L r)).box 23 (secL sec0)).named
  have h := Lib.hid h
  have hz := zeroSec
  have hh := Lib.hid fun W => has_no hi W
  clear hi
  go_enter Try.func8, Try.ntmps8
  go_upto_region 1 with (fail)
  rw [← hwb.out]
  simp only [World.size_alloc] at T
  go_wp2_with fail
  refine (hh.out _).mono ?_
  rintro e w1 ⟨rfl, rfl⟩
  go_wp2_with (first
    | ((with_reducible refine n2Dst (some 13) (by rfl) ?_); refine wantList_build (by rfl) 23 [] rfl (secL sec0) _ (by rfl) built_sec0 ?_)
    | ((with_reducible refine guardList ?_); refine tOper 6 (by rfl) ?_; refine wantList_store (by rfl) 23 _ _ rfl (w.heap.size + 1) 0 (by rfl) (secL (sec0)) (by rfl) _ (secL (sec0)) (secL (sec0)) (T.out.b0) (by simp only [secL_length]; decide) (secL_one _) (infoSecL _) wholeSn ?_; intro w2 hR kk zz; have T2 := Lib.hid (T.out.over kk hR); clear zz kk hR))
  refine bodyPost_ret (results_row_tmp rfl (rowSn T2.out.b0)) rfl ⟨rfl, T2.out.done⟩

set_option maxHeartbeats 4000000 in
theorem tGet_in {w : World} {g d B : Nat} {F : Nat → Prop} {m : PileM} {n kk c : Nat} {t : Tree} {f : Nat → Sec} (h : IsPile w g d B F m) (hp : TP m n kk c) (ok : TreeOk m n t f) {i : Nat} (hi : i < 64) :
    Calls Try.prog 8 #[.pointer (some ⟨g, 0, none⟩), .agg (p3L t.root).toArray, .int .i64 (i : Int)] w fun e w' => ∃ m', e = .returned (.tuple #[.agg (secL (f i)).toArray, .int .i64 0]) ∧ TP m' n kk c ∧ Alike m m' ∧ PTurned w g d B F m' w' := by
  have hh := Lib.hid fun W => has_yes hi W
  have hF := Lib.hid fun W (G : Nat → Prop) (hW : IsPile W g d B G m) => tFind_ok hW hp ok hi
  have hg : Hid (∀ m1, Alike m m1 → TP m1 n kk c → ∃ m2, (∀ W (G : Nat → Prop), IsPile W g d B G m1 → Calls Try.prog 27 #[.pointer (some ⟨g, 0, none⟩), .agg (p3L (t.leaf i)).toArray] W fun e w' => e = .returned (.tuple #[.agg (secL (f i)).toArray, .int .i64 0]) ∧ PTurned W g d B G m2 w') ∧ TP m2 n kk c ∧ Alike m1 m2) := Lib.hid fun m1 a1 p1 => by
    obtain ⟨m2, e2, p2, a2⟩ := ((ok.alike a1).leaf i hi).get p1
    refine ⟨m2, fun W G hW => ?_, p2, a2⟩
    have := oGet hW (t.leaf i) (((ok.alike a1).leaf i hi).right p1).2
    rw [e2] at this
    exact this
  have hlf : (t.c (i / 8)).get (i % 8) = t.leaf i := rfl
  have hj : i % 8 < 8 := by omega
  clear ok hp hi
  generalize i / 8 = k at *
  generalize i % 8 = j at *
  generalize t.leaf i = lf at *
  generalize f i = S at *
  have hW := Lib.hid fun w => wBlock_any ⟨t.root, t.a, t.c k, k, j⟩ hj w
  dsimp only at hW
  rw [hlf] at hW
  clear hlf
  generalize t.c k = tc at *
  generalize t.a = ta at *
  generalize t.root = r at *
  obtain ⟨wb, hwb, T⟩ := (((CL.start h).box 32 (p3L r)).box 23 (secL sec0)).named
  have h := Lib.hid h
  have hz := zeroSec
  have hz2 := zeroWay
  go_enter Try.func8, Try.ntmps8
  go_upto_region 1 with (fail)
  rw [← hwb.out]
  simp only [World.size_alloc] at T
  go_wp2_with fail
  refine (hh.out _).mono ?_
  rintro e w1 ⟨rfl, rfl⟩
  go_wp2_with (first
    | ((with_reducible refine n2Dst (some 16) (by rfl) ?_); refine wantList_load (by rfl) 32 _ rfl (w.heap.size) (0) (by rfl) (p3L (r)) _ (rangeN T.out.b1) Try.underlying32 rfl (infoPtr _) ?_))
  refine (hF.out _ _ T.out.p.at_).mono ?_
  rintro e w2 ⟨m1, rfl, p1, a1, F2, T2⟩
  have T2 := Lib.hid (T.out.turn T2)
  obtain ⟨m2, hG, p2, a2⟩ := hg.out m1 a1 p1
  have hG := Lib.hid hG
  have p2 := Lib.hid p2
  have a2 := Lib.hid (a1.trans a2)
  have hN := Lib.hid (Blk.new w2 68 (wayL wayZ))
  clear p1 a1 T hF hg
  go_wp2_with (first
    | ((with_reducible refine guardList ?_); refine tOper 8 (by rfl) ?_; refine wantList_store (by rfl) 68 _ _ rfl (w2.heap.size) 0 (by rfl) (wayL (⟨r, ta, tc, k, j⟩)) (by rfl) _ (wayL (wayZ)) (wayL (⟨r, ta, tc, k, j⟩)) (hN.out) (by simp only [wayL_length]; decide) (wayL_one _) (infoWay _) wholeWay ?_; intro w3 hR kk zz; have T3 := Lib.hid (T2.out.lay kk hR); clear zz kk hR)
    | ((with_reducible refine n2Dst (some 26) (by rfl) ?_); refine wantList_load (by rfl) 68 _ rfl (w2.heap.size) (0) (by rfl) (wayL (⟨r, ta, tc, k, j⟩)) _ (rangeN T3.out.b0) Try.underlying68 rfl (infoWay _) ?_))
  refine (hW.out _).mono ?_
  rintro e w4 ⟨rfl, b4⟩
  have T4 := Lib.hid (T3.out.below b4)
  clear b4 T3 T2 hN
  go_wp2_with fail
  refine (hG.out _ _ T4.out.p.at_).mono ?_
  rintro e w5 ⟨rfl, F5, T5⟩
  have T5 := Lib.hid (T4.out.turn T5)
  go_wp2_with (first
    | ((with_reducible refine guardList ?_); refine tOper 6 (by rfl) ?_; refine wantList_store (by rfl) 23 _ _ rfl (w.heap.size + 1) 0 (by rfl) (secL (S)) (by rfl) _ (secL (sec0)) (secL (S)) (T5.out.b1) (by simp only [secL_length]; decide) (secL_one _) (infoSecL _) wholeSn ?_; intro w6 hR kk zz; have T6 := Lib.hid (T5.out.over1 kk hR); clear zz kk hR))
  refine bodyPost_ret (results_row_tmp rfl (rowSn T6.out.b1)) rfl ⟨_, rfl, p2.out, a2.out, T6.out.done⟩
end Go.Proofs.Ytgdefibkemkejaa

/- Set and Trim of the program's tree. -/
namespace Go.Proofs.Ytgdefibkemkejaa
open Go.ChangeShapes Go.WideShapes Go.ChangeAt Go.RowKit
set_option linter.unusedVariables false
set_option maxRecDepth 20000

set_option maxHeartbeats 4000000 in
theorem tSet_no {w : World} {g d B : Nat} {F : Nat → Prop} {m : PileM} (h : IsPile w g d B F m) (r : P3) (i : Int) (hi : ¬ (0 ≤ i ∧ i < 64)) (ao : Option Addr) (n cap : Nat) :
    Calls Try.prog 12 #[.pointer (some ⟨g, 0, none⟩), .agg (p3L r).toArray, .int .i64 i, .slice ao n cap] w fun e w' => ∃ F', e = .returned (.tuple #[.agg (p3L r).toArray, .slice none 0 0, .int .i64 111]) ∧ PStep w g d B F F' m w' := by
  have hh := Lib.hid fun W => has_no hi W
  clear hi
  obtain ⟨wb, hwb, T⟩ := (((CL.start h).box 32 (p3L r)).box 32 [.int .i64 0, .int .u64 0, .int .u32 0]).named
  have h := Lib.hid h
  have hz2 := zeroWay
  go_enter Try.func12, Try.ntmps12
  go_upto_region 1 with (fail)
  rw [← hwb.out]
  simp only [World.size_alloc] at T
  go_wp2_with fail
  refine (hh.out _).mono ?_
  rintro e w1 ⟨rfl, rfl⟩
  go_wp2_with (first
    | ((with_reducible refine n2Dst (some 17) (by rfl) ?_); refine wantList_load (by rfl) 32 _ rfl (w.heap.size) (0) (by rfl) (p3L (r)) _ (rangeN T.out.b1) Try.underlying32 rfl (infoPtr _) ?_)
    | ((with_reducible refine guardList ?_); refine tOper 8 (by rfl) ?_; refine wantList_store (by rfl) 32 _ _ rfl (w.heap.size + 1) 0 (by rfl) (p3L (r)) (by rfl) _ (p3L (p3z)) (p3L (r)) (T.out.b0) (by simp only [p3L_length]; decide) (p3L_one _) (infoPtr _) (whole_new rfl) ?_; intro w2 hR kk zz; have T2 := Lib.hid (T.out.over kk hR); clear zz kk hR))
  refine bodyPost_ret (results_row_tmp_tmp rfl (rowPtr T2.out.b0)) rfl ⟨_, rfl, T2.out.p⟩

set_option maxHeartbeats 4000000 in
theorem tSet_long {w : World} {g d B : Nat} {F : Nat → Prop} {m : PileM} (h : IsPile w g d B F m) (r : P3) {i : Nat} (hi : i < 64) (ao : Option Addr) (n cap : Nat) (hn : 128 < n) :
    Calls Try.prog 12 #[.pointer (some ⟨g, 0, none⟩), .agg (p3L r).toArray, .int .i64 (i : Int), .slice ao n cap] w fun e w' => ∃ F', e = .returned (.tuple #[.agg (p3L r).toArray, .slice none 0 0, .int .i64 92]) ∧ PStep w g d B F F' m w' := by
  have hh := Lib.hid fun W => has_yes hi W
  have hd : decide ((128 : Int) < (n : Int)) = true := decide_eq_true (by omega)
  clear hi
  obtain ⟨wb, hwb, T⟩ := (((CL.start h).box 32 (p3L r)).box 32 [.int .i64 0, .int .u64 0, .int .u32 0]).named
  have h := Lib.hid h
  have hz2 := zeroWay
  go_enter Try.func12, Try.ntmps12
  go_upto_region 1 with (fail)
  rw [← hwb.out]
  simp only [World.size_alloc] at T
  go_wp2_with fail
  refine (hh.out _).mono ?_
  rintro e w1 ⟨rfl, rfl⟩
  go_wp2_with (first
    | ((with_reducible refine n2Dst (some 21) (by rfl) ?_); refine wantList_load (by rfl) 32 _ rfl (w.heap.size) (0) (by rfl) (p3L (r)) _ (rangeN T.out.b1) Try.underlying32 rfl (infoPtr _) ?_)
    | ((with_reducible refine guardList ?_); refine tOper 8 (by rfl) ?_; refine wantList_store (by rfl) 32 _ _ rfl (w.heap.size + 1) 0 (by rfl) (p3L (r)) (by rfl) _ (p3L (p3z)) (p3L (r)) (T.out.b0) (by simp only [p3L_length]; decide) (p3L_one _) (infoPtr _) (whole_new rfl) ?_; intro w2 hR kk zz; have T2 := Lib.hid (T.out.over kk hR); clear zz kk hR))
  refine bodyPost_ret (results_row_tmp_tmp rfl (rowPtr T2.out.b0)) rfl ⟨_, rfl, T2.out.p⟩

set_option maxHeartbeats 4000000 in
theorem tTrim_no {w : World} {g d B : Nat} {F : Nat → Prop} {m : PileM} (h : IsPile w g d B F m) (r : P3) (i : Int) (hi : ¬ (0 ≤ i ∧ i < 64)) :
    Calls Try.prog 11 #[.pointer (some ⟨g, 0, none⟩), .agg (p3L r).toArray, .int .i64 i] w fun e w' => ∃ F', e = .returned (.tuple #[.agg (p3L r).toArray, .slice none 0 0, .int .i64 111]) ∧ PStep w g d B F F' m w' := by
  have hh := Lib.hid fun W => has_no hi W
  clear hi
  obtain ⟨wb, hwb, T⟩ := (((CL.start h).box 32 (p3L r)).box 32 [.int .i64 0, .int .u64 0, .int .u32 0]).named
  have h := Lib.hid h
  have hz2 := zeroWay
  go_enter Try.func11, Try.ntmps11
  go_upto_region 1 with (fail)
  rw [← hwb.out]
  simp only [World.size_alloc] at T
  go_wp2_with fail
  refine (hh.out _).mono ?_
  rintro e w1 ⟨rfl, rfl⟩
  go_wp2_with (first
    | ((with_reducible refine n2Dst (some 14) (by rfl) ?_); refine wantList_load (by rfl) 32 _ rfl (w.heap.size) (0) (by rfl) (p3L (r)) _ (rangeN T.out.b1) Try.underlying32 rfl (infoPtr _) ?_)
    | ((with_reducible refine guardList ?_); refine tOper 6 (by rfl) ?_; refine wantList_store (by rfl) 32 _ _ rfl (w.heap.size + 1) 0 (by rfl) (p3L (r)) (by rfl) _ (p3L (p3z)) (p3L (r)) (T.out.b0) (by simp only [p3L_length]; decide) (p3L_one _) (infoPtr _) (whole_new rfl) ?_; intro w2 hR kk zz; have T2 := Lib.hid (T.out.over kk hR); clear zz kk hR))
  refine bodyPost_ret (results_row_tmp_tmp rfl (rowPtr T2.out.b0)) rfl ⟨_, rfl, T2.out.p⟩

set_option maxHeartbeats 8000000 in
theorem tSet_ok {w : World} {g d B : Nat} {F : Nat → Prop} {m : PileM} {n kk c : Nat} {t : Tree} {f : Nat → Sec} (h : IsPile w g d B F m) (hp : TP m n kk c) (hkk : kk ≤ 100000) (ok : TreeOk m n t f) {i : Nat} (hi : i < 64) (ao : Option Addr) (bs : List UInt8) (cap : Nat) (hb : Bytes w ao bs) (hbF : ∀ a, ao = some a → ¬ F a.block) (hc : 3 ≤ c) (hl : bs.length ≤ 128) :
    Calls Try.prog 12 #[.pointer (some ⟨g, 0, none⟩), .agg (p3L t.root).toArray, .int .i64 (i : Int), .slice ao bs.length cap] w fun e w' => ∃ m' t' q v F', e = .returned (.tuple #[.agg (p3L t'.root).toArray, v, .int .i64 0]) ∧ TP m' n (kk + 3) (c - 3) ∧ TStep m m' n t t' (i / 8) (i % 8) q c (c - 3) f (blockS bs) ∧ q ≠ p3z ∧ PStep w g d B F F' m' w' ∧ LP w w' F' v (t.old (i / 8) (i % 8)) := by
  have hh := Lib.hid fun W => has_yes hi W
  have hF := Lib.hid fun W (G : Nat → Prop) (hW : IsPile W g d B G m) => tFind_ok hW hp ok hi
  have hk : i / 8 < 8 := by omega
  have hj : i % 8 < 8 := by omega
  have plain : Hid (∀ m1, Alike m m1 → TP m1 n kk c → ∃ m2 m3 m4 q mid r', countN m1.map = c ∧ (∀ W (G : Nat → Prop), IsPile W g d B G m1 → Bytes W ao bs → (∀ W', Kept G W W' → Bytes W' ao bs) → Calls Try.prog 35 #[.pointer (some ⟨g, 0, none⟩), .slice ao bs.length cap] W fun e w' => e = .returned (.tuple #[.agg (p3L q).toArray, .int .i64 0]) ∧ PTurned W g d B G m2 w') ∧
      (∀ W (G : Nat → Prop), IsPile W g d B G m2 → Calls Try.prog 34 #[.agg (wayL ⟨t.root, t.a, t.c (i / 8), i / 8, i % 8⟩).toArray, .pointer (some ⟨g, 0, none⟩), .agg (p3L q).toArray] W fun e w' => ∃ v F', e = .returned (.tuple #[.agg (p3L r').toArray, v, .int .i64 0]) ∧ PStep W g d B G F' m4 w' ∧ LP W w' F' v (t.old (i / 8) (i % 8))) ∧
      TP m4 n (kk + 3) (c - 3) ∧ TStep m m4 n t (t.turn (i / 8) (i % 8) q mid r') (i / 8) (i % 8) q c (c - 3) f (blockS bs) ∧ q ≠ p3z) := Lib.hid fun m1 a1 hp1 => by
    have ok1 := ok.alike a1
    obtain ⟨m2, q, P1, hp2⟩ := hp1.put (bs := bs) (by omega) hl
    have hq := P1.new hp1
    have hqn := P1.ne hp1
    have l1 := set_ne (l := t.c (i / 8)) hj hqn
    obtain ⟨m3, mid, P2, hp3⟩ := hp2.put (bs := ((t.c (i / 8)).set (i % 8) q).sec.1) (by omega) (by rw [((t.c (i / 8)).set (i % 8) q).sec.2]; exact Nat.le_refl _)
    have hmid := P2.new hp2
    have hmn := P2.ne hp2
    have l2 := set_ne (l := t.a) hk hmn
    obtain ⟨m4, r', P3', hp4⟩ := hp3.put (bs := (t.a.set (i / 8) mid).sec.1) (by omega) (by rw [(t.a.set (i / 8) mid).sec.2]; exact Nat.le_refl _)
    have S := TStep.of_set (k3 := 0) ok1 hp1 hc hk hj P1 hp2 P2 hp3 P3'
    refine ⟨m2, m3, m4, q, mid, r', hp1.cnt, fun W G hW hB hBk => ?_, fun W G hW => ?_, ?_, ?_, hqn⟩
    · have := oPutK hW ao bs cap hB hBk (by have := hp1.live.pend; omega)
      rw [P1.put] at this
      exact this
    · have c1 := ok1.cR hp1 hk
      have c2 := ok1.aR hp1
      exact tLead_ok hW ⟨t.root, t.a, t.c (i / 8), i / 8, i % 8⟩ hk hj (.inr ⟨l1, P2⟩) (.inr ⟨l2, P3'⟩) (P8.set_fit c1.2 _ (hq.right hp2).2) (right_set c1.1 (hq.right hp2).1) (P8.set_fit c2.2 _ (hmid.right hp3).2) (right_set c2.1 (hmid.right hp3).1) (by have := hp2.live.pend; omega) (by have := hp3.live.pend; omega)
    · have e : c - 1 - 1 - 1 = c - 3 := by omega
      rw [← e]; exact hp4
    · have e : c - 1 - 1 - 1 = c - 3 := by omega
      rw [← e]
      exact S.later a1
  have hd : decide ((128 : Int) < (bs.length : Int)) = false := decide_eq_false (by omega)
  have hc3 : decide ((c : Int) < 3) = false := decide_eq_false (by omega)
  clear ok hp hi hkk hc hl
  generalize t.old (i / 8) (i % 8) = OL at *
  obtain ⟨ta, hta⟩ : ∃ ta, Hid (ta = t.a) := ⟨_, Lib.hid rfl⟩
  obtain ⟨tc, htc⟩ : ∃ tc, Hid (tc = t.c (i / 8)) := ⟨_, Lib.hid rfl⟩
  obtain ⟨r, hrt⟩ : ∃ r, Hid (r = t.root) := ⟨_, Lib.hid rfl⟩
  rw [← hta.out, ← htc.out, ← hrt.out] at hF plain
  rw [← hrt.out]
  generalize i / 8 = k at *
  generalize i % 8 = j at *
  obtain ⟨ln, hln⟩ : ∃ ln, Hid (bs.length = ln) := ⟨_, Lib.hid rfl⟩
  rw [hln.out] at plain hd ⊢
  have hb := Lib.hid hb
  have hbF := Lib.hid hbF
  clear hta htc hrt hln
  obtain ⟨wb, hwb, T⟩ := (((CL.start h).box 32 (p3L r)).box 32 [.int .i64 0, .int .u64 0, .int .u32 0]).named
  have h := Lib.hid h
  have hz2 := zeroWay
  go_enter Try.func12, Try.ntmps12
  go_upto_region 1 with (fail)
  rw [← hwb.out]
  simp only [World.size_alloc] at T
  go_wp2_with fail
  refine (hh.out _).mono ?_
  rintro e w1 ⟨rfl, rfl⟩
  go_wp2_with (first
    | ((with_reducible refine n2Dst (some 24) (by rfl) ?_); refine wantList_load (by rfl) 32 _ rfl (w.heap.size) (0) (by rfl) (p3L (r)) _ (rangeN T.out.b1) Try.underlying32 rfl (infoPtr _) ?_))
  refine (hF.out _ _ T.out.p.at_).mono ?_
  rintro e w2 ⟨m1, rfl, p1, a1, F2, T2⟩
  have T2 := Lib.hid (T.out.turn T2)
  obtain ⟨m2, m3, m4, q, mid, r', hcn, hP, hL, p4, S4, hqn⟩ := plain.out m1 a1 p1
  have hcn := Lib.hid hcn
  have hP := Lib.hid hP
  have hL := Lib.hid hL
  have p4 := Lib.hid p4
  have S4 := Lib.hid S4
  have hqn := Lib.hid hqn
  have hN := Lib.hid (Blk.new w2 68 (wayL wayZ))
  clear p1 a1 T hF plain hh
  go_wp2_with (first
    | ((with_reducible refine guardList ?_); refine tOper 11 (by rfl) ?_; refine wantList_store (by rfl) 68 _ _ rfl (w2.heap.size) 0 (by rfl) (wayL (⟨r, ta, tc, k, j⟩)) (by rfl) _ (wayL (wayZ)) (wayL (⟨r, ta, tc, k, j⟩)) (hN.out) (by simp only [wayL_length]; decide) (wayL_one _) (infoWay _) wholeWay ?_; intro w3 hR kk zz; have T3 := Lib.hid (T2.out.lay kk hR); clear zz kk hR))
  refine (oMap T3.out.p.at_).mono ?_
  rintro e w4 ⟨rfl, rfl⟩
  go_wp2_with fail
  refine (oCount T3.out.p.at_).mono ?_
  rw [hcn.out]
  rintro e w4 ⟨rfl, rfl⟩
  clear T2 hN
  go_wp2_with fail
  refine (hP.out _ _ T3.out.p.at_ (bytes_on hb.out hbF.out T3.out.p).1 (bytes_on hb.out hbF.out T3.out.p).2).mono ?_
  rintro e w5 ⟨rfl, F5, T5⟩
  have T5 := Lib.hid (T3.out.turn T5)
  have hN := Lib.hid (Blk.new w5 32 (p3L p3z))
  clear T3
  go_wp2_with (first
    | ((with_reducible refine guardList ?_); refine tOper 13 (by rfl) ?_; refine wantList_store (by rfl) 32 _ _ rfl (w5.heap.size) 0 (by rfl) (p3L (q)) (by rfl) _ (p3L (p3z)) (p3L (q)) (hN.out) (by simp only [p3L_length]; decide) (p3L_one _) (infoPtr _) (whole_new rfl) ?_; intro w6 hR kk zz; have T6 := Lib.hid (T5.out.lay kk hR); clear zz kk hR)
    | ((with_reducible refine n2Dst (some 48) (by rfl) ?_); refine wantList_load (by rfl) 68 _ rfl (w2.heap.size) (0) (by rfl) (wayL (⟨r, ta, tc, k, j⟩)) _ (rangeN T6.out.b1) Try.underlying68 rfl (infoWay _) ?_)
    | ((with_reducible refine n2Dst (some 50) (by rfl) ?_); refine wantList_load (by rfl) 32 _ rfl (w5.heap.size) (0) (by rfl) (p3L (q)) _ (rangeN T6.out.b0) Try.underlying32 rfl (infoPtr _) ?_))
  refine (hL.out _ _ T6.out.p.at_).mono ?_
  rintro e w7 ⟨v7, F7, rfl, S7, lp⟩
  have T7 := Lib.hid (T6.out.turn S7)
  have hsz : w.heap.size ≤ w6.heap.size := T6.out.size
  have lp := Lib.hid lp
  have hx1 : Hid (w.heap.size + 1 < w6.heap.size) := Lib.hid T6.out.b2.lt
  have hsz := Lib.hid hsz
  clear S7 T6 T5 hN
  go_wp2_with (first
    | ((with_reducible refine guardList ?_); refine tOper 8 (by rfl) ?_; refine wantList_store (by rfl) 32 _ _ rfl (w.heap.size + 1) 0 (by rfl) (p3L (r')) (by rfl) _ (p3L (p3z)) (p3L (r')) (T7.out.b2) (by simp only [p3L_length]; decide) (p3L_one _) (infoPtr _) (whole_new rfl) ?_; intro w8 hR kk zz; have T8 := Lib.hid (T7.out.over2 kk hR); have lp8 := Lib.hid (lp.out.over kk hx1.out); clear zz kk hR))
  refine bodyPost_ret (results_row_tmp_tmp rfl (rowPtr T8.out.b2)) rfl ⟨m4, _, q, _, _, rfl, p4.out, S4.out, hqn.out, T8.out.p, lp8.out.up hsz.out⟩

set_option maxHeartbeats 8000000 in
theorem tTrim_hole {w : World} {g d B : Nat} {F : Nat → Prop} {m : PileM} {n kk c : Nat} {t : Tree} {f : Nat → Sec} (h : IsPile w g d B F m) (hp : TP m n kk c) (ok : TreeOk m n t f) {i : Nat} (hi : i < 64) (hz : t.leaf i = p3z) :
    Calls Try.prog 11 #[.pointer (some ⟨g, 0, none⟩), .agg (p3L t.root).toArray, .int .i64 (i : Int)] w fun e w' => ∃ m' F', e = .returned (.tuple #[.agg (p3L t.root).toArray, .slice none 0 0, .int .i64 0]) ∧ TP m' n kk c ∧ Alike m m' ∧ PStep w g d B F F' m' w' := by
  have hh := Lib.hid fun W => has_yes hi W
  have hF := Lib.hid fun W (G : Nat → Prop) (hW : IsPile W g d B G m) => tFind_ok hW hp ok hi
  have hj : i % 8 < 8 := by omega
  have hlf : (t.c (i / 8)).get (i % 8) = p3z := hz
  clear ok hp hi hz
  generalize i / 8 = k at *
  generalize i % 8 = j at *
  have hW := Lib.hid fun w => wBlock_any ⟨t.root, t.a, t.c k, k, j⟩ hj w
  dsimp only at hW
  rw [hlf] at hW
  clear hlf
  generalize t.c k = tc at *
  generalize t.a = ta at *
  generalize t.root = r at *
  obtain ⟨wb, hwb, T⟩ := (((CL.start h).box 32 (p3L r)).box 32 [.int .i64 0, .int .u64 0, .int .u32 0]).named
  have h := Lib.hid h
  have hz2 := zeroWay
  go_enter Try.func11, Try.ntmps11
  go_upto_region 1 with (fail)
  rw [← hwb.out]
  simp only [World.size_alloc] at T
  go_wp2_with fail
  refine (hh.out _).mono ?_
  rintro e w1 ⟨rfl, rfl⟩
  go_wp2_with (first
    | ((with_reducible refine n2Dst (some 17) (by rfl) ?_); refine wantList_load (by rfl) 32 _ rfl (w.heap.size) (0) (by rfl) (p3L (r)) _ (rangeN T.out.b1) Try.underlying32 rfl (infoPtr _) ?_))
  refine (hF.out _ _ T.out.p.at_).mono ?_
  rintro e w2 ⟨m1, rfl, p1, a1, F2, T2⟩
  have T2 := Lib.hid (T.out.turn T2)
  have p1 := Lib.hid p1
  have a1 := Lib.hid a1
  have hN := Lib.hid (Blk.new w2 68 (wayL wayZ))
  clear T hF hh
  go_wp2_with (first
    | ((with_reducible refine guardList ?_); refine tOper 9 (by rfl) ?_; refine wantList_store (by rfl) 68 _ _ rfl (w2.heap.size) 0 (by rfl) (wayL (⟨r, ta, tc, k, j⟩)) (by rfl) _ (wayL (wayZ)) (wayL (⟨r, ta, tc, k, j⟩)) (hN.out) (by simp only [wayL_length]; decide) (wayL_one _) (infoWay _) wholeWay ?_; intro w3 hR kk zz; have T3 := Lib.hid (T2.out.lay kk hR); clear zz kk hR)
    | ((with_reducible refine n2Dst (some 26) (by rfl) ?_); refine wantList_load (by rfl) 68 _ rfl (w2.heap.size) (0) (by rfl) (wayL (⟨r, ta, tc, k, j⟩)) _ (rangeN T3.out.b0) Try.underlying68 rfl (infoWay _) ?_))
  refine (hW.out _).mono ?_
  rintro e w4 ⟨rfl, b4⟩
  have T4 := Lib.hid (T3.out.below b4)
  clear b4 T3 T2 hN
  go_wp2_with fail
  refine (tHole_any p3z _).mono ?_
  rintro e w5 ⟨rfl, b5⟩
  have T5 := Lib.hid (T4.out.below b5)
  clear b5 T4
  rw [show p3z.holeB = true from rfl]
  go_wp2_with (first
    | ((with_reducible refine n2Dst (some 29) (by rfl) ?_); refine wantList_load (by rfl) 32 _ rfl (w.heap.size) (0) (by rfl) (p3L (r)) _ (rangeN T5.out.b2) Try.underlying32 rfl (infoPtr _) ?_)
    | ((with_reducible refine guardList ?_); refine tOper 6 (by rfl) ?_; refine wantList_store (by rfl) 32 _ _ rfl (w.heap.size + 1) 0 (by rfl) (p3L (r)) (by rfl) _ (p3L (p3z)) (p3L (r)) (T5.out.b1) (by simp only [p3L_length]; decide) (p3L_one _) (infoPtr _) (whole_new rfl) ?_; intro w6 hR kk zz; have T6 := Lib.hid (T5.out.over1 kk hR); clear zz kk hR))
  refine bodyPost_ret (results_row_tmp_tmp rfl (rowPtr T6.out.b1)) rfl ⟨m1, _, rfl, p1.out, a1.out, T6.out.p⟩

set_option maxRecDepth 100000 in
set_option maxHeartbeats 8000000 in
theorem tTrim_ok {w : World} {g d B : Nat} {F : Nat → Prop} {m : PileM} {n kk c : Nat} {t : Tree} {f : Nat → Sec} (h : IsPile w g d B F m) (hp : TP m n kk c) (hkk : kk ≤ 100000) (ok : TreeOk m n t f) {i : Nat} (hi : i < 64) (hc : 2 ≤ c) (hlz : t.leaf i ≠ p3z) :
    Calls Try.prog 11 #[.pointer (some ⟨g, 0, none⟩), .agg (p3L t.root).toArray, .int .i64 (i : Int)] w fun e w' => ∃ m' t' v F' c', e = .returned (.tuple #[.agg (p3L t'.root).toArray, v, .int .i64 0]) ∧ TP m' n (kk + 2) c' ∧ c ≤ c' + 2 ∧ TStep m m' n t t' (i / 8) (i % 8) p3z c c' f sec0 ∧ PStep w g d B F F' m' w' ∧ LP w w' F' v (t.old (i / 8) (i % 8)) := by
  have hh := Lib.hid fun W => has_yes hi W
  have hF := Lib.hid fun W (G : Nat → Prop) (hW : IsPile W g d B G m) => tFind_ok hW hp ok hi
  have hk : i / 8 < 8 := by omega
  have hj : i % 8 < 8 := by omega
  have plain : Hid (∀ m1, Alike m m1 → TP m1 n kk c → ∃ m3 mid r' c', countN m1.map = c ∧
      (∀ W (G : Nat → Prop), IsPile W g d B G m1 → Calls Try.prog 34 #[.agg (wayL ⟨t.root, t.a, t.c (i / 8), i / 8, i % 8⟩).toArray, .pointer (some ⟨g, 0, none⟩), .agg (p3L p3z).toArray] W fun e w' => ∃ v F', e = .returned (.tuple #[.agg (p3L r').toArray, v, .int .i64 0]) ∧ PStep W g d B G F' m3 w' ∧ LP W w' F' v (t.old (i / 8) (i % 8))) ∧
      TP m3 n (kk + 2) c' ∧ c ≤ c' + 2 ∧ TStep m m3 n t (t.turn (i / 8) (i % 8) p3z mid r') (i / 8) (i % 8) p3z c c' f sec0) := Lib.hid fun m1 a1 hp1 => by
    have ok1 := ok.alike a1
    obtain ⟨m2, mid, P2, hp2⟩ := hp1.putN ((t.c (i / 8)).set (i % 8) p3z) (fun _ => by omega)
    have e1 := P2.len hp1
    have hmid := P2.new hp1
    obtain ⟨m3, r', P3', hp3⟩ := hp2.putN (t.a.set (i / 8) mid) (fun _ => by split <;> omega)
    have e2 := P3'.len hp2
    have S := TStep.of_trim ok1 hp1 hk hj P2 hp2 P3' (c2 := if t.a.set (i / 8) mid = holesP then (if (t.c (i / 8)).set (i % 8) p3z = holesP then c else c - 1) else (if (t.c (i / 8)).set (i % 8) p3z = holesP then c else c - 1) - 1) (by rw [e1]; split <;> omega) (by rw [e2]; split <;> split <;> omega)
    refine ⟨m3, mid, r', _, hp1.cnt, fun W G hW => ?_, hp3, ?_, S.later a1⟩
    · have c1 := ok1.cR hp1 hk
      have c2 := ok1.aR hp1
      exact tLead_ok hW ⟨t.root, t.a, t.c (i / 8), i / 8, i % 8⟩ hk hj P2 P3' (P8.set_fit c1.2 _ p3z_fit8) (right_set c1.1 (by decide)) (P8.set_fit c2.2 _ (hmid.right hp2).2) (right_set c2.1 (hmid.right hp2).1) (by have := hp1.live.pend; omega) (by have := hp2.live.pend; omega)
    · split <;> split <;> omega
  have hlf : ((t.c (i / 8)).get (i % 8)).holeB = false := by
    cases e : ((t.c (i / 8)).get (i % 8)).holeB
    · rfl
    · exact absurd ((holeB_iff _).1 e) hlz
  clear ok hp hi hkk hlz
  generalize t.old (i / 8) (i % 8) = OL at *
  obtain ⟨ta, hta⟩ : ∃ ta, Hid (ta = t.a) := ⟨_, Lib.hid rfl⟩
  obtain ⟨tc, htc⟩ : ∃ tc, Hid (tc = t.c (i / 8)) := ⟨_, Lib.hid rfl⟩
  obtain ⟨r, hrt⟩ : ∃ r, Hid (r = t.root) := ⟨_, Lib.hid rfl⟩
  rw [← hta.out, ← htc.out, ← hrt.out] at hF plain
  rw [← htc.out] at hlf
  rw [← hrt.out]
  generalize i / 8 = k at *
  generalize i % 8 = j at *
  have hW := Lib.hid fun w => wBlock_any ⟨r, ta, tc, k, j⟩ hj w
  dsimp only at hW
  have hLf := Lib.hid fun w => wLeft_any ⟨r, ta, tc, k, j⟩ hk hj w
  have hl2 : leftN ⟨r, ta, tc, k, j⟩ ≤ 2 := by unfold leftN; split <;> (try split) <;> omega
  have hcl : Hid (leftN ⟨r, ta, tc, k, j⟩ ≤ c) := Lib.hid (by omega)
  generalize leftN ⟨r, ta, tc, k, j⟩ = LN at *
  have hH := Lib.hid fun w => tHole_any (tc.get j) w
  rw [hlf] at hH
  generalize tc.get j = lf at *
  clear hta htc hrt hl2 hlf hc
  obtain ⟨wb, hwb, T⟩ := (((CL.start h).box 32 (p3L r)).box 32 [.int .i64 0, .int .u64 0, .int .u32 0]).named
  have h := Lib.hid h
  have hz2 := zeroWay
  go_enter Try.func11, Try.ntmps11
  go_upto_region 1 with (fail)
  rw [← hwb.out]
  simp only [World.size_alloc] at T
  go_wp2_with fail
  refine (hh.out _).mono ?_
  rintro e w1 ⟨rfl, rfl⟩
  go_wp2_with (first
    | ((with_reducible refine n2Dst (some 17) (by rfl) ?_); refine wantList_load (by rfl) 32 _ rfl (w.heap.size) (0) (by rfl) (p3L (r)) _ (rangeN T.out.b1) Try.underlying32 rfl (infoPtr _) ?_))
  refine (hF.out _ _ T.out.p.at_).mono ?_
  rintro e w2 ⟨m1, rfl, p1, a1, F2, T2⟩
  have T2 := Lib.hid (T.out.turn T2)
  obtain ⟨m3, mid, r', c', hcn, hL, p4, hcc, S4⟩ := plain.out m1 a1 p1
  have hcn := Lib.hid hcn
  have hL := Lib.hid hL
  have p4 := Lib.hid p4
  have S4 := Lib.hid S4
  have hcc := Lib.hid hcc
  have hN := Lib.hid (Blk.new w2 68 (wayL wayZ))
  clear T hF hh plain p1 a1
  go_wp2_with (first
    | ((with_reducible refine guardList ?_); refine tOper 9 (by rfl) ?_; refine wantList_store (by rfl) 68 _ _ rfl (w2.heap.size) 0 (by rfl) (wayL (⟨r, ta, tc, k, j⟩)) (by rfl) _ (wayL (wayZ)) (wayL (⟨r, ta, tc, k, j⟩)) (hN.out) (by simp only [wayL_length]; decide) (wayL_one _) (infoWay _) wholeWay ?_; intro w3 hR kk zz; have T3 := Lib.hid (T2.out.lay kk hR); clear zz kk hR)
    | ((with_reducible refine n2Dst (some 26) (by rfl) ?_); refine wantList_load (by rfl) 68 _ rfl (w2.heap.size) (0) (by rfl) (wayL (⟨r, ta, tc, k, j⟩)) _ (rangeN T3.out.b0) Try.underlying68 rfl (infoWay _) ?_))
  refine (hW.out _).mono ?_
  rintro e w4 ⟨rfl, b4⟩
  have T4 := Lib.hid (T3.out.below b4)
  clear b4 T3 T2 hN
  go_wp2_with fail
  refine (hH.out _).mono ?_
  rintro e w5 ⟨rfl, b5⟩
  have T5 := Lib.hid (T4.out.below b5)
  clear b5 T4
  go_wp2
  refine inO_region [(3, fun w' => w'.rangeAt (w2.heap.size) (0) (wayL ⟨r, ta, tc, k, j⟩))] (by kernel_rfl) (Owed.cons (rangeN T5.out.b0) (Owed.nil _ _)) ?_
  refine inO_take 0 ⟨_, _, _, _, _, _⟩ (.pointer (some ⟨g, 0, none⟩)) rfl (by kernel_rfl) (by kernel_rfl) (by kernel_rfl) (fun _ _ _ h => h) rfl (fun ww => exec_move (by rfl) (by rfl) ww) ?_
  simp only [Act.put, List.setIfInBounds_toArray, List.set_cons_zero, List.set_cons_succ]
  refine inO_load 3 ⟨_, _, _, _, _, _⟩ (.agg (wayL ⟨r, ta, tc, k, j⟩).toArray) (fun w' => w'.rangeAt (w2.heap.size) (0) (wayL ⟨r, ta, tc, k, j⟩)) rfl (by kernel_rfl) (by kernel_rfl) (by kernel_rfl) (fun _ _ _ h => h) rfl (.head _) (fun ww hw => exec_load_mid _ _ (by rfl) _ _ (by rfl) _ _ hw Try.underlying68 rfl (infoWay _)) ?_
  simp only [Act.put, List.setIfInBounds_toArray, List.set_cons_zero, List.set_cons_succ]
  refine inO_step 1 ⟨_, _, _, _, _, _⟩ rfl (by kernel_rfl) rfl (fun K hK => ?_)
  refine wp_call Try.func19 (by kernel_rfl) rfl _ _ rfl _ rfl _ (oMap T5.out.drew.p.at_) fun e w8 R => ?_
  obtain ⟨rfl, rfl⟩ := R
  refine ⟨_, rfl, ?_⟩
  refine hK _ _ (Keeps.cons (fun hh => hh) (Keeps.nil _ _ _)) ?_
  clear hK K
  simp only [Act.put, List.setIfInBounds_toArray, List.set_cons_zero, List.set_cons_succ]
  refine inO_step 2 ⟨_, _, _, _, _, _⟩ rfl (by kernel_rfl) rfl (fun K hK => ?_)
  refine wp_call Try.func23 (by kernel_rfl) rfl _ _ rfl _ rfl _ (oCount T5.out.drew.p.at_) fun e w8 R => ?_
  rw [hcn.out] at R
  obtain ⟨rfl, rfl⟩ := R
  refine ⟨_, rfl, ?_⟩
  refine hK _ _ (Keeps.cons (fun hh => hh) (Keeps.nil _ _ _)) ?_
  clear hK K
  simp only [Act.put, List.setIfInBounds_toArray, List.set_cons_zero, List.set_cons_succ]
  refine inO_step 4 ⟨_, _, _, _, _, _⟩ rfl (by kernel_rfl) rfl (fun K hK => ?_)
  refine wp_call Try.func33 (by kernel_rfl) rfl _ _ rfl _ rfl _ (hLf.out _) fun e w8 R => ?_
  obtain ⟨rfl, b8⟩ := R
  have T8 := Lib.hid (T5.out.drew.below b8)
  clear b8
  refine ⟨_, rfl, ?_⟩
  refine hK _ _ (Keeps.late (by kernel_rfl) (Keeps.nil _ _ _)) ?_
  clear hK K
  simp only [Act.put, List.setIfInBounds_toArray, List.set_cons_zero, List.set_cons_succ]
  refine inO_take 5 ⟨_, _, _, _, _, _⟩ (.bool false) rfl (by kernel_rfl) (by kernel_rfl) (by kernel_rfl) (fun _ _ _ h => h) rfl (fun ww => by go_simp; have := hcl.out; omega) ?_
  simp only [Act.put, List.setIfInBounds_toArray, List.set_cons_zero, List.set_cons_succ]
  refine inO_done (by kernel_rfl) ?_
  clear T5
  go_wp2_with (first
    | ((with_reducible refine n2Dst (some 37) (by rfl) ?_); refine wantList_load (by rfl) 68 _ rfl (w2.heap.size) (0) (by rfl) (wayL (⟨r, ta, tc, k, j⟩)) _ (rangeN T8.out.b0) Try.underlying68 rfl (infoWay _) ?_))
  refine (hL.out _ _ T8.out.p.at_).mono ?_
  rintro e w9 ⟨v9, F9, rfl, S9, lp⟩
  have T9 := Lib.hid (T8.out.turn S9)
  have hsz : w.heap.size ≤ w8.heap.size := T8.out.size
  have lp := Lib.hid lp
  have hx1 : Hid (w.heap.size + 1 < w8.heap.size) := Lib.hid T8.out.b1.lt
  have hsz := Lib.hid hsz
  clear S9 T8
  go_wp2_with (first
    | ((with_reducible refine guardList ?_); refine tOper 6 (by rfl) ?_; refine wantList_store (by rfl) 32 _ _ rfl (w.heap.size + 1) 0 (by rfl) (p3L (r')) (by rfl) _ (p3L (p3z)) (p3L (r')) (T9.out.b1) (by simp only [p3L_length]; decide) (p3L_one _) (infoPtr _) (whole_new rfl) ?_; intro w10 hR kk zz; have TA := Lib.hid (T9.out.over1 kk hR); have lpA := Lib.hid (lp.out.over kk hx1.out); clear zz kk hR))
  refine bodyPost_ret (results_row_tmp_tmp rfl (rowPtr TA.out.b1)) rfl ⟨m3, _, _, _, c', rfl, p4.out, hcc.out, S4.out, TA.out.p, lpA.out.up hsz.out⟩
end Go.Proofs.Ytgdefibkemkejaa

/- What All and Blocks come to, block by block; a pile, blocks and two lists beside it. -/
namespace Go.Proofs.Ytgdefibkemkejaa
open Go.ChangeShapes Go.WideShapes Go.ChangeAt Go.RowKit Go.Deep
set_option linter.unusedVariables false
set_option maxRecDepth 20000

def Tree.metRow (t : Tree) (P : P3 → Bool) (k : Nat) : List P3 := if P (t.a.get k) then t.a.get k :: (t.c k).1.filter P else []
def Tree.metL (t : Tree) (P : P3 → Bool) : List P3 := if P t.root then t.root :: (List.range 8).flatMap (t.metRow P) else []
theorem allL_met (t : Tree) (st : Nat) : t.allL st = t.metL fun q => q.sinceB st := rfl
def Tree.reach (t : Tree) (P : P3 → Bool) (i : Nat) : Bool := P t.root && (P (t.a.get (i / 8)) && P (t.leaf i))
/-- what block i's way adds -/
def Tree.metStep (t : Tree) (P : P3 → Bool) (i : Nat) : List P3 :=
  if P t.root then (if i = 0 then [t.root] else []) ++ (if P (t.a.get (i / 8)) then (if i % 8 = 0 then [t.a.get (i / 8)] else []) ++ (if P (t.leaf i) then [t.leaf i] else []) else []) else []
def Tree.metUp (t : Tree) (P : P3 → Bool) (n : Nat) : List P3 := (List.range n).flatMap (t.metStep P)
def Tree.reachUp (t : Tree) (P : P3 → Bool) (n : Nat) : List Nat := (List.range n).filter (t.reach P)
section
variable (t : Tree) (P : P3 → Bool)
theorem metUp_succ (n : Nat) : t.metUp P (n + 1) = t.metUp P n ++ t.metStep P n := by
  unfold Tree.metUp
  rw [List.range_succ, List.flatMap_append]
  simp
theorem reachUp_succ (n : Nat) : t.reachUp P (n + 1) = t.reachUp P n ++ if t.reach P n then [n] else [] := by
  unfold Tree.reachUp
  rw [List.range_succ, List.filter_append]
  congr 1
  cases h : t.reach P n <;> simp [h]
theorem metStep_len (n : Nat) : (t.metStep P n).length ≤ 3 := by
  unfold Tree.metStep
  split
  · rw [List.length_append]
    have h1 : (if n = 0 then [t.root] else []).length ≤ 1 := by split <;> simp
    have h2 : (if P (t.a.get (n / 8)) then (if n % 8 = 0 then [t.a.get (n / 8)] else []) ++ (if P (t.leaf n) then [t.leaf n] else []) else []).length ≤ 2 := by
      split
      · rw [List.length_append]
        have h3 : (if n % 8 = 0 then [t.a.get (n / 8)] else []).length ≤ 1 := by split <;> simp
        have h4 : (if P (t.leaf n) then [t.leaf n] else []).length ≤ 1 := by split <;> simp
        omega
      · simp
    omega
  · simp
theorem metUp_len : ∀ n : Nat, (t.metUp P n).length ≤ 3 * n
  | 0 => Nat.le_refl _
  | n + 1 => by
    rw [metUp_succ, List.length_append]
    have := metUp_len n
    have := metStep_len t P n
    omega
theorem reachUp_len (n : Nat) : (t.reachUp P n).length ≤ n := by
  have := List.length_filter_le (t.reach P) (List.range n)
  rw [List.length_range] at this
  exact this
theorem p8_filter (l : P8) (Q : P3 → Bool) : l.1.filter Q = (List.range 8).flatMap fun j => if Q (l.get j) then [l.get j] else [] := by
  have e : l.1 = (List.range 8).map l.get := by
    apply List.ext_getElem (by rw [l.2]; simp)
    intro k h1 h2
    have hk : k < 8 := by rw [l.2] at h1; exact h1
    rw [List.getElem_map, List.getElem_range, l.get_eq hk]
  rw [e]
  generalize List.range 8 = r
  induction r with
  | nil => rfl
  | cons a r ih =>
    rw [List.map_cons, List.filter_cons, ih, List.flatMap_cons]
    split <;> simp
theorem metUp_row (k : Nat) (hk : k < 8) (hr : P t.root = true) : t.metUp P (8 * k + 8) = t.metUp P (8 * k) ++ ((if k = 0 then [t.root] else []) ++ t.metRow P k) := by
  have hs : ∀ j, j < 8 → t.metStep P (8 * k + j) = (if k = 0 ∧ j = 0 then [t.root] else []) ++ (if P (t.a.get k) then (if j = 0 then [t.a.get k] else []) ++ (if P ((t.c k).get j) then [(t.c k).get j] else []) else []) := fun j hj => by
    unfold Tree.metStep
    rw [if_pos hr, TreeOk.leaf_at t hj, show (8 * k + j) / 8 = k from by omega, show (8 * k + j) % 8 = j from by omega]
    congr 1
    by_cases e : k = 0 ∧ j = 0
    · rw [if_pos e, if_pos (by omega)]
    · rw [if_neg e, if_neg (by omega)]
  have e8 : t.metUp P (8 * k + 8) = t.metUp P (8 * k) ++ (List.range 8).flatMap fun j => t.metStep P (8 * k + j) := by
    unfold Tree.metUp
    rw [List.range_add, List.flatMap_append, List.flatMap_map]
  rw [e8]
  congr 1
  unfold Tree.metRow
  rw [p8_filter]
  have r8 : List.range 8 = [0, 1, 2, 3, 4, 5, 6, 7] := by decide
  simp only [r8, List.flatMap_cons, List.flatMap_nil]
  rw [hs 0 (by decide), hs 1 (by decide), hs 2 (by decide), hs 3 (by decide), hs 4 (by decide), hs 5 (by decide), hs 6 (by decide), hs 7 (by decide)]
  by_cases h0 : k = 0 <;> by_cases h1 : P (t.a.get k) = true <;> simp [h0, h1]
  · subst h0; simp [h1]
  · subst h0; simp [h1]
theorem metUp_full (hr : P t.root = true) : ∀ k, k < 8 → t.metUp P (8 * k + 8) = t.root :: (List.range (k + 1)).flatMap (t.metRow P)
  | 0, h => by
    rw [metUp_row t P 0 h hr]
    simp [Tree.metUp, List.range_succ]
  | k + 1, h => by
    rw [metUp_row t P (k + 1) h hr, show 8 * (k + 1) = 8 * k + 8 from by omega, metUp_full hr k (by omega), if_neg (by omega), List.range_succ (n := k + 1), List.flatMap_append]
    simp
theorem metUp_64 : t.metUp P 64 = t.metL P := by
  unfold Tree.metL
  cases hr : P t.root
  · have : ∀ n, t.metUp P n = [] := fun n => by
      induction n with
      | zero => rfl
      | succ n ih => rw [metUp_succ, ih]; unfold Tree.metStep; rw [hr]; simp
    rw [this]; rfl
  · rw [if_pos rfl]
    exact metUp_full t P hr 7 (by decide)
end
theorem reach_blocks {m : PileM} {n kk c : Nat} {t : Tree} {f : Nat → Sec} (h : TreeOk m n t f) (hp : TP m n kk c) : t.reachUp (fun q => !q.holeB) 64 = t.blocksL := by
  unfold Tree.reachUp Tree.blocksL
  refine List.filter_congr fun i hi => ?_
  have hi' := List.mem_range.1 hi
  unfold Tree.reach
  have hn : ∀ q : P3, (!q.holeB) = true ↔ q ≠ p3z := fun q => by
    rw [Bool.not_eq_true']
    constructor
    · intro h1 h2; rw [(holeB_iff q).2 h2] at h1; cases h1
    · intro h1
      cases e : q.holeB
      · rfl
      · exact absurd ((holeB_iff q).1 e) h1
  rw [Bool.eq_iff_iff, Bool.and_eq_true, Bool.and_eq_true, hn, hn, hn]
  constructor
  · exact fun h => h.2.2
  · intro hl
    have hk : i / 8 < 8 := by omega
    have hj : i % 8 < 8 := by omega
    have hm : t.a.get (i / 8) ≠ p3z := fun e => by
      have := h.cE hp hk e
      refine hl ?_
      show (t.c (i / 8)).get (i % 8) = p3z
      rw [this]; exact holes_get hj
    refine ⟨fun e => ?_, hm, hl⟩
    have := h.aE hp e
    rw [this] at hm
    exact hm (holes_get hk)

/-- the cells of three times eight pointers -/
def onL (x y z : P8) : List Value := p8L x ++ (p8L y ++ (p8L z ++ []))
theorem onL_length (x y z : P8) : (onL x y z).length = 72 := by unfold onL; simp only [List.length_append, p8L_length, List.length_nil]
theorem onL_one (x y z : P8) : ∀ v ∈ onL x y z, v.oneCell' = true := by
  intro v hv
  unfold onL at hv
  rcases List.mem_append.1 hv with h | h
  · exact p8L_one _ v h
  · rcases List.mem_append.1 h with h | h
    · exact p8L_one _ v h
    · rcases List.mem_append.1 h with h | h
      · exact p8L_one _ v h
      · cases h
theorem onL_y' (x y z : P8) : onL x y z = p8L x ++ (p8L y ++ p8L z) := by unfold onL; rw [List.append_nil]
theorem onL_z' (x y z : P8) : onL x y z = (p8L x ++ p8L y) ++ (p8L z ++ []) := by unfold onL; rw [List.append_assoc]
section
variable {w : World} {g : Nat} {t : TypeId} {x y z : P8}
theorem on_x (h : Blk w g t (onL x y z)) {k : Nat} (hk : k < 8) : w.rangeAt g (k * 3) (p3L (x.get k)) := h.range fun j v hv => by
  have := mid_at (A := []) (B := p8L x) (C := p8L y ++ (p8L z ++ [])) (o := 0) rfl (p8L_at x hk hv)
  rw [Nat.zero_add] at this
  exact this
theorem on_y (h : Blk w g t (onL x y z)) {k : Nat} (hk : k < 8) : w.rangeAt g (24 + k * 3) (p3L (y.get k)) := h.range fun j v hv => by
  rw [Nat.add_assoc, onL_y']; exact mid_at (p8L_length x) (p8L_at y hk hv)
theorem on_z (h : Blk w g t (onL x y z)) {k : Nat} (hk : k < 8) : w.rangeAt g (48 + k * 3) (p3L (z.get k)) := h.range fun j v hv => by
  rw [Nat.add_assoc, onL_z']; exact mid_at (by rw [List.length_append, p8L_length, p8L_length]) (p8L_at z hk hv)
theorem on_setY (l : P8) : onL x l z = (onL x y z).take 24 ++ p8L l ++ (onL x y z).drop (24 + (p8L l).length) := by
  rw [onL_y', onL_y']; exact mid_set (p8L_length x) (by rw [p8L_length, p8L_length])
theorem on_setZ (l : P8) : onL x y l = (onL x y z).take 48 ++ p8L l ++ (onL x y z).drop (48 + (p8L l).length) := by
  rw [onL_z', onL_z']; exact mid_set (by rw [List.length_append, p8L_length, p8L_length]) (by rw [p8L_length, p8L_length])
end
theorem infoOn (x y z : P8) : (Try.prog.info? 110).map (·.size) = some (onL x y z).length := by rw [onL_length]; kernel_rfl
theorem zeroOn (w : World) : Sem.run Try.prog (zeroValue 110) w = .ok (.agg (onL holesP holesP holesP).toArray) w := by kernel_rfl
theorem builtRow (q : P3) : Try.prog.built 66 [(0, .agg (p3L q).toArray)] = some (p8L (holesP.set 0 q)).toArray := by kernel_rfl
theorem builtOn (q : P3) : Try.prog.built 110 [(0, .agg (p8L (holesP.set 0 q)).toArray)] = some (onL (holesP.set 0 q) holesP holesP).toArray := by kernel_rfl
theorem wholeOn {x y z x' y' z' : P8} : onL x y z = (onL x' y' z').take 0 ++ onL x y z ++ (onL x' y' z').drop (0 + (onL x y z).length) := whole_new (by rw [onL_length, onL_length])

/-- a pile, blocks of the call's own, a list of pointers and a list of numbers -/
structure WK (w0 w : World) (g d B : Nat) (F F' : Nat → Prop) (m : PileM) (L : List (Nat × TypeId × List Value)) (v : Value) (qs : List P3) (u : Value) (ns : List Nat) : Prop where
  T : CL w0 w g d B F F' m L
  rv : w.ownsRow w0.heap.size 32 3 v qs.length (rowsL p3L qs)
  ru : w.ownsRow w0.heap.size 3 1 u ns.length (ns.map fun i : Nat => Value.int .i64 (i : Int))
  vo : ∀ b, v.ownBlock = some b → ¬ F' b ∧ (∀ y ∈ L, y.1 ≠ b) ∧ u.ownBlock ≠ some b
  uo : ∀ b, u.ownBlock = some b → ¬ F' b ∧ (∀ y ∈ L, y.1 ≠ b)
namespace WK
variable {w0 w w' : World} {g d B : Nat} {F F' F'' : Nat → Prop} {m m' : PileM} {L L' : List (Nat × TypeId × List Value)} {v v' u u' : Value} {qs : List P3} {ns : List Nat} {x : Nat} {t : TypeId} {cs cs' : List Value} {y z : Nat × TypeId × List Value}
theorem lv (h : WK w0 w g d B F F' m L v qs u ns) : ∀ b, v.ownBlock = some b → w0.heap.size ≤ b ∧ b < w.heap.size := World.ownsRow.lt h.rv
theorem lu (h : WK w0 w g d B F F' m L v qs u ns) : ∀ b, u.ownBlock = some b → w0.heap.size ≤ b ∧ b < w.heap.size := World.ownsRow.lt h.ru
theorem go {G : Nat → Prop} (h : WK w0 w g d B F F' m L v qs u ns) (T' : CL w0 w' g d B F F'' m' L') (k : Kept G w w') (hG : ∀ b, v.ownBlock = some b ∨ u.ownBlock = some b → ¬ G b) (hF : ∀ b, b < w.heap.size → ¬ F' b → ¬ F'' b)
    (hL : ∀ y ∈ L', (∃ z ∈ L, z.1 = y.1) ∨ w.heap.size ≤ y.1) : WK w0 w' g d B F F'' m' L' v qs u ns := by
  have ne : ∀ b, b < w.heap.size → (∀ z ∈ L, z.1 ≠ b) → ∀ y ∈ L', y.1 ≠ b := fun b hb hz y hy e => by
    rcases hL y hy with ⟨z, hz', e'⟩ | h1
    · exact hz z hz' (e'.trans e)
    · omega
  exact ⟨T', owns_kept h.rv k fun b hb => hG b (.inl hb), owns_kept h.ru k fun b hb => hG b (.inr hb), fun b hb => ⟨hF b (h.lv b hb).2 (h.vo b hb).1, ne b (h.lv b hb).2 (h.vo b hb).2.1, (h.vo b hb).2.2⟩, fun b hb => ⟨hF b (h.lu b hb).2 (h.uo b hb).1, ne b (h.lu b hb).2 (h.uo b hb).2⟩⟩
theorem below (h : WK w0 w g d B F F' m L v qs u ns) (hb : Below w.heap.size w w') : WK w0 w' g d B F F' m L v qs u ns :=
  h.go (G := fun _ => False) (h.T.below hb) (Kept.of_below hb _) (fun _ _ => id) (fun _ _ => id) fun y hy => .inl ⟨y, hy, rfl⟩
theorem alloc (h : WK w0 w g d B F F' m L v qs u ns) (o : Obj) : WK w0 (w.alloc o) g d B F F' m L v qs u ns := h.below ((Below.refl _ _).alloc (Nat.le_refl _) o)
theorem drew (h : WK w0 w g d B F F' m L v qs u ns) : WK w0 w.drew g d B F F' m L v qs u ns := ⟨h.T.drew, h.rv, h.ru, h.vo, h.uo⟩
theorem box (h : WK w0 w g d B F F' m L v qs u ns) (t : TypeId) (cs : List Value) : WK w0 (w.alloc (.cells cs.toArray t)) g d B F F' m ((w.heap.size, t, cs) :: L) v qs u ns :=
  h.go (G := fun _ => False) (h.T.box t cs) (Kept.of_alloc _ _ _) (fun _ _ => id) (fun _ _ => id) fun y hy => by
    rcases List.mem_cons.1 hy with rfl | hy
    · exact .inr (Nat.le_refl _)
    · exact .inl ⟨y, hy, rfl⟩
theorem turn (h : WK w0 w g d B F F' m L v qs u ns) (T : PStep w g d B F' F'' m' w') : WK w0 w' g d B F F'' m' L v qs u ns :=
  h.go (h.T.turn T) T.kept (fun b hb => by rcases hb with hb | hb; exact (h.vo b hb).1; exact (h.uo b hb).1) (fun b hb hn => T.grows.not hn hb) fun y hy => .inl ⟨y, hy, rfl⟩
theorem over (h : WK w0 w g d B F F' m ((x, t, cs) :: L) v qs u ns) (k : Kept (· = x) w w') (hb : Blk w' x t cs') : WK w0 w' g d B F F' m ((x, t, cs') :: L) v qs u ns :=
  h.go (h.T.over k hb) k (fun b hb e => by rcases hb with hb | hb; exact (h.vo b hb).2.1 _ (.head _) e.symm; exact (h.uo b hb).2 _ (.head _) e.symm) (fun _ _ => id) fun y hy => by
    rcases List.mem_cons.1 hy with rfl | hy
    · exact .inl ⟨_, .head _, rfl⟩
    · exact .inl ⟨y, .tail _ hy, rfl⟩
theorem sub (h : WK w0 w g d B F F' m L v qs u ns) (T' : CL w0 w g d B F F' m L') (hs : ∀ y ∈ L', ∃ z ∈ L, z.1 = y.1) : WK w0 w g d B F F' m L' v qs u ns :=
  h.go T' (Kept.refl (fun _ => False) w) (fun _ _ => id) (fun _ _ => id) fun y hy => .inl (hs y hy)
theorem tail (h : WK w0 w g d B F F' m (y :: L) v qs u ns) : WK w0 w g d B F F' m L v qs u ns := h.sub h.T.tail fun z hz => ⟨z, .tail _ hz, rfl⟩
theorem swap (h : WK w0 w g d B F F' m (y :: z :: L) v qs u ns) : WK w0 w g d B F F' m (z :: y :: L) v qs u ns := h.sub h.T.swap fun a ha => by
  rcases List.mem_cons.1 ha with rfl | ha
  · exact ⟨_, .tail _ (.head _), rfl⟩
  · rcases List.mem_cons.1 ha with rfl | ha
    · exact ⟨_, .head _, rfl⟩
    · exact ⟨a, .tail _ (.tail _ ha), rfl⟩
theorem over1 (h : WK w0 w g d B F F' m (y :: (x, t, cs) :: L) v qs u ns) (k : Kept (· = x) w w') (hb : Blk w' x t cs') : WK w0 w' g d B F F' m (y :: (x, t, cs') :: L) v qs u ns := (h.swap.over k hb).swap
theorem rot (h : WK w0 w g d B F F' m (y :: z :: (x, t, cs) :: L) v qs u ns) : WK w0 w g d B F F' m ((x, t, cs) :: y :: z :: L) v qs u ns :=
  h.sub (h.T.perm (((List.Perm.swap _ _ _).cons y).trans (List.Perm.swap _ _ _))) fun a ha => by
    rcases List.mem_cons.1 ha with rfl | ha
    · exact ⟨_, .tail _ (.tail _ (.head _)), rfl⟩
    · rcases List.mem_cons.1 ha with rfl | ha
      · exact ⟨_, .head _, rfl⟩
      · rcases List.mem_cons.1 ha with rfl | ha
        · exact ⟨_, .tail _ (.head _), rfl⟩
        · exact ⟨a, .tail _ (.tail _ (.tail _ ha)), rfl⟩
theorem lay (h : WK w0 w g d B F F' m L v qs u ns) (k : Kept (· = w.heap.size) (w.alloc (.cells cs.toArray t)) w') (hb : Blk w' w.heap.size t cs') : WK w0 w' g d B F F' m ((w.heap.size, t, cs') :: L) v qs u ns := (h.box t cs).over k hb
/-- a list of the call's own grows -/
theorem grew {a a' : Value} (T : CL w0 w g d B F F' m L) (hg : Grew w w' a a') (hlo : ∀ b, a.ownBlock = some b → w0.heap.size ≤ b) (hF : ∀ b, a.ownBlock = some b → ¬ F' b ∧ ∀ y ∈ L, y.1 ≠ b) : CL w0 w' g d B F F' m L := by
  have k := Kept.of_grown (F := fun k => a.ownBlock = some k) hg.1 (fun k hk _ => hk)
  refine ⟨⟨T.p.at_.kept k fun i hi e => (hF i e).1 hi, T.p.kept.then k (fun i hi e => by have := hlo i e; omega), T.p.grows⟩, fun y hy => ⟨(T.l y hy).1.kept k fun e => (hF _ e).2 y hy rfl, (T.l y hy).2⟩, T.nd⟩
theorem pushV (h : WK w0 w g d B F F' m L v qs u ns) (q : P3) (ho : w'.ownsRow w0.heap.size 32 3 v' (qs.length + 1) (rowsL p3L qs ++ p3L q)) (hg : Grew w w' v v') : WK w0 w' g d B F F' m L v' (qs ++ [q]) u ns := by
  have T' := grew h.T hg (fun b hb => (h.lv b hb).1) (fun b hb => ⟨(h.vo b hb).1, (h.vo b hb).2.1⟩)
  have k := Kept.of_grown (F := fun k => v.ownBlock = some k) hg.1 (fun k hk _ => hk)
  refine ⟨T', by rw [rowsL_append, rowsL_one, List.length_append]; exact ho, owns_kept h.ru k fun b hb e => (h.vo b e).2.2 hb, fun b hb => ?_, h.uo⟩
  rcases hg.2 with e | ⟨a, e, hl⟩
  · exact h.vo b (by rw [← e]; exact hb)
  · rw [e] at hb
    cases hb
    exact ⟨fun hf => by have := h.T.p.at_.lt _ hf; omega, fun y hy e => by have := (h.T.l y hy).1.lt; omega, fun e => by have := (h.lu _ e).2; omega⟩
theorem pushU (h : WK w0 w g d B F F' m L v qs u ns) (i : Nat) (ho : w'.ownsRow w0.heap.size 3 1 u' (ns.length + 1) ((ns.map fun i : Nat => Value.int .i64 (i : Int)) ++ [.int .i64 (i : Int)])) (hg : Grew w w' u u') : WK w0 w' g d B F F' m L v qs u' (ns ++ [i]) := by
  have T' := grew h.T hg (fun b hb => (h.lu b hb).1) (fun b hb => ⟨(h.uo b hb).1, (h.uo b hb).2⟩)
  have k := Kept.of_grown (F := fun k => u.ownBlock = some k) hg.1 (fun k hk _ => hk)
  refine ⟨T', owns_kept h.rv k fun b hb e => (h.vo b hb).2.2 e, by rw [List.map_append, List.length_append]; exact ho, fun b hb => ⟨(h.vo b hb).1, (h.vo b hb).2.1, fun e2 => ?_⟩, fun b hb => ?_⟩
  · rcases hg.2 with e | ⟨a, e, hl⟩
    · exact (h.vo b hb).2.2 (by rw [← e]; exact e2)
    · rw [e] at e2
      cases e2
      have := (h.lv _ hb).2; omega
  · rcases hg.2 with e | ⟨a, e, hl⟩
    · exact h.uo b (by rw [← e]; exact hb)
    · rw [e] at hb
      cases hb
      exact ⟨fun hf => by have := h.T.p.at_.lt _ hf; omega, fun y hy e => by have := (h.T.l y hy).1.lt; omega⟩
theorem first (T : CL w0 w g d B F F' m L) : WK w0 w g d B F F' m L (.slice none 0 0) [] (.slice none 0 0) [] :=
  ⟨T, World.ownsRow_nil _ _ _ _, World.ownsRow_nil _ _ _ _, (fun b hb => by cases hb), (fun b hb => by cases hb)⟩
theorem lp (h : WK w0 w g d B F F' m L v qs u ns) : LP w0 w F' v qs := by
  have hc := h.rv
  obtain ⟨hl, ⟨hv, hz⟩ | ⟨b, cap, cur, hv, _⟩⟩ := h.rv
  · exact ⟨none, 0, by rw [hv, hz], by rw [List.eq_nil_of_length_eq_zero hz]; exact Reads.nil _ _, fun _ => rfl, fun a e => by cases e⟩
  · have h1 := h.lv b (by rw [hv]; rfl)
    have h2 := h.vo b (by rw [hv]; rfl)
    refine ⟨some ⟨b, 0, none⟩, cap, hv, fun i hi => ⟨b, 0, rfl, ?_⟩, (fun e => by cases e), fun a e => by cases e; exact ⟨h1.1, h1.2, h2.1⟩⟩
    subst hv
    rw [Nat.zero_add, World.ownsRow.cellAt hc i (by omega)]
    simp [hi]
theorem li (h : WK w0 w g d B F F' m L v qs u ns) : LI w0 w F' u ns := by
  have hc := h.ru
  obtain ⟨hl, ⟨hv, hz⟩ | ⟨b, cap, cur, hv, _⟩⟩ := h.ru
  · exact ⟨none, 0, by rw [hv, hz], by rw [List.eq_nil_of_length_eq_zero hz]; exact Reads.nil _ _, fun _ => rfl, fun a e => by cases e⟩
  · have h1 := h.lu b (by rw [hv]; rfl)
    have h2 := h.uo b (by rw [hv]; rfl)
    refine ⟨some ⟨b, 0, none⟩, cap, hv, fun i hi => ⟨b, 0, rfl, ?_⟩, (fun e => by cases e), fun a e => by cases e; exact ⟨h1.1, h1.2, h2.1⟩⟩
    subst hv
    rw [Nat.zero_add, World.ownsRow.cellAt hc i (by omega)]
    simp at hi ⊢
    simp [hi]
end WK
section
variable {P : Program} {ops : Array Oper} {rest : List Oper} {o : Oper} {a : Act} {w : World} {Q : Exit → Act → World → Prop}
/-- a slice literal of one pointer -/
theorem wpList_bsP (hw : Region.wanted o (yielded ops a.tmps) = true) (x : Operand) (ho : o.op = .buildSlice 37 1 #[(0, x)]) (q : P3) (hx : a.eval x = .agg (p3L q).toArray)
    (h : wpList Try.prog ops Q rest (a.put o.dst (.slice (some ⟨w.heap.size, 0, none⟩) 1 1)) (w.alloc (.cells (p3L q).toArray 32))) : wpList Try.prog ops Q (o :: rest) a w :=
  wantList hw fun _ hK => wp_buildOne 37 32 x ho (p3L q) hx Try.underlying37 (infoPtr q) (by rw [p3L_length]; kernel_rfl) (by rw [p3L_length]; decide) (by rw [p3L_length]; decide) (hK _ _ h)
end
theorem CL.only {w0 w : World} {g d B : Nat} {F F' : Nat → Prop} {m : PileM} {L : List (Nat × TypeId × List Value)} {y : Nat × TypeId × List Value} (h : CL w0 w g d B F F' m (y :: L)) : CL w0 w g d B F F' m [y] :=
  ⟨h.p, h.l.sub (fun z hz => by
    rcases List.mem_cons.1 hz with rfl | hz
    · exact .head _
    · cases hz), List.nodup_cons.2 ⟨(fun h => by cases h), List.nodup_nil⟩⟩
theorem WK.only {w0 w : World} {g d B : Nat} {F F' : Nat → Prop} {m : PileM} {L : List (Nat × TypeId × List Value)} {v u : Value} {qs : List P3} {ns : List Nat} {y : Nat × TypeId × List Value} (h : WK w0 w g d B F F' m (y :: L) v qs u ns) : WK w0 w g d B F F' m [y] v qs u ns :=
  h.sub h.T.only fun z hz => by
    rcases List.mem_cons.1 hz with rfl | hz
    · exact ⟨_, .head _, rfl⟩
    · cases hz
theorem on_r {w : World} {g : Nat} {t : TypeId} {r : P3} {y z : P8} (h : Blk w g t (onL (holesP.set 0 r) y z)) : w.rangeAt g 0 (p3L r) := by
  have := on_x h (k := 0) (by decide)
  rw [P8.get_set _ _ (by decide), if_pos rfl] at this
  exact this
theorem below_0 (w : World) : Sem.run Try.prog (Instr.index 111 (.agg #[.int .i64 64, .int .i64 8, .int .i64 1]) (.int .i64 0)) w = .ok (.int .i64 64) w := by kernel_rfl
theorem below_1 (w : World) : Sem.run Try.prog (Instr.index 111 (.agg #[.int .i64 64, .int .i64 8, .int .i64 1]) (.int .i64 1)) w = .ok (.int .i64 8) w := by kernel_rfl
theorem below_2 (w : World) : Sem.run Try.prog (Instr.index 111 (.agg #[.int .i64 64, .int .i64 8, .int .i64 1]) (.int .i64 2)) w = .ok (.int .i64 1) w := by kernel_rfl
theorem infoInt4 : (Try.prog.info? 3).map (fun i => (i.zero, i.size, i.bytes)) = some (some (.int .i64 0), 1, 8) := by kernel_rfl
end Go.Proofs.Ytgdefibkemkejaa
