/- What the law on flushes leans on: two devices beside a row of bools. -/
import Derived.Test.YtfpacnokecfhmaaKeeps
import Derived.Test.YtfpacnokecfhmaaCall
namespace Go.Proofs.Ytfpacnokecfhmaa
open Go.ChangeShapes Go.WideShapes Go.ChangeAt Go.RowKit
set_option linter.unusedVariables false

theorem range_below {w w' : World} {b o : Nat} {cs : List Value} (h : w.rangeAt b o cs) (hb : Below w.heap.size w w') : w'.rangeAt b o cs := fun j v hv => (hb.cell (cell_lt (h j v hv))).trans (h j v hv)
theorem below_of_drew {w w' : World} (h : Below w.drew.heap.size w.drew w') : Below w.heap.size w w' := ⟨h.os, h.tape, h.output, h.size, h.block⟩
/-- a guard for the walk's arms: the goal is a list of operations, and not empty -/
theorem guardList {P : Program} {ops : Array Oper} {rest : List Oper} {o : Oper} {a : Act} {w : World} {Q : Exit → Act → World → Prop} (h : wpList P ops Q (o :: rest) a w) : wpList P ops Q (o :: rest) a w := h
theorem IsDev.drew {w : World} {d : Nat} {F : Nat → Prop} {m : DevM} (h : IsDev w d F m) : IsDev w.drew d F m := h.kept (G := fun _ => False) (Kept.refl _ w).drew fun _ _ => id
theorem kept_all (k : Nat → Bool) (p : List (Nat × Sec)) (h : ∀ i, i < p.length → k i = true) : DevM.kept k p = p := by
  unfold DevM.kept
  rw [List.filter_eq_self.2 (fun x hx => ?_)]
  · exact List.zipIdx_map_fst 0 p
  · obtain ⟨h1, h2⟩ := List.mem_zipIdx hx
    exact h _ (by simpa using h2.1)

/-- as it goes on in that law -/
structure FlI (m : DevM) (k : Nat) : Prop where
  len : m.stable.length = 8
  dead : m.dead = false
  left : m.left = -1
  pend : m.pending.length ≤ k
namespace FlI
variable {m : DevM} {k : Nat} (h : FlI m k)
theorem succ (h : FlI m k) : FlI m (k + 1) := ⟨h.len, h.dead, h.left, by have := h.pend; omega⟩
theorem lasts (h : FlI m k) : m.lasts = true := by unfold DevM.lasts; rw [h.dead, h.left]; rfl
theorem spend (h : FlI m k) : m.tick.spend = m.tick := by
  have : m.tick.lasts = true := h.lasts
  unfold DevM.spend
  rw [this, if_pos rfl, if_neg (by show ¬ 0 < m.left; rw [h.left]; decide)]
theorem write (h : FlI m k) (i : Int) (s : Sec) : FlI (m.write i s).1 (k + 1) := by
  unfold DevM.write
  rw [h.lasts, h.spend]
  cases m.has i
  · exact ⟨h.len, h.dead, h.left, by have := h.pend; show m.pending.length ≤ _; omega⟩
  · exact ⟨h.len, h.dead, h.left, by have := h.pend; simp; omega⟩
theorem read_ (h : FlI m k) (j : Nat) (hj : j < 8) : m.read (j : Int) = (m.now.getD j sec0, 0) := by
  have hh : m.has (j : Int) = true := by unfold DevM.has; rw [h.len]; simp; omega
  unfold DevM.read
  rw [hh, h.dead]
  rfl
theorem flush_ (h : FlI m k) : ∃ m', m.tick.flush = (m', 0) ∧ m'.pending = [] ∧ m'.stable = m.now := by
  have h1 : m.tick.lasts = true := h.lasts
  have h2 : m.tick.tick.spend = m.tick.tick := by
    have : m.tick.tick.lasts = true := h.lasts
    unfold DevM.spend
    rw [this, if_pos rfl, if_neg (by show ¬ 0 < m.left; rw [h.left]; decide)]
  refine ⟨m.tick.tick.settle (fun _ => true), ?_, rfl, ?_⟩
  · unfold DevM.flush
    rw [h1, h2]
    rfl
  · show putAll m.stable (DevM.kept (fun _ => true) m.pending) = m.now
    rw [kept_true]
    rfl
theorem crash_ (h : FlI m k) (n : Nat) (hn : k ≤ n) : (m.crash (List.replicate n true)).stable = m.now := by
  show putAll m.stable (DevM.kept (fun i => (List.replicate n true).getD i false) m.pending) = m.now
  rw [kept_all]
  · rfl
  · intro i hi
    have := h.pend
    rw [List.getD_eq_getElem?_getD, List.getElem?_replicate, if_pos (by omega)]
    rfl
end FlI
theorem stab_of {m : DevM} {l : List Sec} (h : m.stable = l) (hl : l.length = 8) (j : Nat) (hj : j < 8) : m.stab (j : Int) = l.getD j sec0 := by
  have hh : m.has (j : Int) = true := by unfold DevM.has; rw [h, hl]; simp; omega
  unfold DevM.stab
  rw [hh, if_pos rfl, h]
  rfl
theorem crash_none {m : DevM} (h : m.pending = []) (bs : List Bool) : (m.crash bs).stable = m.stable := by
  show putAll m.stable (DevM.kept (fun i => bs.getD i false) m.pending) = m.stable
  rw [h]
  rfl

structure Two (B : Nat) (w : World) (d c : Nat) (F G : Nat → Prop) (m1 m2 : DevM) (v : Value) (al : List Value) : Prop where
  dev : IsDev w d F m1
  cev : IsDev w c G m2
  lowF : ∀ k, F k → B ≤ k
  lowG : ∀ k, G k → B ≤ k
  dis : ∀ i, F i → ¬ G i
  own : Own w B 4 v al
  vF : ∀ g, v.ownBlock = some g → ¬ F g ∧ ¬ G g
section
variable {B d c : Nat} {w w' : World} {F F' G G' E : Nat → Prop} {m1 m2 m' : DevM} {v v' : Value} {al : List Value} (h : Two B w d c F G m1 m2 v al)
theorem Two.callD (h : Two B w d c F G m1 m2 v al) (k : Kept F w w') (h' : IsDev w' d F' m') (g : Grows w.heap.size F F') (hB : B ≤ w.heap.size) : Two B w' d c F' G m' m2 v al :=
  ⟨h', h.cev.kept k (fun i hi hf => h.dis i hf hi), g.low h.lowF hB, h.lowG, fun i hf hg => (g.not (fun hf' => h.dis i hf' hg) (h.cev.lt i hg)) hf, owns_kept h.own k (fun x hx => (h.vF x hx).1), fun x hx => ⟨g.not (h.vF x hx).1 (h.own.lt x hx).2, (h.vF x hx).2⟩⟩
theorem Two.callC (h : Two B w d c F G m1 m2 v al) (k : Kept G w w') (h' : IsDev w' c G' m') (g : Grows w.heap.size G G') (hB : B ≤ w.heap.size) : Two B w' d c F G' m1 m' v al :=
  ⟨h.dev.kept k (fun i hi hg => h.dis i hi hg), h', h.lowF, g.low h.lowG hB, fun i hf hg => (g.not (h.dis i hf) (h.dev.lt i hf)) hg, owns_kept h.own k (fun x hx => (h.vF x hx).2), fun x hx => ⟨(h.vF x hx).1, g.not (h.vF x hx).2 (h.own.lt x hx).2⟩⟩
theorem Two.late (h : Two B w d c F G m1 m2 v al) (k : Kept E w w') (hE : ∀ i, i < w.heap.size → ¬ E i) : Two B w' d c F G m1 m2 v al :=
  ⟨h.dev.kept k (fun i hi => hE i (h.dev.lt i hi)), h.cev.kept k (fun i hi => hE i (h.cev.lt i hi)), h.lowF, h.lowG, h.dis, owns_kept h.own k (fun g hg => hE g (h.own.lt g hg).2), h.vF⟩
theorem Two.alloc (h : Two B w d c F G m1 m2 v al) (o : Obj) : Two B (w.alloc o) d c F G m1 m2 v al := h.late (E := fun _ => False) (Kept.of_alloc _ w o) fun _ _ => id
theorem Two.push (h : Two B w d c F G m1 m2 v al) {al' : List Value} (hg : Grew w w' v v') (ho : Own w' B 4 v' al') : Two B w' d c F G m1 m2 v' al' := by
  have k : Kept (fun k => v.ownBlock = some k) w w' := Kept.of_grown hg.1 (fun k hk _ => hk)
  refine ⟨h.dev.kept k (fun i hi e => (h.vF i e).1 hi), h.cev.kept k (fun i hi e => (h.vF i e).2 hi), h.lowF, h.lowG, h.dis, ho, fun g hg' => ?_⟩
  rcases hg.2 with e | ⟨x, e, hx⟩ <;> rw [e] at hg'
  · exact h.vF g hg'
  · injection hg' with hg'
    subst hg'
    exact ⟨fun hf => by have := h.dev.lt _ hf; omega, fun hf => by have := h.cev.lt _ hf; omega⟩
end
end Go.Proofs.Ytfpacnokecfhmaa
