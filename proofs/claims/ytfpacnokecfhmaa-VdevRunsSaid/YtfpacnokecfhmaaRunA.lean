/- What the law on whatever is done with a device leans on: the device beside the document's own. -/
import Derived.Test.YtfpacnokecfhmaaRefO
import Derived.Deep.CutBlock
namespace Go.Proofs.Ytfpacnokecfhmaa
open Go.ChangeShapes Go.WideShapes Go.ChangeAt Go.RowKit
set_option linter.unusedVariables false

/-- a device, and the document's own in the variable g, its rows in no block that X names -/
structure Runs (B : Nat) (w : World) (d : Nat) (F : Nat → Prop) (md mr : DevM) (g : Nat) (V : List Value) (X : Nat → Prop) : Prop where
  dev : IsDev w d F md
  low : ∀ k, F k → B ≤ k
  ref : RefIs w V mr X
  var : Blk w g 30 V
  fx : ∀ k, F k → X k
  gx : X g
  gf : ¬ F g
  gb : B ≤ g
  xlt : ∀ k, X k → k < w.heap.size
section
variable {B d g : Nat} {w w' : World} {F F' G X : Nat → Prop} {md mr m' : DevM} {V V' : List Value}
theorem Runs.callD (h : Runs B w d F md mr g V X) (k : Kept F w w') (h' : IsDev w' d F' m') (gr : Grows w.heap.size F F') (hB : B ≤ w.heap.size) : Runs B w' d F' m' mr g V (fun k => X k ∨ F' k) :=
  ⟨h', gr.low h.low hB, (h.ref.grow fun i hi => by
      rcases hi with hi | hi
      · exact .inl hi
      · rcases gr i hi with h1 | h1
        · exact .inl (h.fx i h1)
        · exact .inr h1).kept k fun i _ hi => .inl (h.fx i hi), h.var.kept k h.gf, fun k hk => .inr hk, .inl h.gx, gr.not h.gf h.var.lt, h.gb, fun i hi => by
      rcases hi with hi | hi
      · exact Nat.lt_of_lt_of_le (h.xlt i hi) k.size
      · exact h'.lt i hi⟩
/-- what turns nothing of these -/
theorem Runs.over (h : Runs B w d F md mr g V X) (k : Kept G w w') (hF : ∀ i, F i → ¬ G i) (hg : ¬ G g) (hX : ∀ i, i < w.heap.size → G i → X i) : Runs B w' d F md mr g V X :=
  ⟨h.dev.kept k hF, h.low, h.ref.kept k hX, h.var.kept k hg, h.fx, h.gx, h.gf, h.gb, fun i hi => Nat.lt_of_lt_of_le (h.xlt i hi) k.size⟩
theorem Runs.late (h : Runs B w d F md mr g V X) (k : Kept G w w') (hG : ∀ i, i < w.heap.size → ¬ G i) : Runs B w' d F md mr g V X :=
  h.over k (fun i hi => hG i (h.dev.lt i hi)) (hG g h.var.lt) fun i hi hg => absurd hg (hG i hi)
theorem Runs.alloc (h : Runs B w d F md mr g V X) (o : Obj) : Runs B (w.alloc o) d F md mr g V X := h.late (G := fun _ => False) (Kept.of_alloc _ w o) fun _ _ => id
theorem Runs.below (h : Runs B w d F md mr g V X) (b : Below w.heap.size w w') : Runs B w' d F md mr g V X := h.late (G := fun _ => False) (Kept.of_below b _) fun _ _ => id
theorem Runs.drew (h : Runs B w d F md mr g V X) : Runs B w.drew d F md mr g V X := h.late (G := fun _ => False) ((Kept.refl _ w).drew) fun _ _ => id
/-- new blocks are of no row -/
theorem Runs.grow (h : Runs B w d F md mr g V X) (hw : Runs B w' d F md mr g V X) (k : Nat → Prop) (hk : ∀ i, k i → w.heap.size ≤ i ∧ i < w'.heap.size) (hb : Kept G w w') (hX : ∀ i, i < w.heap.size → G i → X i) : Runs B w' d F md mr g V (fun i => X i ∨ k i) :=
  ⟨hw.dev, hw.low, (h.ref.grow fun i hi => by
      rcases hi with hi | hi
      · exact .inl hi
      · exact .inr (hk i hi).1).kept hb fun i hi hg => .inl (hX i hi hg), hw.var, fun i hi => .inl (h.fx i hi), .inl h.gx, h.gf, h.gb, fun i hi => by
      rcases hi with hi | hi
      · exact hw.xlt i hi
      · exact (hk i hi).2⟩
theorem Runs.setV (h : Runs B w d F md mr g V X) (hr : RefIs w V' m' X) (k : Kept (· = g) w w') (hb : Blk w' g 30 V') : Runs B w' d F md m' g V' X :=
  ⟨h.dev.kept k (fun i hi e => h.gf (e ▸ hi)), h.low, hr.kept k (fun i _ e => e ▸ h.gx), hb, h.fx, h.gx, h.gf, h.gb, fun i hi => Nat.lt_of_lt_of_le (h.xlt i hi) k.size⟩
end

/-- as it begins -/
theorem Runs.start {B d : Nat} {w w' : World} {F : Nat → Prop} {m : DevM} {V : List Value} (hd : IsDev w d F m) (lo : ∀ k, F k → B ≤ k) (hr : RefIs w V m F) (hB : B ≤ w.heap.size) (o : Obj) (k : Kept (· = w.heap.size) (w.alloc o) w') (hv : Blk w' w.heap.size 30 V) :
    Runs B w' d F m m w.heap.size V (fun i => F i ∨ i = w.heap.size) :=
  ⟨(hd.alloc o).kept k (fun i hi e => by have := hd.lt i hi; omega), lo, ((hr.grow fun i hi => by
      rcases hi with hi | hi
      · exact .inl hi
      · exact .inr (by omega)).alloc o).kept k fun i _ e => .inr e, hv, fun i hi => .inl hi, .inr rfl, fun hf => by have := hd.lt _ hf; omega, hB, fun i hi => by
      have h1 := k.size
      simp at h1
      rcases hi with hi | hi
      · have := hd.lt i hi; omega
      · omega⟩
/-- the variable's cells -/
theorem Runs.cells {B d g : Nat} {w : World} {F X : Nat → Prop} {md mr : DevM} {V : List Value} (h : Runs B w d F md mr g V X) : ∃ so sc po pc, w.cell? ⟨g, 0, none⟩ = some (.slice so mr.stable.length sc) ∧ w.cell? ⟨g, 1, none⟩ = some (.slice po mr.pending.length pc) ∧ w.cell? ⟨g, 2, none⟩ = some (.int .i64 (mr.ops : Int)) ∧ w.cell? ⟨g, 4, none⟩ = some (.bool mr.dead) := by
  obtain ⟨so, sc, po, pc, e, _⟩ := h.ref.ex
  have hv := h.var
  rw [e] at hv
  exact ⟨so, sc, po, pc, (hv.cell 0).trans rfl, (hv.cell 1).trans rfl, (hv.cell 2).trans rfl, (hv.cell 4).trans rfl⟩

/-- a round's own variables beside them: what is done, and the two sectors -/
structure Loc (w : World) (F X : Nat → Prop) (A S T : Nat) (a : ActM) (x y : Sec) : Prop where
  hA : Blk w A 36 (actL a)
  hS : Blk w S 33 (secL x)
  hT : Blk w T 33 (secL y)
  nA : ¬ F A
  nS : ¬ F S
  nT : ¬ F T
  xS : X S
  xT : X T
  st : S ≠ T
section
variable {B d g A S T : Nat} {w w' : World} {F F' G X X' : Nat → Prop} {md mr m' : DevM} {V V' : List Value} {a : ActM} {x y z : Sec}
theorem act_ne : 36 ≠ 33 := by decide
theorem dev_ne : 30 ≠ 33 := by decide
theorem dev_ne' : 30 ≠ 36 := by decide
theorem Loc.callD (h : Loc w F X A S T a x y) (k : Kept F w w') (gr : Grows w.heap.size F F') : Loc w' F' (fun k => X k ∨ F' k) A S T a x y :=
  ⟨h.hA.kept k h.nA, h.hS.kept k h.nS, h.hT.kept k h.nT, gr.not h.nA h.hA.lt, gr.not h.nS h.hS.lt, gr.not h.nT h.hT.lt, .inl h.xS, .inl h.xT, h.st⟩
theorem Loc.late (h : Loc w F X A S T a x y) (k : Kept G w w') (hG : ∀ i, i < w.heap.size → ¬ G i) : Loc w' F X A S T a x y :=
  ⟨h.hA.kept k (hG _ h.hA.lt), h.hS.kept k (hG _ h.hS.lt), h.hT.kept k (hG _ h.hT.lt), h.nA, h.nS, h.nT, h.xS, h.xT, h.st⟩
theorem Loc.below (h : Loc w F X A S T a x y) (b : Below w.heap.size w w') : Loc w' F X A S T a x y := h.late (G := fun _ => False) (Kept.of_below b _) fun _ _ => id
theorem Loc.alloc (h : Loc w F X A S T a x y) (o : Obj) : Loc (w.alloc o) F X A S T a x y := h.late (G := fun _ => False) (Kept.of_alloc _ w o) fun _ _ => id
theorem Loc.drew (h : Loc w F X A S T a x y) : Loc w.drew F X A S T a x y := h.late (G := fun _ => False) ((Kept.refl _ w).drew) fun _ _ => id
theorem Loc.setV (h : Loc w F X A S T a x y) (hv : Blk w g 30 V) (k : Kept (· = g) w w') : Loc w' F X A S T a x y :=
  ⟨h.hA.kept k (Ne.symm (hv.ne h.hA dev_ne')), h.hS.kept k (Ne.symm (hv.ne h.hS dev_ne)), h.hT.kept k (Ne.symm (hv.ne h.hT dev_ne)), h.nA, h.nS, h.nT, h.xS, h.xT, h.st⟩
theorem Loc.setS (h : Loc w F X A S T a x y) (k : Kept (· = S) w w') (hb : Blk w' S 33 (secL z)) : Loc w' F X A S T a z y :=
  ⟨h.hA.kept k (h.hA.ne h.hS act_ne), hb, h.hT.kept k (Ne.symm h.st), h.nA, h.nS, h.nT, h.xS, h.xT, h.st⟩
theorem Loc.setT (h : Loc w F X A S T a x y) (k : Kept (· = T) w w') (hb : Blk w' T 33 (secL z)) : Loc w' F X A S T a x z :=
  ⟨h.hA.kept k (h.hA.ne h.hT act_ne), h.hS.kept k h.st, hb, h.nA, h.nS, h.nT, h.xS, h.xT, h.st⟩
theorem Runs.setS (h : Runs B w d F md mr g V X) (l : Loc w F X A S T a x y) (k : Kept (· = S) w w') : Runs B w' d F md mr g V X :=
  h.over k (fun i hi e => l.nS (e ▸ hi)) (h.var.ne l.hS dev_ne) fun i _ e => e ▸ l.xS
theorem Runs.setT (h : Runs B w d F md mr g V X) (l : Loc w F X A S T a x y) (k : Kept (· = T) w w') : Runs B w' d F md mr g V X :=
  h.over k (fun i hi e => l.nT (e ▸ hi)) (h.var.ne l.hT dev_ne) fun i _ e => e ▸ l.xT
end

/-- so many were done -/
structure RunI (m : DevM) (k : Nat) : Prop where
  ops : m.ops ≤ k
  pend : m.pending.length ≤ k
namespace RunI
variable {m : DevM} {k : Nat} (h : RunI m k)
theorem succ (h : RunI m k) : RunI m (k + 1) := ⟨by have := h.ops; omega, by have := h.pend; omega⟩
theorem tick (h : RunI m k) : RunI m.tick (k + 1) := ⟨by have := h.ops; show min (m.ops + 1) _ ≤ _; omega, by have := h.pend; show m.pending.length ≤ _; omega⟩
theorem spend {m : DevM} (h : RunI m k) : RunI m.spend k := by
  unfold DevM.spend
  split
  · exact ⟨h.ops, h.pend⟩
  · exact ⟨h.ops, h.pend⟩
theorem brk (h : RunI m k) (n : Int) : RunI (m.brk n) (k + 1) := ⟨h.succ.ops, h.succ.pend⟩
theorem write (h : RunI m k) (i : Int) (s : Sec) : RunI (m.write i s).1 (k + 1) := by
  unfold DevM.write
  split
  · split
    · refine ⟨h.tick.spend.ops, ?_⟩
      have := h.pend
      simp; omega
    · exact h.tick.spend
  · exact h.tick
theorem flush (h : RunI m k) : RunI m.flush.1 (k + 1) := by
  unfold DevM.flush
  split
  · exact ⟨h.tick.spend.ops, Nat.zero_le _⟩
  · exact h.tick.spend
theorem crash (h : RunI m k) (bs : List Bool) : RunI (m.crash bs) (k + 1) := ⟨h.succ.ops, Nat.zero_le _⟩
theorem rot (h : RunI m k) (i : Int) (s : Sec) : RunI (m.rot i s).1 (k + 1) := by
  unfold DevM.rot
  split
  · refine ⟨h.succ.ops, ?_⟩
    have := h.pend
    simp; omega
  · exact h.succ
theorem lt (h : RunI m k) (hk : k ≤ 200) : m.ops < 4611686018427387903 := by have := h.ops; omega
theorem le (h : RunI m k) (hk : k ≤ 200) : m.pending.length ≤ 1000000000 := by have := h.pend; omega
end RunI
theorem runI_fresh (n : Nat) : RunI (DevM.fresh n) 0 := ⟨Nat.le_refl _, Nat.le_refl _⟩
end Go.Proofs.Ytfpacnokecfhmaa
