/- UberC: the texts UberM, UberN, one behind the other. -/
import Derived.Test.YtfblehdeoloijaaGUberB
/- How a list of commits reads that came in. -/
namespace Go.Proofs.Ytfblehdeoloijaa
open Go.ChangeShapes Go.WideShapes Go.ChangeAt Go.RowKit Go.Deep
set_option linter.unusedVariables false
set_option maxRecDepth 20000

/-- a commit, the power going behind so many writes, and what a crash then keeps -/
structure AcM where
  u : U5
  brk : Int
  kao : Option Addr
  kcap : Nat
  keep : List Bool
def acL (a : AcM) : List Value := u5L a.u ++ [.int .i64 a.brk, .slice a.kao a.keep.length a.kcap]
theorem acL_length (a : AcM) : (acL a).length = 9 := rfl
theorem acL_one (a : AcM) : ∀ v ∈ acL a, v.oneCell' = true := by
  intro v hv
  unfold acL at hv
  rcases List.mem_append.1 hv with hv | hv
  · exact u5L_one _ v hv
  · simp only [List.mem_cons, List.not_mem_nil, or_false] at hv
    rcases hv with rfl | rfl <;> rfl
structure AcOk (w : World) (a : AcM) : Prop where
  fit : a.u.Fit
  brk : I64 a.brk
  keep : Reads w a.kao (boolsV a.keep)
  cap : a.keep.length ≤ a.kcap ∧ a.kcap ≤ 140737488351232
  nil : a.kao = none → a.kcap = 0
  low : ∀ b, a.kao = some b → a.keep ≠ [] → b.block < w.heap.size
structure Acs (w : World) (ao : Option Addr) (as_ : List AcM) : Prop where
  cells : Reads w ao (rowsL acL as_)
  each : ∀ a ∈ as_, AcOk w a
theorem AcOk.below {w w' : World} {a : AcM} (h : AcOk w a) (hb : Below w.heap.size w w') : AcOk w' a := ⟨h.fit, h.brk, h.keep.below hb, h.cap, h.nil, fun b e hn => Nat.lt_of_lt_of_le (h.low b e hn) hb.size⟩
theorem Acs.below {w w' : World} {ao : Option Addr} {as_ : List AcM} (h : Acs w ao as_) (hb : Below w.heap.size w w') : Acs w' ao as_ := ⟨h.cells.below hb, fun a ha => (h.each a ha).below hb⟩
theorem Acs.range {w : World} {ao : Option Addr} {as_ : List AcM} (h : Acs w ao as_) {k : Nat} (hk : k < as_.length) : ∃ b off, ao = some ⟨b, off, none⟩ ∧ b < w.heap.size ∧ w.rangeAt b (off + k * 9) (acL as_[k]) :=
  Reads.rangeRow acL_length (by decide) h.cells hk
section
variable {w : World} {A : Nat} {t : TypeId} {a : AcM}
theorem ac_r0 (h : Blk w A t (acL a)) : w.rangeAt A 0 (u5L a.u) := h.range fun j v hv => by
  have hj : j < (u5L a.u).length := (List.getElem?_eq_some_iff.1 hv).1
  rw [Nat.zero_add, acL, List.getElem?_append_left hj, hv]
theorem ac_c7 (h : Blk w A t (acL a)) : w.cell? ⟨A, 7, none⟩ = some (.int .i64 a.brk) := by rw [h.cell]; rfl
theorem ac_c8 (h : Blk w A t (acL a)) : w.cell? ⟨A, 8, none⟩ = some (.slice a.kao a.keep.length a.kcap) := by rw [h.cell]; rfl
end
def ac0 : AcM := ⟨u5z, 0, none, 0, []⟩
theorem zeroAc (w : World) : Sem.run Try.prog (zeroValue 51) w = .ok (.agg (acL ac0).toArray) w := by kernel_rfl
theorem infoAcL (a : AcM) : (Try.prog.info? 51).map (·.size) = some (acL a).length := by
  rw [acL_length]; kernel_rfl

theorem arg_acts6 {H : Type} {enc : TypeId × Value → H} {W : World} {base : Nat} {v : Value} {d : DataW H} {p : List MemPlace} (h : DataW.Trod enc Try.prog W 0 (fun _ => true) true 43 v d p) (hv : Value.okWide Try.prog W .any base 43 v)
    (hw : Light Try.prog 43 d) : ∃ (ao : Option Addr) (as_ : List AcM) (cap : Nat), v = .slice ao as_.length cap ∧ Acs W ao as_ ∧ as_.length ≤ 140737488351232 ∧ (ao = none → cap = 0) := by
  obtain ⟨a, len, cap, rfl⟩ := okWide_slice Try.underlying43 hv
  obtain ⟨fuel, hf⟩ := h
  have cA : Try.prog.cellsOf 51 = 9 := by kernel_rfl
  have bA : Try.prog.bytesOf 51 = 88 := by kernel_rfl
  rcases open_slice Try.underlying43 hf with ⟨hcs, _⟩ | ⟨a', len', cap', m, n, D, Pl, hcs, _, hl, _, hm, hx, hi⟩
  · simp [Value.cells] at hcs
    obtain ⟨rfl, rfl, rfl⟩ := hcs
    exact ⟨none, [], 0, rfl, ⟨Reads.nil _ _, fun a h => by cases h⟩, by simp, fun _ => rfl⟩
  · simp [Value.cells] at hcs
    obtain ⟨rfl, rfl, rfl⟩ := hcs
    simp only [if_true] at hm
    subst hm
    simp only [Prod.mk.injEq] at hx
    rw [hx.1] at hw
    have hlen := hw.len Try.underlying43
    simp only [List.length_map, List.length_range, bA] at hlen
    have key : ∀ i, i < len → ∃ am : AcM, (∀ j u, (acL am)[j]? = some u → W.cell? (a'.add (i * 9 + j)) = some u) ∧ AcOk W am := by
      intro i hil
      obtain ⟨cs, hcells, htr⟩ := hi i (by omega)
      rw [cA] at hcells
      obtain ⟨_, hcl, hcat⟩ := World.cells?_some hcells
      have hD : Light Try.prog 51 (D i) := hw.elem Try.underlying43 (by simp; exact ⟨i, hil, rfl⟩)
      obtain ⟨xs, k, _, hxs, _, hxl, hfld⟩ := DataW.trod_struct Try.underlying51 htr
      simp only [Prod.mk.injEq] at hxs
      rw [hxs.1] at hD
      have cI : Try.prog.cellsOf 3 = 1 := by kernel_rfl
      have cU : Try.prog.cellsOf 27 = 7 := by kernel_rfl
      have cB : Try.prog.cellsOf 49 = 1 := by kernel_rfl
      have g0 : DataW.trod enc Try.prog W 0 (fun _ => true) true k 27 ((cs.drop 0).take (Try.prog.cellsOf 27)) = xs[0]? := hfld 0 _ rfl
      have g1 : DataW.trod enc Try.prog W 0 (fun _ => true) true k 3 ((cs.drop 7).take (Try.prog.cellsOf 3)) = xs[1]? := hfld 1 _ rfl
      have g2 : DataW.trod enc Try.prog W 0 (fun _ => true) true k 49 ((cs.drop 8).take (Try.prog.cellsOf 49)) = xs[2]? := hfld 2 _ rfl
      have hxl3 : xs.length = 3 := hxl
      rw [cU] at g0
      rw [cI] at g1
      rw [cB] at g2
      rw [List.getElem?_eq_getElem (by omega)] at g0 g1 g2
      obtain ⟨u0, e0, hfu⟩ := open_uberC g0
      obtain ⟨z1, e1, _, wf1⟩ := DataW.trod_int Try.underlying3 g1
      have hq : (cs.drop 8).take 1 = [cs[8]'(by omega)] := by
        rw [List.drop_eq_getElem_cons (by omega)]; rfl
      rw [hq] at g2
      obtain ⟨ko, bs, kc, e3, hkr, hkl, hkc, hkn, hklt⟩ := open_bools Try.underlying49 Try.underlying4 (by kernel_rfl) (by kernel_rfl) g2 (hD.field Try.underlying51 (j := 2) rfl (by rw [List.getElem?_map, List.getElem?_eq_getElem (by omega)]; rfl))
      have hsplit : cs = cs.take 7 ++ ((cs.drop 7).take 1 ++ (cs.drop 8).take 1) := by
        have q1 : (cs.drop 8).take 1 = cs.drop 8 := List.take_of_length_le (by simp; omega)
        have q2 : cs.drop 8 = (cs.drop 7).drop 1 := by rw [List.drop_drop]
        rw [q1, q2, List.take_append_drop, List.take_append_drop]
      have hcs : cs = acL ⟨u0, z1, ko, kc, bs⟩ := by
        rw [hsplit]
        have e0' : cs.take 7 = u5L u0 := e0
        rw [e0', e1, hq, e3]
        rfl
      refine ⟨⟨u0, z1, ko, kc, bs⟩, fun j u hu => ?_, ⟨hfu, wf_i64 wf1, hkr, ⟨hkl, by unfold reachBytes at hkc; exact hkc⟩, hkn, hklt⟩⟩
      have hj : j < 9 := by rw [← acL_length ⟨u0, z1, ko, kc, bs⟩]; exact (List.getElem?_eq_some_iff.1 hu).1
      rw [← Go.Deep.add_add, hcat j hj, hcs, hu]
    obtain ⟨f, hf⟩ : ∃ f : Nat → AcM, ∀ i, i < len → (∀ j u, (acL (f i))[j]? = some u → W.cell? (a'.add (i * 9 + j)) = some u) ∧ AcOk W (f i) :=
      ⟨fun i => if h : i < len then (key i h).choose else ac0, fun i h => by simp only [h, dif_pos]; exact (key i h).choose_spec⟩
    have hll : ((List.range len).map f).length = len := by simp
    refine ⟨some a', (List.range len).map f, m, by rw [hll], ⟨?_, ?_⟩, ?_, fun h => by cases h⟩
    · intro q hq
      rw [rowsL_length acL_length, hll] at hq
      have hi1 : q / 9 < len := Nat.div_lt_of_lt_mul (by omega)
      have hj1 : q % 9 < 9 := Nat.mod_lt _ (by omega)
      have hqq : q / 9 * 9 + q % 9 = q := by omega
      obtain ⟨u, hget⟩ : ∃ u, (acL (f (q / 9)))[q % 9]? = some u := ⟨_, List.getElem?_eq_getElem (by rw [acL_length]; exact hj1)⟩
      have h1 := (hf _ hi1).1 _ _ hget
      have h2 := rowsL_at acL_length ((List.range len).map f) (q / 9) (by rw [hll]; exact hi1) (q % 9) u (by simpa using hget)
      rw [hqq] at h1 h2
      obtain ⟨bl, off, spot⟩ := a'
      have h0 := (hf 0 (by omega)).1 0 _ (List.getElem?_eq_getElem (by rw [acL_length]; omega))
      have hspot : spot = none := by simpa [Addr.add] using World.cell?_spot h0
      subst hspot
      rw [Go.WideShapes.add_plain] at h1
      refine ⟨bl, off, rfl, ?_⟩
      rw [h1]
      obtain ⟨hlt, e⟩ := List.getElem?_eq_some_iff.1 h2
      rw [← e]
    · intro a ha
      obtain ⟨i, hi, rfl⟩ := List.mem_map.1 ha
      exact (hf i (by simpa using hi)).2
    · rw [hll]
      unfold reachBytes at hlen
      omega

/-! ### Calls of uber, an uber's cells as a list -/
theorem uRight_L (u : U5) (w : World) (h : u.Fit) : Calls Try.prog 16 #[.agg (u5L u).toArray] w fun e w' => e = .returned (.bool u.rightB) ∧ Below w.heap.size w w' := uRight_any u w h
theorem oCommit_L {w : World} {d : Nat} {F : Nat → Prop} {m : DevM} (h : IsDev w d F m) (hp : m.pending.length ≤ 900000000) (u : U5) (hu : u.Fit) :
    Calls Try.prog 21 #[.pointer (some ⟨d, 0, none⟩), .agg (u5L u).toArray] w fun e w' => e = .returned (.int .i64 (m.commit u).2) ∧ Turned w d F (m.commit u).1 w' := oCommit h hp u hu
theorem eqUber_L (w : World) (u v : U5) : (Op.equalIn 10000 27 (.agg (u5L u).toArray) (.agg (u5L v).toArray)).run Try.prog w = .ok (u.eqB v) w := eqUber w u v
/-- behind a Break -/
theorem brk_calm {m : DevM} {n : Nat} (h : Calm m n) (z : Int) : Calm (m.brk z) n := ⟨h.len, h.pend, h.dead⟩
theorem ticks_calm {m : DevM} {n k : Nat} (h : Calm m n) : Calm (m.ticks k) n := by
  induction k with
  | zero => exact h
  | succ k ih => exact ih.tick
theorem ticks_best (m : DevM) (k : Nat) : (m.ticks k).best = m.best := by unfold DevM.best; rw [list_ticks]

/-- one round: what counts behind the crash -/
theorem turn_best {m : DevM} {now u : U5} (h : Calm m 8) (hb : m.best = some now) (hf : u.Fit) (hr : u.rightB = true) (hx : now.x < u.x) (z : Int) (keep : List Bool) :
    Calm (((m.brk z).commit u).1.crash keep) 8 ∧ ((((m.brk z).commit u).1.crash keep).best = some u ∨ (((m.brk z).commit u).1.crash keep).best = some now ∧ ((m.brk z).commit u).2 ≠ 0) := by
  have hc := brk_calm h z
  obtain ⟨h1, h2⟩ := commit_crash hc (by decide) hr keep
  have hl : (m.brk z).list = m.list := list_same h hc (by decide) rfl
  refine ⟨h1, ?_⟩
  rcases h2 with ⟨h2, h3⟩ | h2
  · right
    refine ⟨?_, h3⟩
    unfold DevM.best
    rw [list_same h h1 (by decide) (by rw [h2]; rfl)]
    exact hb
  · left
    refine best_set hc h1 (by decide) hf hr h2 fun v hv => ?_
    rw [hl] at hv
    have := best_le hb v hv
    omega
end Go.Proofs.Ytfblehdeoloijaa

/- A device of a law's own, and blocks beside it. -/
namespace Go.Proofs.Ytfblehdeoloijaa
open Go.ChangeShapes Go.WideShapes Go.ChangeAt Go.RowKit
set_option linter.unusedVariables false
set_option maxRecDepth 20000

/-- a sum of two uint64 -/
theorem wpList_addU {P : Program} {ops : Array Oper} {rest : List Oper} {o : Oper} {a : Act} {w : World} {Q : Exit → Act → World → Prop} (hgd : o.guard = none) (x y : Operand) (t t' : TypeId) (ho : o.op = .binOp .add t x y t')
    (z1 z2 z3 : Int) (hx : a.eval x = .int .u64 z1) (hy : a.eval y = .int .u64 z2) (hc : IntKind.u64.wrap (z1 + z2) = z3) (h : wpList P ops Q rest (a.put o.dst (.int .u64 z3)) w) : wpList P ops Q (o :: rest) a w :=
  wpList_plain hgd fun K hK => by
    unfold Oper.wp execOp
    simp only [ho, hx, hy, binOp_add, Op.intArith, hc, Sem.run_bind, Sem.run_pure]
    exact hK _ _ h

/-- a device of a call's own, and blocks (number, type, cells) that aren't its own -/
structure TS (w0 w : World) (d : Nat) (F : Nat → Prop) (m : DevM) (L : List (Nat × TypeId × List Value)) : Prop where
  obj : D0 w0 w d F m
  blk : ∀ x ∈ L, Blk w x.1 x.2.1 x.2.2
  not : ∀ x ∈ L, ¬ F x.1
  low : ∀ x ∈ L, w0.heap.size ≤ x.1
namespace TS
variable {w0 w w' : World} {d : Nat} {F F' : Nat → Prop} {m m' : DevM} {L L' : List (Nat × TypeId × List Value)} {x : Nat × TypeId × List Value}
theorem start (h : D0 w0 w d F m) : TS w0 w d F m [] := ⟨h, fun x hx => by (cases hx), fun x hx => by (cases hx), fun x hx => by (cases hx)⟩
theorem sub (h : TS w0 w d F m L) (hs : ∀ x ∈ L', x ∈ L) : TS w0 w d F m L' := ⟨h.obj, fun x hx => h.blk x (hs x hx), fun x hx => h.not x (hs x hx), fun x hx => h.low x (hs x hx)⟩
theorem below (h : TS w0 w d F m L) (hb : Below w.heap.size w w') : TS w0 w' d F m L := ⟨h.obj.below hb, fun x hx => blk_out (h.blk x hx) hb, h.not, h.low⟩
theorem drew (h : TS w0 w d F m L) : TS w0 w.drew d F m L := ⟨h.obj.drew, h.blk, h.not, h.low⟩
theorem turn (h : TS w0 w d F m L) (T : Turned w d F m' w') : ∃ F', TS w0 w' d F' m' L := by
  obtain ⟨F', h1, h2, h3⟩ := h.obj.turn T
  exact ⟨F', h1, fun x hx => (h.blk x hx).kept h2 (h.not x hx), fun x hx => h3.not (h.not x hx) (h.blk x hx).lt, h.low⟩
theorem alloc (h : TS w0 w d F m L) (o : Obj) : TS w0 (w.alloc o) d F m L := h.below ((Below.refl _ _).alloc (Nat.le_refl _) o)
theorem new (h : TS w0 w d F m L) (t : TypeId) (cs : List Value) : TS w0 (w.alloc (.cells cs.toArray t)) d F m ((w.heap.size, t, cs) :: L) := by
  have ha := h.alloc (.cells cs.toArray t)
  refine ⟨ha.obj, fun x hx => ?_, fun x hx => ?_, fun x hx => ?_⟩
  · rcases List.mem_cons.1 hx with rfl | hx
    · exact Blk.new w t cs
    · exact ha.blk x hx
  · rcases List.mem_cons.1 hx with rfl | hx
    · exact fun hf => by have := h.obj.dev.lt _ hf; dsimp only at this; omega
    · exact h.not x hx
  · rcases List.mem_cons.1 hx with rfl | hx
    · exact h.obj.q.size
    · exact h.low x hx
/-- the first of these blocks is overwritten -/
theorem set {g : Nat} {t : TypeId} {cs cs' : List Value} (h : TS w0 w d F m ((g, t, cs) :: L)) (hn : ∀ x ∈ L, x.1 ≠ g) (k : Kept (· = g) w w') (hb : Blk w' g t cs') : TS w0 w' d F m ((g, t, cs') :: L) := by
  have hg := h.not _ (List.mem_cons_self ..)
  have hl := h.low _ (List.mem_cons_self ..)
  dsimp only at hg hl
  refine ⟨h.obj.over k (fun i hi e => hg (e ▸ hi)) (fun i hi e => by omega), fun x hx => ?_, fun x hx => ?_, fun x hx => ?_⟩
  · rcases List.mem_cons.1 hx with rfl | hx
    · exact hb
    · exact (h.blk x (List.mem_cons_of_mem _ hx)).kept k (hn x hx)
  · rcases List.mem_cons.1 hx with rfl | hx
    · exact hg
    · exact h.not x (List.mem_cons_of_mem _ hx)
  · rcases List.mem_cons.1 hx with rfl | hx
    · exact hl
    · exact h.low x (List.mem_cons_of_mem _ hx)
end TS
end Go.Proofs.Ytfblehdeoloijaa
