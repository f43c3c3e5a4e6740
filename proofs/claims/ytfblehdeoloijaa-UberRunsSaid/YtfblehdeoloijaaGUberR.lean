/- UberR: the texts UberO, UberP, UberQ, one behind the other. -/
import Derived.Test.YtfblehdeoloijaaGUberC
import Derived.Test.YtfblehdeoloijaaGUber
import Derived.Test.YtfblehdeoloijaaGSum
import Derived.Test.YtfblehdeoloijaaGBase
import Derived.ArgAppend
import Derived.Lib.SlBytesConst
import Derived.Deep.Cut
/- Four ubers that came in; an array's element by value; a ring of which one sector is overwritten. -/
namespace Go.Proofs.Ytfblehdeoloijaa
open Go.ChangeShapes Go.WideShapes Go.ChangeAt Go.RowKit Go.Deep
set_option linter.unusedVariables false
set_option maxRecDepth 20000

theorem run_isAgg_row {P : Program} (w : World) {e : TypeId} {d : TypeDesc} (he : P.underlying e = some d) (hd : (match d with | .struct _ | .array _ _ => true | _ => false) = true) : (isAgg e).run P w = .ok true w := by
  cases d <;> simp at hd <;> simp [isAgg, run_underlying he]

/-- 'a[i]' of an array by value whose elements are several cells each -/
theorem wpList_indexN {P : Program} {ops : Array Oper} {rest : List Oper} {o : Oper} {a : Act} {w : World} {Q : Exit → Act → World → Prop} (hgd : o.guard = none) (t : TypeId) (x y : Operand) (ho : o.op = .index t x y)
    (e : TypeId) (len : Nat) (d : TypeDesc) (i : TypeInfo) (ht : P.underlying t = some (.array len e)) (he : P.underlying e = some d) (hd : (match d with | .struct _ | .array _ _ => true | _ => false) = true) (hi : P.info? e = some i)
    (cs : List Value) (k : Nat) (vs : List Value) (hx : a.eval x = .agg cs.toArray) (hy : a.eval y = .int .i64 (k : Int)) (hk : k < len) (hv : (cs.drop (k * i.size)).take i.size = vs)
    (h : wpList P ops Q rest (a.put o.dst (.agg vs.toArray)) w) : wpList P ops Q (o :: rest) a w :=
  wpList_plain hgd fun K hK => by
    have hs : P.cellsOf e = i.size := by simp [Program.cellsOf, hi]
    have hr : (Instr.index t (.agg cs.toArray) (.int .i64 (k : Int))).run P w = .ok (.agg vs.toArray) w := by
      simp [Instr.index, run_underlying ht, asIntOf, hk, run_sizeOf w hi, hs, run_isAgg_row w he hd, hv, go_sem]
    unfold Oper.wp execOp
    simp only [ho, hx, hy, Sem.run_bind, hr, Result.andThen_ok, Sem.run_pure]
    exact hK _ _ h

section
variable {H : Type} {enc : TypeId × Value → H} {W : World} {base : Nat} {v : Value} {d : DataW H} {ps : List MemPlace}
theorem open_ubers4 (h : DataW.Trod enc Try.prog W 0 (fun _ => true) true 68 v d ps) (hv : Value.okWide Try.prog W .any base 68 v) : ∃ us : List U5, v = .agg (rowsL u5L us).toArray ∧ us.length = 4 ∧ ∀ u ∈ us, u.Fit := by
  obtain ⟨cs, rfl⟩ := okWide_arr Try.underlying68 hv
  obtain ⟨fuel, hf⟩ := h
  obtain ⟨xs, m, _, _, hl, hxl, hi⟩ := DataW.trod_array Try.underlying68 hf
  have hc : Try.prog.cellsOf 27 = 7 := by kernel_rfl
  have hc2 : Try.prog.cellsOf 68 = 28 := by kernel_rfl
  rw [hc2] at hl
  have key : ∀ i, i < 4 → ∃ u : U5, (cs.toList.drop (i * 7)).take 7 = u5L u ∧ u.Fit := fun i h => by
    have := hi i (by omega)
    rw [hc, List.getElem?_eq_getElem (by omega)] at this
    exact open_uberC this
  obtain ⟨u0, e0, f0⟩ := key 0 (by omega)
  obtain ⟨u1, e1, f1⟩ := key 1 (by omega)
  obtain ⟨u2, e2, f2⟩ := key 2 (by omega)
  obtain ⟨u3, e3, f3⟩ := key 3 (by omega)
  refine ⟨[u0, u1, u2, u3], ?_, rfl, fun u hu => ?_⟩
  · congr 1
    apply Array.toList_inj.1
    have hl' : cs.toList.length = 28 := hl
    generalize cs.toList = l at *
    simp only [rowsL, List.flatMap_cons, List.flatMap_nil, List.append_nil]
    rw [← e0, ← e1, ← e2, ← e3]
    have q3 : (l.drop (3 * 7)).take 7 = (l.drop (2 * 7)).drop 7 := by rw [List.drop_drop, List.take_of_length_le (by simp; omega)]
    have q2 : (l.drop (2 * 7)) = (l.drop (1 * 7)).drop 7 := by rw [List.drop_drop]
    have q1 : (l.drop (1 * 7)) = (l.drop (0 * 7)).drop 7 := by rw [List.drop_drop]
    rw [q3, List.take_append_drop, q2, List.take_append_drop, q1, List.take_append_drop]
    rfl
  · simp only [List.mem_cons, List.not_mem_nil, or_false] at hu
    rcases hu with rfl | rfl | rfl | rfl <;> assumption
end

theorem row_take {us : List U5} {k : Nat} (h : k < us.length) : ((rowsL u5L us).drop (k * 7)).take 7 = u5L us[k] := by
  rw [rowsL_split u5L_length us k h]
  have hl : (rowsL u5L (us.take k)).length = k * 7 := by rw [rowsL_length u5L_length, List.length_take, Nat.min_eq_left (by omega)]
  rw [List.append_assoc, ← hl, List.drop_left, List.take_left' (u5L_length _)]

/-- a device that goes on -/
structure Live (m : DevM) (n k : Nat) : Prop where
  len : m.stable.length = n
  dead : m.dead = false
  left : m.left = -1
  pend : m.pending.length ≤ k
namespace Live
variable {m : DevM} {n k : Nat}
theorem fresh (n : Nat) : Live (DevM.fresh n) n 0 := ⟨List.length_replicate .., rfl, rfl, Nat.le_refl _⟩
theorem more (h : Live m n k) {k' : Nat} (hk : k ≤ k') : Live m n k' := ⟨h.len, h.dead, h.left, Nat.le_trans h.pend hk⟩
theorem lasts (h : Live m n k) : m.lasts = true := by unfold DevM.lasts; rw [h.dead, h.left]; rfl
theorem spend (h : Live m n k) : m.tick.spend = m.tick := by
  have : m.tick.lasts = true := h.lasts
  unfold DevM.spend
  rw [this, if_pos rfl, if_neg (by show ¬ 0 < m.left; rw [h.left]; decide)]
theorem write (h : Live m n k) (i : Int) (s : Sec) : Live (m.write i s).1 n (k + 1) := by
  have hp := h.pend
  unfold DevM.write
  rw [h.lasts, h.spend]
  split
  · exact ⟨h.len, h.dead, h.left, by show (m.pending ++ [_]).length ≤ _; rw [List.length_append, List.length_singleton]; omega⟩
  · exact ⟨h.len, h.dead, h.left, by show m.pending.length ≤ _; omega⟩
theorem tick (h : Live m n k) : Live m.tick n k := ⟨h.len, h.dead, h.left, h.pend⟩
theorem ticks (h : Live m n k) (c : Nat) : Live (m.ticks c) n k := by
  induction c with
  | zero => exact h
  | succ c ih => exact ih.tick
theorem has (h : Live m n k) {i : Int} (h0 : 0 ≤ i) (h1 : i < n) : m.has i = true := by
  unfold DevM.has
  rw [h.len, decide_eq_true h0, decide_eq_true h1]
  rfl
theorem rot2 (h : Live m n k) {i : Int} (h0 : 0 ≤ i) (h1 : i < n) (s : Sec) : (m.rot i s).2 = 0 := by unfold DevM.rot; rw [h.has h0 h1]; rfl
theorem rot (h : Live m n k) {i : Int} (h0 : 0 ≤ i) (h1 : i < n) (s : Sec) : Live (m.rot i s).1 n k ∧ (m.rot i s).1.now = m.now.set i.toNat s := by
  unfold DevM.rot
  rw [h.has h0 h1]
  exact ⟨⟨by show (m.stable.set _ _).length = n; rw [List.length_set]; exact h.len, h.dead, h.left, by show (m.pending.map _).length ≤ k; rw [List.length_map]; exact h.pend⟩, rot_now _ _ _ _⟩
theorem read (h : Live m n k) {i : Nat} (hi : i < n) : m.read (i : Int) = (m.now.getD i sec0, 0) := by
  unfold DevM.read
  rw [h.has (by omega) (by omega), h.dead]
  simp
theorem slot (h : Live m n k) {i : Nat} (hi : i < n) : m.slot i = match u5O (m.now.getD i sec0) with | some u => if u.x % 4 = i then some u else none | none => none := by
  unfold DevM.slot
  rw [h.read hi]
  rfl
end Live
theorem ticks_now (m : DevM) (k : Nat) : (m.ticks k).now = m.now := by
  induction k with
  | zero => rfl
  | succ k ih => exact ih

/-- the ring ahead and behind: what it tells of the others, and of the sector that was overwritten -/
theorem spoil_in {m : DevM} {k : Nat} (h : Live m 4 k) {j : Nat} (hj : j < 4) (s : Sec) {u : U5} (hu : u ∈ m.list) (hx : u.x % 4 ≠ j) : u ∈ (m.rot (j : Int) s).1.list := by
  obtain ⟨h1, h2⟩ := h.rot (i := (j : Int)) (by omega) (by omega) s
  have hl := list_mem.1 hu
  have hx4 : u.x % 4 < 4 := Nat.mod_lt _ (by decide)
  refine list_mem.2 ?_
  rw [h1.slot hx4, h2, List.getD_eq_getElem?_getD, List.getElem?_set_ne (by simpa using Ne.symm hx), ← List.getD_eq_getElem?_getD, ← h.slot hx4, hl]
theorem spoil_at {m : DevM} {k : Nat} (h : Live m 4 k) {j : Nat} (hj : j < 4) (s : Sec) {u : U5} (hu : u5O s = some u) (hx : u.x % 4 = j) : u ∈ (m.rot (j : Int) s).1.list := by
  obtain ⟨h1, h2⟩ := h.rot (i := (j : Int)) (by omega) (by omega) s
  refine list_mem.2 ?_
  rw [hx, h1.slot hj, h2, List.getD_eq_getElem?_getD, Int.toNat_natCast, List.getElem?_set_self (by rw [DevM.now_length, h.len]; exact hj), Option.getD_some, hu]
  simp [hx]
theorem list_right {m : DevM} {u : U5} (hu : u ∈ m.list) : u.rightB = true := (u5O_some (slot_x (list_mem.1 hu)).2).1
theorem list_fit {m : DevM} {u : U5} (hu : u ∈ m.list) : u.Fit := u5O_fit (slot_x (list_mem.1 hu)).2
theorem zero_not {m : DevM} : u5z ∉ m.list := fun h => by
  have := (right_parts (list_right h)).1
  exact absurd this (by decide)

/-- is it one of them? -/
def anyB (u : U5) (l : List U5) : Bool := l.any fun v => u.eqB v
theorem anyB_iff {u : U5} {l : List U5} : anyB u l = true ↔ u ∈ l := by
  unfold anyB
  rw [List.any_eq_true]
  exact ⟨fun ⟨v, hv, e⟩ => U5.eqB_iff.1 e ▸ hv, fun h => ⟨u, h, U5.eqB_self u⟩⟩
theorem anyB_nil (u : U5) (l : List U5) : anyB u (l.take 0) = false := rfl
theorem anyB_succ (u : U5) {l : List U5} {k : Nat} (h : k < l.length) : anyB u (l.take (k + 1)) = (anyB u (l.take k) || u.eqB l[k]) := by
  unfold anyB
  rw [List.take_succ_eq_append_getElem h, List.any_append]
  simp
theorem eqB_symm (u v : U5) : u.eqB v = v.eqB u := by
  cases h : v.eqB u with
  | true => exact U5.eqB_iff.2 (U5.eqB_iff.1 h).symm
  | false => exact U5.eqB_ne fun e => by rw [e, U5.eqB_self] at h; cases h

/-- a list that lies beside a device -/
structure Beside (w : World) (F : Nat → Prop) (ao : Option Addr) (cs : List Value) : Prop where
  reads : Reads w ao cs
  lt : cs ≠ [] → ∀ a, ao = some a → a.block < w.heap.size ∧ ¬ F a.block
namespace Beside
variable {w w' : World} {F F' : Nat → Prop} {ao : Option Addr} {cs : List Value}
theorem turn (h : Beside w F ao cs) (k : Kept F w w') (g : Grows w.heap.size F F') : Beside w' F' ao cs := by
  by_cases hc : cs = []
  · subst hc; exact ⟨Reads.nil _ _, fun h => absurd rfl h⟩
  · exact ⟨h.reads.keep fun p hp ⟨a, ha, hb⟩ => k.cell hp (by rw [hb]; exact (h.lt hc a ha).2), fun hc a ha => ⟨Nat.lt_of_lt_of_le (h.lt hc a ha).1 k.size, g.not (h.lt hc a ha).2 (h.lt hc a ha).1⟩⟩
theorem of_list {w0 : World} {xs : List U5} (h : ListAt w0 w F ao xs) : Beside w F ao (rowsL u5L xs) :=
  ⟨h.1, fun hc a ha => ⟨h.1.lt 0 (List.length_pos_iff.2 hc) a ha, (h.2 a ha).2⟩⟩
end Beside
/-- the device turns, its blocks known by name -/
theorem TS.turnF {w0 w w' : World} {d : Nat} {F F' : Nat → Prop} {m m' : DevM} {L : List (Nat × TypeId × List Value)} (h : TS w0 w d F m L) (h1 : IsDev w' d F' m') (h2 : Kept F w w') (h3 : Grows w.heap.size F F') : TS w0 w' d F' m' L :=
  ⟨⟨h1, h3.low h.obj.low h.obj.q.size, Kept.out h.obj.q h2 (fun i _ hf => h.obj.low i hf) h.obj.q.size⟩, fun x hx => (h.blk x hx).kept h2 (h.not x hx), fun x hx => h3.not (h.not x hx) (h.blk x hx).lt, h.low⟩
end Go.Proofs.Ytfblehdeoloijaa

/- The document's own Bytes of an uber. -/
namespace Go.Proofs.Ytfblehdeoloijaa
open Go.ChangeShapes Go.WideShapes Go.ChangeAt Go.RowKit
set_option linter.unusedVariables false
set_option maxRecDepth 20000

/-- in the midst of it: the uber's box, the zero of the result, and the bytes so far -/
structure RB (w0 w : World) (u : U5) (v : Value) (bs : List UInt8) : Prop where
  u : Blk w w0.heap.size 27 (u5L u)
  z : Blk w (w0.heap.size + 1) 34 (secL sec0)
  q : Below w0.heap.size w0 w
  own : Own w (w0.heap.size + 2) 5 v (bytesV bs)
namespace RB
variable {w0 w w' : World} {u : U5} {v v' : Value} {bs cs : List UInt8}
theorem base (h : RB w0 w u v bs) : w0.heap.size + 2 ≤ w.heap.size := h.z.lt
theorem call (h : RB w0 w u v bs) (hb : Below w.heap.size w w') : RB w0 w' u v bs := ⟨blk_out h.u hb, blk_out h.z hb, h.q.trans (hb.mono h.q.size), h.own.below hb⟩
theorem app (h : RB w0 w u v bs) (ho : Own w' (w0.heap.size + 2) 5 v' (bytesV bs ++ bytesV cs)) (hg : Grew w w' v v') : RB w0 w' u v' (bs ++ cs) := by
  have hb : Below (w0.heap.size + 2) w w' := hg.out h.base (fun g hg' => (h.own.lt g hg').1)
  exact ⟨h.u.below hb (by omega), h.z.below hb (by omega), h.q.trans (hb.mono (by omega)), by rw [bytesV_append]; exact ho⟩
end RB
theorem lenZeros (n : Nat) : (zerosB n).length = n := zerosB_length n
theorem zerosB_snoc (n : Nat) : zerosB n ++ [0] = zerosB (n + 1) := by unfold zerosB; rw [List.replicate_succ']
theorem fill_one {bs : List UInt8} (h : bs.length = 128) {k : Nat} (hk : k < bs.length) : (bytesV (bs.take k ++ zerosB (128 - k))).set k (byteV bs[k]) = bytesV (bs.take (k + 1) ++ zerosB (128 - (k + 1))) := by
  have hl : (bs.take k).length = k := by rw [List.length_take]; omega
  have e : zerosB (128 - k) = 0 :: zerosB (128 - (k + 1)) := by unfold zerosB; rw [← List.replicate_succ]; congr 1; omega
  have e2 : (bs.take k ++ zerosB (128 - k)).set k bs[k] = bs.take (k + 1) ++ zerosB (128 - (k + 1)) := by
    rw [e, List.set_append_right _ _ (by omega), hl, Nat.sub_self, List.set_cons_zero, List.take_succ_eq_append_getElem hk, List.append_assoc]
    rfl
  rw [← e2]
  unfold bytesV
  rw [List.map_set]

/-- a slice's length -/
def lenOf : Value → Nat
  | .slice _ n _ => n
  | _ => 0

/-- an append to a row that has no room, whatever row it is -/
theorem wpList_own_first {P : Program} {ops : Array Oper} {rest : List Oper} {o : Oper} {a : Act} {w : World} {Q : Exit → Act → World → Prop} (hgd : o.guard = none) (s x : Operand) (t : TypeId)
    (ho : o.op = .call { callee := .builtin .append, args := #[s, x], argTypes := #[t, t] })
    (base : Nat) (e : TypeId) (i : TypeInfo) (z : Value) (bytes : Nat) (ht : P.underlying t = some (.slice e)) (hi : P.info? e = some i) (hz : i.zero = some z)
    (hsize : i.size = 1) (hby : i.bytes = bytes) (hzs : z.cells.size = 1)
    (g : Nat) (n : Nat) (olds : List Value) (hs : a.eval s = .slice (some ⟨g, 0, none⟩) n n) (hlo : olds.length = n) (hold : Reads w (some ⟨g, 0, none⟩) olds)
    (v1 : Value) (news : List Value) (hv : Own w base e v1 news) (hx : a.eval x = v1) (h0 : 0 < news.length) (h1 : ∀ u ∈ news, u.oneCell' = true)
    (h63 : n + news.length ≤ 1000000) (hbytes : (n + news.length) * bytes ≤ 140737488355328) (hbase : base ≤ w.heap.size)
    (h : ∀ v' w', Own w' base e v' (olds ++ news) → Below w.heap.size w w' → wpList P ops Q rest (a.put o.dst v') w') :
    wpList P ops Q (o :: rest) a w := by
  obtain ⟨g1, cap1, rfl, _, _, hc1, _⟩ := hv.open h0
  refine wpList_append_grows w hgd s x t ho e i z 1 bytes ht hi hz hsize hby hzs (by decide) (some ⟨g, 0, none⟩) n n olds hs (fun h => by cases h) (by simpa using hlo) (fun b hb j u hu => hold.cellsAt b hb j u hu) ⟨g1, 0, none⟩ news.length cap1 news hx (by simp) (fun j u hu => hv.reads.cellsAt _ rfl j u hu) h1 (by omega) (by unfold maxLen; omega) hbytes ?_
  intro v' w' h2 h3
  refine h v' w' ?_ ((Kept.of_grown (F := fun _ => False) h3 (fun k hk => by cases hk)).below (fun _ _ h => h.elim) (Nat.le_refl _))
  have := Own.le (w := w') (base' := base) (base := w.heap.size) (e := e) (v := v') (cs := olds ++ news) (by unfold Own; rw [List.length_append, hlo]; exact h2) hbase
  exact this

set_option maxHeartbeats 2000000 in
theorem refUBytes_no (u : U5) (w : World) (h : u.Fit) (hr : u.rightB = false) :
    Calls Try.prog 13 #[u5V u] w (SRes 61 none w) := by
  have hR := fun W => refURight_any u W h
  rw [hr] at hR
  have hz := zeroSec
  have hbs := built_sec0
  obtain ⟨x, y, ⟨a, b, s⟩, l, n⟩ := u
  unfold u5V at *
  dsimp only at *
  have hR := Lib.hid hR
  clear h hr
  go_enter Try.func13, Try.ntmps13
  go_wp2_with fail
  refine (hR.out _).mono ?_
  rintro e w1 ⟨rfl, hb1⟩
  have hZ1 := Lib.hid (Blk.below (two_new w (.cells #[.int .u64 (x : Int), .int .u64 (y : Int), .int .i64 a, .int .u64 (b : Int), .int .u32 (s : Int), .int .i64 l, .int .i64 n] 27) 34 (secL sec0)) hb1 (by simp))
  have q1 := Lib.hid ((two_below w _ _).trans (hb1.mono (by simp; omega)))
  clear hb1
  go_wp2_with ((with_reducible refine guardList ?_)
               refine wantList_store (by rfl) 34 _ _ rfl (w.heap.size + 1) 0 (by rfl) (secL sec0) (by rfl) _ (secL sec0) (secL sec0) hZ1.out (by rw [secL_length]; decide) (secL_one _) (infoSecL _) whole_sec ?_
               intro w2 hZ2 k2 z2
               have hZ2 := Lib.hid hZ2
               have q2 := Lib.hid (Kept.out q1.out k2 (fun i _ e => by omega) q1.out.size))
  refine bodyPost_ret (results_row_tmp rfl (rowSec hZ2.out)) rfl ⟨rfl, q2.out⟩

set_option maxHeartbeats 8000000 in
theorem refUBytes_yes (u : U5) (w : World) (h : u.Fit) (hr : u.rightB = true) :
    Calls Try.prog 13 #[u5V u] w (SRes 61 (some u.sec) w) := by
  obtain ⟨i0, hi, hz0, hz1, hz2⟩ := info_parts infoU8
  have hR := fun W => refURight_any u W h
  rw [hr] at hR
  obtain ⟨x1, x2, y1, y2, hpr, _, l1, l2, n1, n2⟩ := right_parts hr
  have hbytes := fun W => pRefBytes_any u.p.a u.p.b u.p.s W h.2.2.1
  have hzs : Hid (u.p.bytesO = some u.p.bytes) := Lib.hid (by unfold P3.bytesO; rw [hpr]; rfl)
  have hs4 : Hid (u.sumN < 4294967296) := Lib.hid (by have : u.sumN < 256 ^ 4 := crcMore_lt _ _; omega)
  have hz := zeroSec
  have hbs := built_sec0
  -- the bytes, step by step
  obtain ⟨S1, hS1⟩ : ∃ S1 : Nat → List UInt8, S1 = fun k => markB ++ u.ab.take (8 * k) := ⟨_, rfl⟩
  obtain ⟨S2, hS2⟩ : ∃ S2 : Nat → List UInt8, S2 = fun k => markB ++ (u.ab ++ (u.p.bytes ++ u.nb.take (4 * k))) := ⟨_, rfl⟩
  have la : (leB 8 u.x).length = 8 := leB_length _ _
  have la' : (leB 8 u.y).length = 8 := leB_length _ _
  have lb : (leB 4 u.l.toNat).length = 4 := leB_length _ _
  have lb' : (leB 4 u.n.toNat).length = 4 := leB_length _ _
  have a0 : Hid (S1 0 = markB) := Lib.hid (by rw [hS1]; simp)
  have a1 : S1 1 = S1 0 ++ leB 8 u.x := by rw [hS1]; simp [U5.ab, la]
  have a2 : S1 2 = S1 1 ++ leB 8 u.y := by rw [hS1]; simp [U5.ab, la, la', List.take_of_length_le]
  have a3 : Hid (S2 0 = S1 2 ++ u.p.bytes) := Lib.hid (by rw [hS1, hS2]; simp [List.take_of_length_le, U5.ab_length])
  have a4 : S2 1 = S2 0 ++ leB 4 u.l.toNat := by rw [hS2]; simp [U5.nb, lb]
  have a5 : S2 2 = S2 1 ++ leB 4 u.n.toNat := by rw [hS2]; simp [U5.nb, lb, lb', List.take_of_length_le]
  have a6 : Hid (S2 2 ++ zerosB 80 = u.body) := Lib.hid (by rw [hS2, U5.body]; simp [List.take_of_length_le, U5.nb_length])
  have a7 : Hid (u.body ++ leB 4 u.sumN = u.sec.1) := Lib.hid rfl
  have k1 : ∀ k, k ≤ 2 → Hid ((S1 k).length = 4 + 8 * k) := fun k hk => Lib.hid (by rw [hS1]; simp [markB, U5.ab_length]; omega)
  have k2 : ∀ k, k ≤ 2 → Hid ((S2 k).length = 36 + 4 * k) := fun k hk => Lib.hid (by rw [hS2]; simp [markB, U5.ab_length, P3.bytes_length, U5.nb_length]; omega)
  have hsl := Lib.hid u.sec.2
  have hbl := Lib.hid u.body_length
  have hsum : Hid (crcMore 0 u.body = u.sumN) := Lib.hid rfl
  have hpl : Hid (u.p.bytes.length = 16) := Lib.hid (P3.bytes_length _)
  have ix1 : ∀ k, k < 2 → ∃ z : Nat, z < 18446744073709551616 ∧ Hid (S1 (k + 1) = S1 k ++ leB 8 z) ∧ ∀ w, (Instr.index 81 (.agg #[.int .u64 (u.x : Int), .int .u64 (u.y : Int)]) (.int .i64 (k : Int))).run Try.prog w = .ok (.int .u64 (z : Int)) w := fun k hk => by
    match k, hk with
    | 0, _ => exact ⟨u.x, by omega, Lib.hid a1, fun _ => by kernel_rfl⟩
    | 1, _ => exact ⟨u.y, by omega, Lib.hid a2, fun _ => by kernel_rfl⟩
  have ix2 : ∀ k, k < 2 → ∃ z : Nat, z < 65536 ∧ Hid (S2 (k + 1) = S2 k ++ leB 4 z) ∧ ∀ w, (Instr.index 86 (.agg #[.int .i64 u.l, .int .i64 u.n]) (.int .i64 (k : Int))).run Try.prog w = .ok (.int .i64 (z : Int)) w := fun k hk => by
    match k, hk with
    | 0, _ => exact ⟨u.l.toNat, by omega, Lib.hid a4, fun _ => by rw [Int.toNat_of_nonneg (by omega)]; kernel_rfl⟩
    | 1, _ => exact ⟨u.n.toNat, by omega, Lib.hid a5, fun _ => by rw [Int.toNat_of_nonneg (by omega)]; kernel_rfl⟩
  have k1 := Lib.hid k1
  have k2 := Lib.hid k2
  have ix1 := Lib.hid ix1
  have ix2 := Lib.hid ix2
  clear hS1 hS2 la la' lb lb' a1 a2 a4 a5 h hr hpr
  generalize u.sec = S at *
  generalize u.sumN = N at *
  generalize u.body = BD at *
  obtain ⟨TB, hTB⟩ : ∃ TB, TB = u.p.bytes := ⟨_, rfl⟩
  rw [← hTB] at hzs a3 hpl
  clear hTB
  obtain ⟨x, y, ⟨a, b, s⟩, l, n⟩ := u
  unfold u5V p3V at *
  dsimp only at *
  have hR := Lib.hid hR
  have hbytes := Lib.hid hbytes
  go_enter Try.func13, Try.ntmps13
  go_wp2_with fail
  refine (hR.out _).mono ?_
  rintro e w1 ⟨rfl, hb1⟩
  have hU1 : Hid (Blk w1 w.heap.size 27 (u5L ⟨x, y, ⟨a, b, s⟩, l, n⟩)) := Lib.hid (blk_out ((Blk.new w 27 (u5L ⟨x, y, ⟨a, b, s⟩, l, n⟩)).alloc _) hb1)
  have hZ1 := Lib.hid (blk_out (two_new w (.cells #[.int .u64 (x : Int), .int .u64 (y : Int), .int .i64 a, .int .u64 (b : Int), .int .u32 (s : Int), .int .i64 l, .int .i64 n] 27) 34 (secL sec0)) hb1)
  have q1 := Lib.hid ((two_below w _ _).trans (hb1.mono (by simp; omega)))
  have hlt1 := hZ1.out.lt
  clear hb1
  obtain ⟨c0, c1, c2, c3, c4, c5, c6⟩ := UAt.cells hU1.out
  obtain ⟨w2, hw2⟩ : ∃ w2 : World, Hid (w2 = w1.alloc (.cells #[.int .u8 65, .int .u8 81, .int .u8 70, .int .u8 82] 5 (4, 5))) := ⟨_, Lib.hid rfl⟩
  have hcv : (convert 76 76 (.slice (some ⟨w1.heap.size, 0, none⟩) 4 4)).run Try.prog (w1.alloc (.cells #[.int .u8 65, .int .u8 81, .int .u8 70, .int .u8 82] 5)) = .ok (.slice (some ⟨w1.heap.size, 0, none⟩) 4 4) w2 := by
    rw [hw2.out]
    exact Lib.run_convert_bytes_const w1 76 5 #[.int .u8 65, .int .u8 81, .int .u8 70, .int .u8 82] 4 4 Try.underlying76 Try.underlying5
  have b2 : Below w1.heap.size w1 w2 := by rw [hw2.out]; exact (Below.refl _ _).alloc (Nat.le_refl _) _
  have hU2 := Lib.hid (blk_out hU1.out b2)
  have hZ2 := Lib.hid (blk_out hZ1.out b2)
  have q2 := Lib.hid (q1.out.trans (b2.mono q1.out.size))
  have hm2 : Hid (Reads w2 (some ⟨w1.heap.size, 0, none⟩) (bytesV markB)) := Lib.hid (by
    intro i hi
    refine ⟨w1.heap.size, 0, rfl, ?_⟩
    rw [hw2.out, cell_of_row _ w1.heap.size (0 + i) #[.int .u8 65, .int .u8 81, .int .u8 70, .int .u8 82] _ (4, 5) (heap_alloc_new w1 _)]
    have : bytesV markB = [.int .u8 65, .int .u8 81, .int .u8 70, .int .u8 82] := rfl
    simp only [this, Nat.zero_add, List.getElem?_toArray]
    exact List.getElem?_eq_getElem _)
  clear hU1 hZ1 b2 hw2 q1 c0 c1 c2 c3 c4 c5 c6
  obtain ⟨c0, c1, c2, c3, c4, c5, c6⟩ := UAt.cells hU2.out
  go_wp2
  clear c0 c1 c2 c3 c4 c5 c6
  have hl2 : w1.heap.size < w2.heap.size := Reads.lt hm2.out 0 (by decide) _ rfl
  go_loopw [4, 30] (fun v i wr => (i = .int .i64 0 ∧ v = .slice (some ⟨w1.heap.size, 0, none⟩) 4 4 ∧ wr = w2) ∨ ∃ k : Nat, 1 ≤ k ∧ k ≤ 2 ∧ i = .int .i64 k ∧ Hid (RB w wr ⟨x, y, ⟨a, b, s⟩, l, n⟩ v (S1 k)))
    (fun _ i _ => 2 - (intOf i).toNat)
  case atStart => exact .inl ⟨rfl, rfl, rfl⟩
  case round =>
    rcases hrel with ⟨rfl, rfl, rfl⟩ | ⟨k, hk1, hk2, rfl, H⟩
    · obtain ⟨z, hz64, hS, hix⟩ := ix1.out 0 (by decide)
      have hix : ∀ w, (Instr.index 81 (.agg #[.int .u64 (x : Int), .int .u64 (y : Int)]) (.int .i64 0)).run Try.prog w = .ok (.int .u64 (z : Int)) w := hix
      go_wp2_with fail
      refine (refNumber_any 8 z wr (by decide) hz64).mono ?_
      rintro e w3 ⟨v1, rfl, ho1, b3⟩
      have hm3 := Lib.hid (hm2.out.below b3)
      have hU3 := Lib.hid (blk_out hU2.out b3)
      have hZ3 := Lib.hid (blk_out hZ2.out b3)
      have q3 := Lib.hid (q2.out.trans (b3.mono q2.out.size))
      have ho1 := Lib.hid (ho1.le (base' := w.heap.size + 2) (by omega))
      have hz3 := hZ3.out.lt
      clear b3
      go_wp2_with (first
        | (at_builtin
           refine wpList_own_first rfl (.tmp 38) (.tmp 39) 76 rfl (w.heap.size + 2) 5 i0 (.int .u8 0) 1 Try.underlying76 hi hz0 hz1 hz2 rfl w1.heap.size 4 (bytesV markB) rfl (by rfl) hm3.out v1 (bytesV (leB 8 z)) ho1.out rfl (by rw [bytesV_length, leB_length]; decide) (bytesV_one _) (by rw [bytesV_length, leB_length]; decide) (by rw [bytesV_length, leB_length]; decide) (by omega) ?_
           intro v2 w4 ho4 b4
           have H4 : Hid (RB w w4 ⟨x, y, ⟨a, b, s⟩, l, n⟩ v2 (S1 1)) := Lib.hid ⟨blk_out hU3.out b4, blk_out hZ3.out b4, q3.out.trans (b4.mono q3.out.size), by rw [show S1 1 = _ from hS.out, a0.out, bytesV_append]; exact ho4⟩
           clear ho4 b4))
      go_roundw
      case rel => exact .inr ⟨1, by omega, by omega, by go_num, H4⟩
      case measure => simp [intOf] <;> omega
    · by_cases hlt : k < 2
      · obtain ⟨z, hz64, hS, hix⟩ := ix1.out k hlt
        have lS := (k1.out k (by omega)).out
        have lS := Lib.hid lS
        have hbase := H.out.base
        go_wp2_with fail
        refine (refNumber_any 8 z wr (by decide) hz64).mono ?_
        rintro e w3 ⟨v1, rfl, ho1, b3⟩
        have H3 := Lib.hid (H.out.call b3)
        obtain ⟨ao1, cap1, rfl, _, _, n1, r1, _⟩ := ho1.shapeN (n := 8) (by rw [bytesV_length, leB_length])
        have hbase3 := H3.out.base
        have r1 := Lib.hid r1
        have n1 := Lib.hid n1
        clear b3 ho1 hbase
        go_wp2_with (first
          | (at_builtin
             refine wpList_own_app rfl (.tmp 38) (.tmp 39) 76 rfl (w.heap.size + 2) 5 i0 (.int .u8 0) 1 Try.underlying76 hi hz0 hz1 hz2 rfl _ (bytesV (S1 k)) _ rfl H3.out.own ao1 8 cap1 (bytesV (leB 8 z)) rfl n1.out (by rw [bytesV_length, leB_length]) r1.out (bytesV_one _) (by rw [bytesV_length, lS.out]; omega) (by rw [bytesV_length, lS.out]; omega) hbase3 ?_
             intro v2 w4 ho4 hg4
             have H4 : Hid (RB w w4 ⟨x, y, ⟨a, b, s⟩, l, n⟩ v2 (S1 (k + 1))) := Lib.hid (by rw [hS.out]; exact H3.out.app ho4 hg4)
             clear ho4 hg4))
        go_roundw
        case rel => exact .inr ⟨k + 1, by omega, by omega, by go_num, H4⟩
        case measure => simp [intOf] <;> omega
      · obtain rfl : k = 2 := by omega
        clear hlt hk1 hk2 hm2 hU2 hZ2 q2 ix1
        obtain ⟨c0, c1, c2, c3, c4, c5, c6⟩ := UAt.cells H.out.u
        have hlr := H.out.base
        go_wp2_with fail
        refine (hbytes.out _).mono ?_
        intro e w5 hB
        obtain ⟨ao5, cap5, rfl, r5, hc5, hm5, n5, b5⟩ := hB.yes (m := 16) hzs.out hpl.out
        have H5 := Lib.hid (H.out.call b5)
        have hbase5 := H5.out.base
        have lS := Lib.hid (k1.out 2 (by omega)).out
        clear b5 hB c0 c1 c2 c3 c4 c5 c6 hlr H
        go_wp2_with (first
          | (at_builtin
             refine wpList_own_app rfl (.tmp 48) (.tmp 49) 76 rfl (w.heap.size + 2) 5 i0 (.int .u8 0) 1 Try.underlying76 hi hz0 hz1 hz2 rfl _ (bytesV (S1 2)) _ rfl H5.out.own ao5 16 cap5 (bytesV (TB)) rfl n5.out (by rw [bytesV_length, hpl.out]) r5.out (bytesV_one _) (by rw [bytesV_length, lS.out]; omega) (by rw [bytesV_length, lS.out]; omega) hbase5 ?_
             intro v6 w6 ho hg
             have H6 : Hid (RB w w6 ⟨x, y, ⟨a, b, s⟩, l, n⟩ v6 (S2 0)) := Lib.hid (by rw [a3.out]; exact H5.out.app ho hg)
             have c5 : w6.cell? ⟨w.heap.size, 5, none⟩ = some (.int .i64 l) := H6.out.u.cell 5
             have c6 : w6.cell? ⟨w.heap.size, 6, none⟩ = some (.int .i64 n) := H6.out.u.cell 6
             clear ho hg))
        clear H5 hbase5 r5 n5 lS hzs c5 c6
        go_loopw [4, 56] (fun v i wr => ∃ k : Nat, k ≤ 2 ∧ i = .int .i64 k ∧ Hid (RB w wr ⟨x, y, ⟨a, b, s⟩, l, n⟩ v (S2 k)))
          (fun _ i _ => 2 - (intOf i).toNat)
        case atStart => exact ⟨0, by omega, rfl, H6⟩
        case round =>
          obtain ⟨k, hk2, rfl, H⟩ := hrel
          by_cases hlt : k < 2
          · obtain ⟨z, hz64, hS, hix⟩ := ix2.out k hlt
            have lS := Lib.hid (k2.out k (by omega)).out
            go_wp2_with fail
            (try rw [IntWalk.u64_in (z : Int) (by omega)])
            refine (refNumber_any 4 z wr (by decide) (by omega)).mono ?_
            rintro e w3 ⟨v1, rfl, ho1, b3⟩
            have H3 := Lib.hid (H.out.call b3)
            obtain ⟨ao1, cap1, rfl, _, _, n1, r1, _⟩ := ho1.shapeN (n := 4) (by rw [bytesV_length, leB_length])
            have hbase3 := H3.out.base
            have r1 := Lib.hid r1
            have n1 := Lib.hid n1
            clear b3 ho1
            go_wp2_with (first
              | (at_builtin
                 refine wpList_own_app rfl (.tmp 65) (.tmp 66) 76 rfl (w.heap.size + 2) 5 i0 (.int .u8 0) 1 Try.underlying76 hi hz0 hz1 hz2 rfl _ (bytesV (S2 k)) _ rfl H3.out.own ao1 4 cap1 (bytesV (leB 4 z)) rfl n1.out (by rw [bytesV_length, leB_length]) r1.out (bytesV_one _) (by rw [bytesV_length, lS.out]; omega) (by rw [bytesV_length, lS.out]; omega) hbase3 ?_
                 intro v2 w4 ho hg
                 have H4 : Hid (RB w w4 ⟨x, y, ⟨a, b, s⟩, l, n⟩ v2 (S2 (k + 1))) := Lib.hid (by rw [hS.out]; exact H3.out.app ho hg)
                 clear ho hg))
            go_roundw
            case rel => exact ⟨k + 1, by omega, by go_num, H4⟩
            case measure => simp [intOf] <;> omega
          · obtain rfl : k = 2 := by omega
            clear hlt hk2 H6 ix2
            have hl44 := Lib.hid (k2.out 2 (by omega)).out
            clear k1 k2
            obtain ⟨SA, hSA⟩ : ∃ SA, SA = S2 2 := ⟨_, rfl⟩
            rw [← hSA] at H a6 hl44
            clear hSA
            obtain ⟨ao4, cap4, rfl, _⟩ := H.out.own.shapeN (n := 44) (by rw [bytesV_length]; exact hl44.out)
            go_wp2
            go_loopw [4] (fun v wr => ∃ (nn : Nat) (ao : Option Addr) (cap : Nat), 44 ≤ nn ∧ nn ≤ 124 ∧ v = .slice ao nn cap ∧ Hid (RB w wr ⟨x, y, ⟨a, b, s⟩, l, n⟩ v (SA ++ zerosB (nn - 44))))
              (fun v _ => 124 - lenOf v)
            case atStart => exact ⟨44, ao4, cap4, by omega, by omega, rfl, Lib.hid (by rw [Nat.sub_self, show zerosB 0 = [] from rfl, List.append_nil]; exact H.out)⟩
            case round =>
              clear H
              obtain ⟨nn, ao, cap, hn1, hn2, rfl, H⟩ := hrel
              by_cases hlt : nn < 124
              · have hbase := H.out.base
                have hlS : Hid ((bytesV (SA ++ zerosB (nn - 44))).length = nn) := Lib.hid (by rw [bytesV_length, List.length_append, hl44.out, zerosB_length]; omega)
                go_wp2_with (first
                  | (at_builtin
                     refine wpList_own_push rfl (.tmp 72) (.tmp 73) 76 rfl (w.heap.size + 2) 5 i0 (.int .u8 0) 1 Try.underlying76 hi hz0 hz1 hz2 rfl (.slice ao nn cap) (bytesV (SA ++ zerosB (nn - 44))) wr (by rfl) H.out.own 1 (.int .u8 0) rfl rfl (by rw [hlS.out]; omega) (by rw [hlS.out]; omega) hbase ?_
                     intro v2 w4 ho hg
                     have H4 : Hid (RB w w4 ⟨x, y, ⟨a, b, s⟩, l, n⟩ v2 (SA ++ zerosB (nn + 1 - 44))) := Lib.hid (by
                       have := H.out.app (cs := [0]) ho hg
                       rw [List.append_assoc, zerosB_snoc] at this
                       rw [show nn + 1 - 44 = nn - 44 + 1 from by omega]
                       exact this)
                     obtain ⟨ao5, cap5, rfl, _⟩ := H4.out.own.shapeN (n := nn + 1) (by rw [bytesV_length, List.length_append, hl44.out, zerosB_length]; omega)
                     clear ho hg))
                go_roundw
                case rel => first | exact ⟨nn + 1, ao5, cap5, by omega, by omega, rfl, H4⟩ | ((repeat apply Exists.intro); exact ⟨⟨nn + 1, ao5, cap5, by omega, by omega, rfl, H4⟩, rfl⟩)
                case measure => simp [lenOf] <;> omega
              · obtain rfl : nn = 124 := by omega
                have H : Hid (RB w wr ⟨x, y, ⟨a, b, s⟩, l, n⟩ (.slice ao 124 cap) BD) := Lib.hid (by have := H.out; rw [show (124 - 44 : Nat) = 80 from rfl, a6.out] at this; exact this)
                clear hlt hn1 hn2 a6 hl44
                have hM : Hid (∀ W, Below wr.heap.size wr W → Calls Try.prog 39 #[.int .u32 0, .slice ao 124 cap] W fun e w' => e = .returned (.int .u32 (N : Int)) ∧ W = w') := Lib.hid (fun W hb => by
                  have := refMore_any 0 (by decide) ao BD cap W (Reads.below H.out.own.reads hb) (by rw [hbl.out]; decide)
                  rw [hbl.out, hsum.out] at this
                  exact this)
                have hN := hs4.out
                go_wp2_with fail
                refine (hM.out wr (Below.refl _ _)).mono ?_
                rintro e w5 ⟨rfl, rfl⟩
                go_wp2_with fail
                (try rw [IntWalk.u64_in (N : Int) (by omega)])
                refine (refNumber_any 4 N wr (by decide) (by omega)).mono ?_
                rintro e w6 ⟨v1, rfl, ho1, b6⟩
                have H6 := Lib.hid (H.out.call b6)
                obtain ⟨ao1, cap1, rfl, _, _, n1, r1, _⟩ := ho1.shapeN (n := 4) (by rw [bytesV_length, leB_length])
                have hbase6 := H6.out.base
                have r1 := Lib.hid r1
                have n1 := Lib.hid n1
                clear b6 ho1 hM
                go_wp2_with (first
                  | (at_builtin
                     refine wpList_own_app rfl (.tmp 82) (.tmp 83) 76 rfl (w.heap.size + 2) 5 i0 (.int .u8 0) 1 Try.underlying76 hi hz0 hz1 hz2 rfl _ (bytesV BD) _ rfl H6.out.own ao1 4 cap1 (bytesV (leB 4 N)) rfl n1.out (by rw [bytesV_length, leB_length]) r1.out (bytesV_one _) (by rw [bytesV_length, hbl.out]; omega) (by rw [bytesV_length, hbl.out]; omega) hbase6 ?_
                     intro v8 w8 ho hg
                     have H8 : Hid (RB w w8 ⟨x, y, ⟨a, b, s⟩, l, n⟩ v8 S.1) := Lib.hid (by rw [← a7.out]; exact H6.out.app ho hg)
                     have ⟨g8, cap8, e8, f8⟩ := H8.out.own.open (by rw [bytesV_length, hsl.out]; decide)
                     rw [bytesV_length, hsl.out] at e8
                     subst e8
                     have hbase8 := H8.out.base
                     clear ho hg)
                  | ((with_reducible refine guardList ?_)
                     refine wantList_store (by rfl) 34 _ _ rfl w8.heap.size 0 (by rfl) (secL sec0) (by rfl) _ (secL sec0) (secL sec0) (Blk.new w8 34 (secL sec0)) (by simp only [secL_length]; decide) (secL_one _) (infoSecL _) whole_sec ?_
                     intro w9 b9 k9 z9
                     have k9' : Kept (· = w8.heap.size) w8 w9 := (Kept.of_alloc _ w8 _).trans k9
                     have b9 := Lib.hid b9
                     have k9 := Lib.hid k9'
                     clear k9' z9))
                obtain ⟨f8a, f8b, _⟩ := f8
                go_loopw [18] (fun i wr => ∃ k : Nat, k ≤ 128 ∧ i = .int .i64 k ∧ Hid (Blk wr w8.heap.size 34 (bytesV (S.1.take k ++ zerosB (128 - k)))) ∧ Hid (Kept (· = w8.heap.size) w8 wr))
                  (fun i _ => 128 - (intOf i).toNat)
                case atStart => exact ⟨0, by omega, rfl, b9, k9⟩
                case round =>
                  obtain ⟨k, hk, rfl, hb, hkp⟩ := hrel
                  have hs8 : w8.heap.size < wr.heap.size := hb.out.lt
                  by_cases hlt : k < 128
                  · have hkS : k < S.1.length := by rw [hsl.out]; exact hlt
                    have hcb : wr.cell? ⟨g8, k, none⟩ = some (byteV S.1[k]) := by
                      refine (hkp.out.cell (p := ⟨g8, k, none⟩) f8b (by show ¬ g8 = _; omega)).trans ?_
                      rw [H8.out.own.cell (j := k) (by rw [bytesV_length]; exact hkS)]
                      simp [bytesV]
                    obtain ⟨y8, hy8⟩ : ∃ y8 : Int, Hid (byteV S.1[k] = .int .u8 y8) := ⟨_, Lib.hid rfl⟩
                    rw [hy8.out] at hcb
                    obtain ⟨old, hcs⟩ : ∃ old, wr.cell? ⟨w8.heap.size, k, none⟩ = some old := by
                      rw [hb.out.cell]
                      exact ⟨_, List.getElem?_eq_getElem (by rw [bytesV_length, List.length_append, zerosB_length, List.length_take, hsl.out]; omega)⟩
                    have hfz : wr.frozen? ⟨w8.heap.size, k, none⟩ = false := hb.out.frozen k
                    have hb2 : Hid (Blk (wr.setCell ⟨w8.heap.size, k, none⟩ (.int .u8 y8)) w8.heap.size 34 (bytesV (S.1.take (k + 1) ++ zerosB (128 - (k + 1))))) := Lib.hid (by
                      rw [← hy8.out, ← fill_one hsl.out hkS]
                      exact hb.out.set k _)
                    have hk2 : Hid (Kept (· = w8.heap.size) w8 (wr.setCell ⟨w8.heap.size, k, none⟩ (.int .u8 y8))) := Lib.hid (hkp.out.setCell (p := ⟨w8.heap.size, k, none⟩) rfl _)
                    clear hy8
                    go_wp2
                    go_roundw
                    case rel => first | exact ⟨k + 1, by omega, by go_num, hb2, hk2⟩ | ((repeat apply Exists.intro); exact ⟨⟨k + 1, by omega, by go_num, hb2, hk2⟩, rfl⟩)
                    case measure => simp [intOf] <;> omega
                  · obtain rfl : k = 128 := by omega
                    have hb2 : Hid (Blk wr w8.heap.size 34 (secL S)) := Lib.hid (by
                      have := hb.out
                      rw [List.take_of_length_le (by rw [hsl.out]; exact Nat.le_refl _), Nat.sub_self, show zerosB 0 = [] from rfl, List.append_nil] at this
                      exact this)
                    have hZ9 := Lib.hid (H8.out.z.kept hkp.out (by show ¬ w.heap.size + 1 = _; omega))
                    have q9 := Lib.hid (Kept.out H8.out.q hkp.out (fun i _ e => by omega) (by omega))
                    have hSl := Lib.hid (secL_length S)
                    clear hb hkp hlt hk H8 b9 k9
                    go_wp2_with (first
                      | ((with_reducible refine guardList ?_); refine wantList_load (by rfl) 34 _ rfl w8.heap.size 0 (by rfl) (secL S) _ (range_blk hb2.out) Try.underlying34 rfl (infoSecL _) ?_)
                      | ((with_reducible refine guardList ?_)
                         refine wantList_store (by rfl) 34 _ _ rfl (w.heap.size + 1) 0 (by rfl) (secL S) (by rfl) _ (secL sec0) (secL S) hZ9.out (by simp only [secL_length]; decide) (secL_one _) (infoSecL _) whole_sec ?_
                         intro w11 hZ k11 z11
                         have hZ := Lib.hid hZ
                         have q11 := Lib.hid (Kept.out q9.out k11 (fun i _ e => by omega) q9.out.size)
                         clear k11 z11))
                    refine bodyPost_ret (results_row_tmp rfl (rowSec hZ.out)) rfl ⟨rfl, q11.out⟩

/-- the document's own Bytes -/
theorem refUBytes_any (u : U5) (w : World) (h : u.Fit) : Calls Try.prog 13 #[.agg (u5L u).toArray] w (SRes 61 u.secO w) := by
  unfold U5.secO
  cases hr : u.rightB with
  | false => exact refUBytes_no u w h hr
  | true => exact refUBytes_yes u w h hr
end Go.Proofs.Ytfblehdeoloijaa

/- The document's own Read of a sector. -/
namespace Go.Proofs.Ytfblehdeoloijaa
open Go.ChangeShapes Go.WideShapes Go.ChangeAt Go.RowKit
set_option linter.unusedVariables false
set_option maxRecDepth 20000

theorem cut_take (s : Sec) (l n k : Nat) (h : k ≤ n) : (cutS s l n).take k = cutS s l k := by unfold cutS; rw [List.take_take, Nat.min_eq_left h]
theorem cut_drop (s : Sec) (l n k : Nat) : (cutS s l n).drop k = cutS s (l + k) (n - k) := by unfold cutS; rw [List.drop_take, List.drop_drop]
theorem pRefRead16 (bo : Option Addr) (cap : Nat) (bs : List UInt8) (hl : bs.length = 16) (w : World) (hy : Bytes w bo bs) (hc : 16 ≤ cap) (hm : cap ≤ 9223372036854775807) :
    Calls Try.prog 42 #[.slice bo 16 cap] w (RRes 51 (p3O bs) w) := by
  have := pRefRead_any bo cap bs w hy (by omega) hm
  rwa [hl] at this
theorem refValue_cut (s : Sec) (g l n c : Nat) (hn : l + n ≤ 128) (h8 : n ≤ 8) (w : World) {t : TypeId} (h : Blk w g t (secL s)) :
    Calls Try.prog 43 #[.slice (some ⟨g, l, none⟩) n c] w fun e w' => e = .returned (.int .u64 (valB (cutS s l n) : Int)) ∧ w = w' := by
  have := refValue_any (some ⟨g, l, none⟩) c (cutS s l n) w (bytes_cut h l n) (by rw [cutS_length s hn]; exact h8)
  rwa [cutS_length s hn] at this

set_option maxHeartbeats 2000000 in
theorem refURead_bad (s : Sec) (w : World) (hr : (p3Of (cutS s 20 16)).rightB = false) :
    Calls Try.prog 15 #[.agg (secL s).toArray] w (URes none w) := by
  obtain ⟨i0, hi, hz0, hz1, hz2⟩ := info_parts infoU8
  have hl := cutS_length s (l := 20) (n := 16) (by omega)
  have hno : Hid (p3O (cutS s 20 16) = none) := Lib.hid (by unfold p3O; rw [if_neg]; rw [hr]; simp)
  have hl := Lib.hid hl
  have hs := Lib.hid (secL_length s)
  obtain ⟨wb, hwb⟩ : ∃ wb : World, Hid (wb = (w.alloc (.cells (secL s).toArray 34)).alloc (.cells #[.int .u64 0, .int .u64 0, .int .i64 0, .int .u64 0, .int .u32 0, .int .i64 0, .int .i64 0] 27)) := ⟨_, Lib.hid rfl⟩
  have hzb : Hid (wb.heap.size = w.heap.size + 2) := Lib.hid (by rw [hwb.out]; simp)
  have H0 : Hid (BR w wb s) := Lib.hid (by rw [hwb.out]; exact ⟨(Blk.new w _ (secL s)).alloc _, two_new w _ 27 (u5L u5z), two_below w _ _⟩)
  clear hr
  go_enter Try.func15, Try.ntmps15
  go_upto_region 1 with (fail)
  rw [← hwb.out]
  go_wp2_with (first
    | (at_builtin
       refine wpList_copy rfl (.tmp 10) (.tmp 11) 76 rfl 5 i0 (.int .u8 0) 1 Try.underlying76 hi hz0 hz1 hz2 rfl wb (by rw [hzb.out]; rfl) (some ⟨w.heap.size, 20, none⟩) 16 108 (bytesV (cutS s 20 16)) (by rfl) (fun h => by cases h) (by rw [bytesV_length]; exact hl.out) (bytes_cut H0.out.u 20 16) (bytesV_one _) (by decide) (by decide) ?_
       intro co cc w1 ho1 hc1 hc2 hc3 b1
       have H1 := Lib.hid (H0.out.call b1)
       have ho1 := Lib.hid ho1.reads
       clear b1 hc3))
  refine (pRefRead16 co cc _ hl.out _ ho1.out hc1 hc2).mono ?_
  intro e w2 hR
  obtain ⟨rfl, hb2⟩ := hR.nope hno.out
  have H2 := Lib.hid (H1.out.call hb2)
  clear hb2 hR
  go_wp2_with ((with_reducible refine guardList ?_)
               refine wantList_store (by rfl) 27 _ _ rfl (w.heap.size + 1) 0 (by rfl) (u5L u5z) (by rfl) _ (u5L u5z) (u5L u5z) (H2.out.alloc _).z (by decide) (u5L_one _) (infoUberL _) whole_u ?_
               intro w2 hZ2 k2 z2
               have hZ2 := Lib.hid hZ2
               have q2 := Lib.hid (Kept.out (H2.out.alloc _).q k2 (fun i _ e => by omega) (H2.out.alloc _).q.size))
  refine bodyPost_ret (results_row_tmp rfl (rowU hZ2.out)) rfl ⟨rfl, q2.out⟩

set_option maxHeartbeats 4000000 in
theorem refURead_ok (s : Sec) (w : World) (hr : (p3Of (cutS s 20 16)).rightB = true) :
    Calls Try.prog 15 #[.agg (secL s).toArray] w (URes (u5O s) w) := by
  obtain ⟨i0, hi, hz0, hz1, hz2⟩ := info_parts infoU8
  have hl := Lib.hid (cutS_length s (l := 20) (n := 16) (by omega))
  have hyes : Hid (p3O (cutS s 20 16) = some (p3Of (cutS s 20 16))) := Lib.hid (by unfold p3O; rw [if_pos ⟨hl.out, hr⟩])
  have v1 : ∀ (W : World) (g : Nat), Blk W g 34 (secL s) → Calls Try.prog 43 #[.slice (some ⟨g, 4, none⟩) 8 124] W fun e w' => e = .returned (.int .u64 (valB ((cutS s 4 16).take 8) : Int)) ∧ W = w' := fun W g h => by
    rw [cut_take s 4 16 8 (by omega)]; exact refValue_cut s g 4 8 124 (by omega) (by omega) W h
  have v2 : ∀ (W : World) (g : Nat), Blk W g 34 (secL s) → Calls Try.prog 43 #[.slice (some ⟨g, 12, none⟩) 8 116] W fun e w' => e = .returned (.int .u64 (valB ((cutS s 4 16).drop 8) : Int)) ∧ W = w' := fun W g h => by
    rw [cut_drop s 4 16 8]; exact refValue_cut s g 12 8 116 (by omega) (by omega) W h
  have v3 : ∀ (W : World) (g : Nat), Blk W g 34 (secL s) → Calls Try.prog 43 #[.slice (some ⟨g, 36, none⟩) 4 92] W fun e w' => e = .returned (.int .u64 (valB ((cutS s 36 8).take 4) : Int)) ∧ W = w' := fun W g h => by
    rw [cut_take s 36 8 4 (by omega)]; exact refValue_cut s g 36 4 92 (by omega) (by omega) W h
  have v4 : ∀ (W : World) (g : Nat), Blk W g 34 (secL s) → Calls Try.prog 43 #[.slice (some ⟨g, 40, none⟩) 4 88] W fun e w' => e = .returned (.int .u64 (valB ((cutS s 36 8).drop 4) : Int)) ∧ W = w' := fun W g h => by
    rw [cut_drop s 36 8 4]; exact refValue_cut s g 40 4 88 (by omega) (by omega) W h
  have hB : ∀ W, Calls Try.prog 13 #[u5V (u5Of s)] W (SRes 61 (u5Of s).secO W) := fun W => refUBytes_any (u5Of s) W (u5Of_fit s)
  have hfit := u5Of_fit s
  have hu : u5Of s = ⟨valB ((cutS s 4 16).take 8), valB ((cutS s 4 16).drop 8), p3Of (cutS s 20 16), (valB ((cutS s 36 8).take 4) : Nat), (valB ((cutS s 36 8).drop 4) : Nat)⟩ := rfl
  have hO : Hid (u5O s = if (u5Of s).rightB = true ∧ (u5Of s).sec = s then some (u5Of s) else none) := Lib.hid rfl
  have hN : Hid ((u5Of s).secO = if (u5Of s).rightB then some (u5Of s).sec else none) := Lib.hid rfl
  have hs := Lib.hid (secL_length s)
  have hbs := built_sec0
  have hz := zeroSec
  have heq := eqSec
  generalize u5O s = O at *
  generalize u5Of s = U at *
  generalize valB ((cutS s 4 16).take 8) = x at *
  generalize valB ((cutS s 4 16).drop 8) = y at *
  generalize valB ((cutS s 36 8).take 4) = l at *
  generalize valB ((cutS s 36 8).drop 4) = n at *
  generalize p3Of (cutS s 20 16) = P at *
  obtain ⟨a, b, sm⟩ := P
  subst hu
  obtain ⟨hx, hy, hp, ⟨l1, l2⟩, ⟨n1, n2⟩⟩ := hfit
  dsimp only at l1 l2 n1 n2
  clear hx hy hp hr
  generalize U5.secO ⟨x, y, ⟨a, b, sm⟩, (l : Int), (n : Int)⟩ = SO at *
  generalize U5.rightB ⟨x, y, ⟨a, b, sm⟩, (l : Int), (n : Int)⟩ = RB at *
  generalize U5.sec ⟨x, y, ⟨a, b, sm⟩, (l : Int), (n : Int)⟩ = SS at *
  unfold u5V at hB
  dsimp only at hB
  have v1 := Lib.hid v1
  have v2 := Lib.hid v2
  have v3 := Lib.hid v3
  have v4 := Lib.hid v4
  have hB := Lib.hid hB
  obtain ⟨wb, hwb⟩ : ∃ wb : World, Hid (wb = (w.alloc (.cells (secL s).toArray 34)).alloc (.cells #[.int .u64 0, .int .u64 0, .int .i64 0, .int .u64 0, .int .u32 0, .int .i64 0, .int .i64 0] 27)) := ⟨_, Lib.hid rfl⟩
  have hzb : Hid (wb.heap.size = w.heap.size + 2) := Lib.hid (by rw [hwb.out]; simp)
  have H0 : Hid (BR w wb s) := Lib.hid (by rw [hwb.out]; exact ⟨(Blk.new w _ (secL s)).alloc _, two_new w _ 27 (u5L u5z), two_below w _ _⟩)
  go_enter Try.func15, Try.ntmps15
  go_upto_region 1 with (fail)
  rw [← hwb.out]
  go_wp2_with (first
    | (at_builtin
       refine wpList_copy rfl (.tmp 10) (.tmp 11) 76 rfl 5 i0 (.int .u8 0) 1 Try.underlying76 hi hz0 hz1 hz2 rfl wb (by rw [hzb.out]; rfl) (some ⟨w.heap.size, 20, none⟩) 16 108 (bytesV (cutS s 20 16)) (by rfl) (fun h => by cases h) (by rw [bytesV_length]; exact hl.out) (bytes_cut H0.out.u 20 16) (bytesV_one _) (by decide) (by decide) ?_
       intro co cc w1 ho1 hc1 hc2 hc3 b1
       have H1 := Lib.hid (H0.out.call b1)
       have ho1 := Lib.hid ho1.reads
       clear b1 hc3))
  refine (pRefRead16 co cc _ hl.out _ ho1.out hc1 hc2).mono ?_
  intro e w2 hR
  obtain ⟨rfl, hb2⟩ := hR.yes hyes.out
  have hlt2 : w.heap.size + 1 < w2.heap.size := (H1.out.call hb2).lt
  obtain ⟨w3, hw3⟩ : ∃ w3 : World, Hid (w3 = w2.alloc (.cells #[.int .i64 a, .int .u64 (b : Int), .int .u32 (sm : Int)] 25)) := ⟨_, Lib.hid rfl⟩
  have H3 : Hid (BR w w3 s) := Lib.hid (by rw [hw3.out]; exact (H1.out.call hb2).alloc _)
  have P3 : Blk w3 w2.heap.size 25 (p3L ⟨a, b, sm⟩) := by rw [hw3.out]; exact Blk.new w2 25 (p3L ⟨a, b, sm⟩)
  clear hb2 hR
  go_upto_region 4 with (fail)
  rw [← hw3.out]
  have d0 : w3.cell? ⟨w2.heap.size, 0, none⟩ = some (.int .i64 a) := P3.cell 0
  have d1 : w3.cell? ⟨w2.heap.size, 1, none⟩ = some (.int .u64 (b : Int)) := P3.cell 1
  have d2 : w3.cell? ⟨w2.heap.size, 2, none⟩ = some (.int .u32 (sm : Int)) := P3.cell 2
  have hlt3 : w2.heap.size < w3.heap.size := P3.lt
  have P3 := Lib.hid P3
  go_region_held3 (fun w' => w'.cell? ⟨w2.heap.size, 0, none⟩ = some (.int .i64 a) ∧ w'.cell? ⟨w2.heap.size, 1, none⟩ = some (.int .u64 (b : Int)) ∧ w'.cell? ⟨w2.heap.size, 2, none⟩ = some (.int .u32 (sm : Int))) (first | go_keep | exact hkk)
    (first
    | (go_at_call 43
       (first
         | (with_reducible refine (v1.out _ w.heap.size ?_).mono ?_)
         | (with_reducible refine (v2.out _ w.heap.size ?_).mono ?_)
         | (with_reducible refine (v3.out _ w.heap.size ?_).mono ?_)
         | (with_reducible refine (v4.out _ w.heap.size ?_).mono ?_))
       · first | exact H3.out.u.drew | exact (H3.out.alloc _).u.drew
       rintro e w' ⟨rfl, rfl⟩))
  all_goals
    rw [IntWalk.i64_in (l : Int) (by omega), IntWalk.i64_in (n : Int) (by omega)]
    obtain ⟨g6, hg6⟩ : ∃ g6, Hid (g6 = w3.heap.size) := ⟨_, Lib.hid rfl⟩
    rw [← hg6.out]
    obtain ⟨wv, hwv⟩ : ∃ wv : World, Hid (wv = (w3.alloc (.cells #[.int .u64 (x : Int), .int .u64 (y : Int), .int .i64 a, .int .u64 (b : Int), .int .u32 (sm : Int), .int .i64 (l : Int), .int .i64 (n : Int)] 27)).drew) := ⟨_, Lib.hid rfl⟩
    rw [← hwv.out]
    have H5 : Hid (BR w wv s) := Lib.hid (by rw [hwv.out]; exact (H3.out.alloc _).call (Below.refl _ _).drew)
    have U3 : Hid (Blk wv g6 27 (u5L ⟨x, y, ⟨a, b, sm⟩, (l : Int), (n : Int)⟩)) := Lib.hid (by rw [hwv.out, hg6.out]; exact Blk.new w3 27 (u5L ⟨x, y, ⟨a, b, sm⟩, (l : Int), (n : Int)⟩))
    clear H3
    have H3 := H5
    clear H5 hwv hg6 P3 d0 d1 d2 hw3 H1 ho1
    go_wp2_with (first
      | ((with_reducible refine guardList ?_); refine wantList_load (by rfl) 27 _ rfl g6 0 (by rfl) (u5L ⟨x, y, ⟨a, b, sm⟩, (l : Int), (n : Int)⟩) _ (range_blk U3.out) Try.underlying27 rfl (infoUberL _) ?_))
    cases RB with
    | false =>
      obtain rfl : SO = none := by rw [hN.out]; rfl
      obtain rfl : O = none := by rw [hO.out]; simp
      refine (hB.out _).mono ?_
      intro e w4 hR4
      obtain ⟨rfl, hb4⟩ : e = .returned (.tuple #[.agg (secL sec0).toArray, .int .i64 61]) ∧ _ := hR4
      have H4 := Lib.hid (H3.out.call hb4)
      have U4 : Hid (Blk w4 g6 27 (u5L ⟨x, y, ⟨a, b, sm⟩, (l : Int), (n : Int)⟩)) := Lib.hid (blk_out U3.out hb4)
      clear hb4
      go_wp2_with (first
      | ((with_reducible refine guardList ?_)
         refine wantList_store (by rfl) 34 _ _ rfl w4.heap.size 0 (by rfl) (secL sec0) (by rfl) _ (secL sec0) (secL sec0) (Blk.new w4 34 (secL sec0)) (by simp only [secL_length]; decide) (secL_one _) (infoSecL _) whole_sec ?_
         intro w5 hV k5 z5
         have hV := Lib.hid hV
         have H5 := Lib.hid ((H4.out.alloc _).over k5 (by have := H4.out.lt; omega))
         have U5' := Lib.hid ((U4.out.alloc _).kept k5 (by have := U4.out.lt; omega))
         clear k5 z5)
      | ((with_reducible refine guardList ?_)
         refine wantList_store (by rfl) 27 _ _ rfl (w.heap.size + 1) 0 (by rfl) (u5L u5z) (by rfl) _ (u5L u5z) (u5L u5z) H5.out.z (Nat.le_of_eq rfl) (u5L_one _) (infoUberL _) whole_u ?_
         intro w6 hZ k6 z6
         have hZ := Lib.hid hZ
         have q6 := Lib.hid (Kept.out H5.out.q k6 (fun i _ e => by omega) H5.out.q.size)
         clear k6 z6))
      refine bodyPost_ret (results_row_tmp rfl (rowU hZ.out)) rfl ⟨rfl, q6.out⟩
    | true =>
      obtain rfl : SO = some SS := by rw [hN.out]; rfl
      by_cases hss : SS = s
      · subst hss
        obtain rfl : O = some ⟨x, y, ⟨a, b, sm⟩, (l : Int), (n : Int)⟩ := by rw [hO.out]; simp
        have hq : ∀ w, (Op.equalIn 10000 34 (.agg (secL SS).toArray) (.agg (secL SS).toArray)).run Try.prog w = .ok true w := fun w => by rw [heq]; simp
        clear heq
        refine (hB.out _).mono ?_
        intro e w4 hR4
        obtain ⟨rfl, hb4⟩ : e = .returned (.tuple #[.agg (secL SS).toArray, .int .i64 0]) ∧ _ := hR4
        have H4 := Lib.hid (H3.out.call hb4)
        have U4 : Hid (Blk w4 g6 27 (u5L ⟨x, y, ⟨a, b, sm⟩, (l : Int), (n : Int)⟩)) := Lib.hid (blk_out U3.out hb4)
        clear hb4
        go_wp2_with (first
        | ((with_reducible refine guardList ?_)
           refine wantList_store (by rfl) 34 _ _ rfl w4.heap.size 0 (by rfl) (secL SS) (by rfl) _ (secL sec0) (secL SS) (Blk.new w4 34 (secL sec0)) (by simp only [secL_length]; decide) (secL_one _) (infoSecL _) whole_sec ?_
           intro w5 hV k5 z5
           have hV := Lib.hid hV
           have H5 := Lib.hid ((H4.out.alloc _).over k5 (by have := H4.out.lt; omega))
           have U5' := Lib.hid ((U4.out.alloc _).kept k5 (by have := U4.out.lt; omega))
           clear k5 z5)
        | ((with_reducible refine guardList ?_); refine wantList_load (by rfl) 34 _ rfl w4.heap.size 0 (by rfl) (secL SS) _ (range_blk hV.out) Try.underlying34 rfl (infoSecL _) ?_)
        | ((with_reducible refine guardList ?_); refine wantList_load (by rfl) 34 _ rfl w.heap.size 0 (by rfl) (secL SS) _ (range_blk H5.out.u) Try.underlying34 rfl (infoSecL _) ?_)
        | ((with_reducible refine guardList ?_); refine wantList_load (by rfl) 27 _ rfl g6 0 (by rfl) (u5L ⟨x, y, ⟨a, b, sm⟩, (l : Int), (n : Int)⟩) _ (range_blk U5'.out) Try.underlying27 rfl (infoUberL _) ?_)
        | ((with_reducible refine guardList ?_)
           refine wantList_store (by rfl) 27 _ _ rfl (w.heap.size + 1) 0 (by rfl) (u5L ⟨x, y, ⟨a, b, sm⟩, (l : Int), (n : Int)⟩) (by rfl) _ (u5L u5z) (u5L ⟨x, y, ⟨a, b, sm⟩, (l : Int), (n : Int)⟩) H5.out.z (Nat.le_of_eq rfl) (u5L_one _) (infoUberL _) whole_u ?_
           intro w6 hZ k6 z6
           have hZ := Lib.hid hZ
           have q6 := Lib.hid (Kept.out H5.out.q k6 (fun i _ e => by omega) H5.out.q.size)
           clear k6 z6))
        refine bodyPost_ret (results_row_tmp rfl (rowU hZ.out)) rfl ⟨rfl, q6.out⟩
      · obtain rfl : O = none := by rw [hO.out]; simp [hss]
        have hq : ∀ w, (Op.equalIn 10000 34 (.agg (secL SS).toArray) (.agg (secL s).toArray)).run Try.prog w = .ok false w := fun w => by rw [heq, decide_eq_false hss]
        clear heq
        refine (hB.out _).mono ?_
        intro e w4 hR4
        obtain ⟨rfl, hb4⟩ : e = .returned (.tuple #[.agg (secL SS).toArray, .int .i64 0]) ∧ _ := hR4
        have H4 := Lib.hid (H3.out.call hb4)
        have U4 : Hid (Blk w4 g6 27 (u5L ⟨x, y, ⟨a, b, sm⟩, (l : Int), (n : Int)⟩)) := Lib.hid (blk_out U3.out hb4)
        clear hb4
        go_wp2_with (first
        | ((with_reducible refine guardList ?_)
           refine wantList_store (by rfl) 34 _ _ rfl w4.heap.size 0 (by rfl) (secL SS) (by rfl) _ (secL sec0) (secL SS) (Blk.new w4 34 (secL sec0)) (by simp only [secL_length]; decide) (secL_one _) (infoSecL _) whole_sec ?_
           intro w5 hV k5 z5
           have hV := Lib.hid hV
           have H5 := Lib.hid ((H4.out.alloc _).over k5 (by have := H4.out.lt; omega))
           have U5' := Lib.hid ((U4.out.alloc _).kept k5 (by have := U4.out.lt; omega))
           clear k5 z5)
        | ((with_reducible refine guardList ?_); refine wantList_load (by rfl) 34 _ rfl w4.heap.size 0 (by rfl) (secL SS) _ (range_blk hV.out) Try.underlying34 rfl (infoSecL _) ?_)
        | ((with_reducible refine guardList ?_); refine wantList_load (by rfl) 34 _ rfl w.heap.size 0 (by rfl) (secL s) _ (range_blk H5.out.u) Try.underlying34 rfl (infoSecL _) ?_)
        | ((with_reducible refine guardList ?_)
           refine wantList_store (by rfl) 27 _ _ rfl (w.heap.size + 1) 0 (by rfl) (u5L u5z) (by rfl) _ (u5L u5z) (u5L u5z) H5.out.z (Nat.le_of_eq rfl) (u5L_one _) (infoUberL _) whole_u ?_
           intro w6 hZ k6 z6
           have hZ := Lib.hid hZ
           have q6 := Lib.hid (Kept.out H5.out.q k6 (fun i _ e => by omega) H5.out.q.size)
           clear k6 z6))
        refine bodyPost_ret (results_row_tmp rfl (rowU hZ.out)) rfl ⟨rfl, q6.out⟩

/-- the document's own Read -/
theorem refURead_any (s : Sec) (w : World) : Calls Try.prog 15 #[.agg (secL s).toArray] w (URes (u5O s) w) := by
  cases hr : (p3Of (cutS s 20 16)).rightB with
  | true => exact refURead_ok s w hr
  | false =>
    have : u5O s = none := by
      unfold u5O
      rw [if_neg]
      rintro ⟨h, _⟩
      have := (right_parts h).2.2.2.2.1
      rw [show (u5Of s).p = p3Of (cutS s 20 16) from rfl, hr] at this
      cases this
    rw [this]
    exact refURead_bad s w hr
end Go.Proofs.Ytfblehdeoloijaa
