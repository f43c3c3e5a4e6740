/- Base: the texts Kit, Mem, Num, Args, Bytes, Row, Res, Ord, OrdL, Call, Crc, Store, EqArr, Sec, Want, Copy, PushN, one behind the other. -/
import Derived.Test.YtgdefibkemkejaaRows
import Derived.WalkKit
import Derived.ProofKit
import Derived.OpenShut
import Derived.RegionTactic
import Derived.BigQuiet
import Derived.Deep.QuietTactic
import Derived.Lib.Hide
import Derived.WalkLawsBesides
import Derived.WalkSpells
import Derived.RangeFuncBox
import Derived.Maps.AppendAt
import Derived.Outline
import Derived.Laws.AppendOwnNone
import Derived.Laws.BytesArg
import Derived.Laws.Shifts
import Derived.Laws.ShiftsVar
import Derived.Laws.OwnMore
import Derived.Laws.MakeOwn
import Derived.IntWalk
import Derived.Deep.Matrix
import Derived.SizedLaws
import Derived.Carry
import Derived.Lib.SlBytesConst
import Derived.Deep.MidRow
import Derived.Laws.CopyRow
import Derived.Laws.CopyOwn
import Derived.Great.BuildSlice
import Derived.Deep.RegionHeld3
import Derived.Deep.AppendLies
import Derived.OrdersHeld
import Derived.Laws.StructEq
import Derived.Lib.BufferWrite
/- Small lemmas on walks, blocks and appends that the other texts use; they hold for every program. -/
namespace Go.Proofs.Ytgdefibkemkejaa
open Go.ChangeShapes Go.WideShapes Go.ChangeAt Go.RowKit
set_option linter.unusedVariables false
set_option maxRecDepth 20000

/-- an append of one element that was just laid in a block of its own -/
theorem wpList_push {P : Program} {ops : Array Oper} {rest : List Oper} {o : Oper} {a : Act} {Q : Exit → Act → World → Prop} (hgd : o.guard = none) (s x : Operand) (t : TypeId)
    (ho : o.op = .call { callee := .builtin .append, args := #[s, x], argTypes := #[t, t] })
    (base : Nat) (e : TypeId) (i : TypeInfo) (z : Value) (size bytes : Nat) (ht : P.underlying t = some (.slice e)) (hi : P.info? e = some i) (hz : i.zero = some z)
    (hsize : i.size = size) (hby : i.bytes = bytes) (hzs : z.cells.size = size) (hsz : 0 < size)
    (v : Value) (n : Nat) (xs : List Value) (w0 : World) (hs : a.eval s = v) (hown : w0.ownsRow base e size v n xs)
    (c : Nat) (news : Array Value) (hx : a.eval x = .slice (some ⟨w0.heap.size, 0, none⟩) 1 c) (hl : news.size = size) (h1 : news.toList.all (fun u => u.oneCell') = true)
    (hn : n < 9223372036854775807) (hbytes : (n + 1) * bytes ≤ 140737488355328) (hbase : base ≤ w0.heap.size)
    (h : ∀ v' w', w'.ownsRow base e size v' (n + 1) (xs ++ news.toList) → w0.grownBy w' v.ownBlock → (∃ g cap, v' = .slice (some ⟨g, 0, none⟩) (n + 1) cap) → wpList P ops Q rest (a.put o.dst v') w') :
    wpList P ops Q (o :: rest) a (w0.alloc (.cells news e)) := by
  refine wpList_append_own _ hgd s x t ho base e i z size bytes ht hi hz hsize hby hzs hsz v n xs hs (hown.alloc _) ⟨w0.heap.size, 0, none⟩ 1 c news.toList hx (by simp [hl]) ?_ ?_ (by unfold maxLen; omega) hbytes (by simp; omega) ?_
  · intro j u hu
    rw [Go.WideShapes.add_plain]
    simpa using hu
  · intro u hu
    exact List.all_eq_true.1 h1 u hu
  · intro v' w' h2 h3 h4
    refine h v' w' h2 ?_ (ownsRow_succ h2)
    have h5 := World.grownBy_alloc w0 (.cells news e) v.ownBlock
    refine ⟨h3.os.trans h5.os, h3.tape.trans h5.tape, h3.output.trans h5.output, Nat.le_trans h5.size h3.size, fun k hk hne => ?_⟩
    rw [h3.block k (Nat.lt_of_lt_of_le hk h5.size) hne, h5.block k hk hne]

/-- an append of whatever slice onto a row of the call's own -/
theorem wpList_append_src {P : Program} {ops : Array Oper} {rest : List Oper} {o : Oper} {a : Act} {Q : Exit → Act → World → Prop} (hgd : o.guard = none) (s x : Operand) (t : TypeId)
    (ho : o.op = .call { callee := .builtin .append, args := #[s, x], argTypes := #[t, t] })
    (base : Nat) (e : TypeId) (i : TypeInfo) (z : Value) (size bytes : Nat) (ht : P.underlying t = some (.slice e)) (hi : P.info? e = some i) (hz : i.zero = some z)
    (hsize : i.size = size) (hby : i.bytes = bytes) (hzs : z.cells.size = size) (hsz : 0 < size)
    (v : Value) (n : Nat) (xs : List Value) (w : World) (hs : a.eval s = v) (hown : w.ownsRow base e size v n xs)
    (ao : Option Addr) (m c : Nat) (news : List Value) (hx : a.eval x = .slice ao m c) (hnil : ao = none → m = 0 ∧ c = 0) (hl : news.length = m * size) (hnews : ∀ ad, ao = some ad → ∀ j u, news[j]? = some u → w.cell? (ad.add j) = some u) (h1 : ∀ u ∈ news, u.oneCell' = true)
    (h63 : n + m ≤ 9223372036854775807) (hbytes : (n + m) * bytes ≤ 140737488355328) (hbase : base ≤ w.heap.size)
    (h : ∀ v' w', w'.ownsRow base e size v' (n + m) (xs ++ news) → w.grownBy w' v.ownBlock → wpList P ops Q rest (a.put o.dst v') w') :
    wpList P ops Q (o :: rest) a w := by
  cases ao with
  | none =>
    obtain ⟨rfl, rfl⟩ := hnil rfl
    have hn : news = [] := List.eq_nil_of_length_eq_zero (by simpa using hl)
    subst hn
    refine wpList_append_own_none hgd s x t ho base e i size ht hi v n xs hs hown hx ?_
    exact h v w (by simpa using hown) ⟨rfl, rfl, rfl, Nat.le_refl _, fun _ _ _ => rfl⟩
  | some ad =>
    refine wpList_append_own _ hgd s x t ho base e i z size bytes ht hi hz hsize hby hzs hsz v n xs hs hown ad m c news hx hl (hnews ad rfl) h1 (by unfold maxLen; omega) hbytes hbase ?_
    intro v' w' h2 h3 _
    exact h v' w' h2 h3

theorem below_drewN' {B : Nat} {a w : World} (h : Below B a w) (n : Nat) : Below B a (w.drewN n) := ⟨h.os, h.tape, h.output, h.size, h.block⟩

/-- behind a push the blocks below the row's base are as they were -/
theorem Below.pushed {B base : Nat} {w w0 w' : World} {e : TypeId} {size n : Nat} {v : Value} {xs : List Value} (h : Below B w w0) (hown : w0.ownsRow base e size v n xs) (hg : w0.grownBy w' v.ownBlock) (hB : B ≤ base) (hs : B ≤ w0.heap.size) : Below B w w' :=
  h.grown hg hs fun k hk => by have := (World.ownsRow.lt hown k hk).1; omega

theorem cell_lt {w : World} {a : Addr} {v : Value} (h : w.cell? a = some v) : a.block < w.heap.size := by
  unfold World.cell? at h
  by_cases hb : a.block < w.heap.size
  · exact hb
  · rw [Array.getElem?_eq_none (by omega)] at h; simp at h

theorem bcell {w w1 : World} {B : Nat} (hb : Below B w w1) : (∀ b o, b < B → w1.cell? ⟨b, o, none⟩ = w.cell? ⟨b, o, none⟩) ∧ (∀ b o, b < B → w1.frozen? ⟨b, o, none⟩ = w.frozen? ⟨b, o, none⟩) :=
  ⟨fun b o h => hb.cell (p := ⟨b, o, none⟩) h, fun b o h => hb.frozen (p := ⟨b, o, none⟩) h⟩

theorem ret_bool {a b : Bool} (h : a = b) : Ending.returned (.bool a) = .returned (.bool b) := by rw [h]
theorem ret_int {k : IntKind} {a b : Int} (h : a = b) : Ending.returned (.int k a) = .returned (.int k b) := by rw [h]

/-- the bounds of Go's int -/
def I64 (x : Int) : Prop := -9223372036854775808 ≤ x ∧ x ≤ 9223372036854775807

end Go.Proofs.Ytgdefibkemkejaa

/- Cells that a slice shows, rows of the call's own, appends and cuts of them; what holds for every program. -/
namespace Go.Proofs.Ytgdefibkemkejaa
open Go.ChangeShapes Go.WideShapes Go.ChangeAt Go.RowKit
set_option linter.unusedVariables false
set_option maxRecDepth 20000

/-- these cells stand from the address on -/
def Reads (w : World) (ao : Option Addr) (cs : List Value) : Prop :=
  ∀ i (h : i < cs.length), ∃ b off, ao = some ⟨b, off, none⟩ ∧ w.cell? ⟨b, off + i, none⟩ = some cs[i]

section
variable {w w' : World} {ao : Option Addr} {cs : List Value}
theorem Reads.nil (w : World) (ao : Option Addr) : Reads w ao [] := fun i h => by simp at h
theorem Reads.lt (h : Reads w ao cs) (i : Nat) (hi : i < cs.length) : ∀ a, ao = some a → a.block < w.heap.size := by
  obtain ⟨b, off, e, c⟩ := h i hi
  intro a ea
  rw [e] at ea; cases ea
  exact cell_lt (a := ⟨b, off + i, none⟩) c
theorem Reads.keep (h : Reads w ao cs) (k : ∀ p : Addr, p.block < w.heap.size → (∃ a, ao = some a ∧ p.block = a.block) → w'.cell? p = w.cell? p) : Reads w' ao cs := by
  intro i hi
  obtain ⟨b, off, e, c⟩ := h i hi
  exact ⟨b, off, e, (k ⟨b, off + i, none⟩ (cell_lt c) ⟨_, e, rfl⟩).trans c⟩
theorem Reads.below (h : Reads w ao cs) (hb : Below w.heap.size w w') : Reads w' ao cs := h.keep fun p hp _ => hb.cell hp
theorem Reads.alloc (h : Reads w ao cs) (o : Obj) : Reads (w.alloc o) ao cs := h.below ((Below.refl _ _).alloc (Nat.le_refl _) o)
theorem Reads.drewN (h : Reads w ao cs) (n : Nat) : Reads (w.drewN n) ao cs := h
theorem Reads.grown (h : Reads w ao cs) {row : Option Nat} (hg : w.grownBy w' row) (hne : ∀ a, ao = some a → some a.block ≠ row) : Reads w' ao cs :=
  h.keep fun p hp ⟨a, ea, he⟩ => World.cell?_of_block (hg.block _ hp (by rw [he]; exact hne a ea))
theorem Reads.take (h : Reads w ao cs) (n : Nat) : Reads w ao (cs.take n) := by
  intro i hi
  obtain ⟨b, off, e, c⟩ := h i (by simp at hi; omega)
  exact ⟨b, off, e, by rw [c]; simp⟩
theorem Reads.at (h : Reads w ao cs) {k : Nat} (hk : k < cs.length) : ∃ b off, ao = some ⟨b, off, none⟩ ∧ w.cell? ⟨b, off + k, none⟩ = some cs[k] ∧ b < w.heap.size := by
  obtain ⟨b, off, e, c⟩ := h k hk
  exact ⟨b, off, e, c, cell_lt (a := ⟨b, off + k, none⟩) c⟩
theorem Reads.cellsAt (h : Reads w ao cs) : ∀ ad, ao = some ad → ∀ j u, cs[j]? = some u → w.cell? (ad.add j) = some u := by
  intro ad ea j u hu
  obtain ⟨hj, rfl⟩ := List.getElem?_eq_some_iff.1 hu
  obtain ⟨b, off, e, c⟩ := h j hj
  rw [ea] at e; cases e
  rw [Go.WideShapes.add_plain, c]
theorem Reads.none_nil (h : Reads w none cs) : cs = [] := by
  cases cs with
  | nil => rfl
  | cons c r => obtain ⟨b, off, e, _⟩ := h 0 (by simp); cases e
end

/-- where a slice begins behind a cut at l -/
def shiftA (ao : Option Addr) (cap l : Nat) : Option Addr := if cap = l then ao else ao.map (·.add l)

theorem shiftA_none (cap l : Nat) : shiftA none cap l = none := by unfold shiftA; split <;> rfl
theorem shiftA_zero (ao : Option Addr) (cap : Nat) : shiftA ao cap 0 = ao := by
  unfold shiftA; split
  · rfl
  · cases ao <;> simp [Addr.add]

theorem shiftA_block {ao : Option Addr} {cap l : Nat} {a : Addr} (h : shiftA ao cap l = some a) : ∃ a', ao = some a' ∧ a.block = a'.block := by
  cases ao with
  | none => rw [shiftA_none] at h; cases h
  | some x =>
    refine ⟨x, rfl, ?_⟩
    unfold shiftA at h
    split at h
    · cases h; rfl
    · simp at h; subst h; unfold Addr.add; split <;> rfl

theorem Reads.shift {w : World} {ao : Option Addr} {cs : List Value} (h : Reads w ao cs) {cap l : Nat} (hc : cs.length ≤ cap) : Reads w (shiftA ao cap l) (cs.drop l) := by
  intro i hi
  have hi' : l + i < cs.length := by simp at hi; omega
  obtain ⟨b, off, rfl, c⟩ := h (l + i) hi'
  refine ⟨b, off + l, ?_, ?_⟩
  · unfold shiftA; rw [if_neg (by omega)]; simp [Go.WideShapes.add_plain]
  · rw [show off + l + i = off + (l + i) from by omega, c]; simp

section
variable {P : Program}
theorem run_cut_h (t e : TypeId) (ht : P.underlying t = some (.slice e)) (hz : ∀ w, (Go.sizeOf e).run P w = .ok 1 w) (ao : Option Addr) (len cap h : Nat) (hh : h ≤ cap) (w : World) :
    (Instr.slice t (.slice ao len cap) none (some (.int .i64 (h : Int))) none).run P w = .ok (.slice ao h cap) w := by
  have ht' : P.underlying t = some (.slice (P.elem t)) := by simp [Program.elem, ht]
  have he : P.elem t = e := by simp [Program.elem, ht]
  rw [run_slice_h w t ao len cap ht' .i64 _ (by omega) (by omega), he, hz]
  have := shiftA_zero ao cap
  simp [Result.andThen, sliced]
  intro _
  cases ao <;> simp [Addr.add]
theorem run_cut_l (t e : TypeId) (ht : P.underlying t = some (.slice e)) (hz : ∀ w, (Go.sizeOf e).run P w = .ok 1 w) (ao : Option Addr) (len cap l : Nat) (hl : l ≤ len) (w : World) :
    (Instr.slice t (.slice ao len cap) (some (.int .i64 (l : Int))) none none).run P w = .ok (.slice (shiftA ao cap l) (len - l) (cap - l)) w := by
  have ht' : P.underlying t = some (.slice (P.elem t)) := by simp [Program.elem, ht]
  have he : P.elem t = e := by simp [Program.elem, ht]
  rw [run_slice_l w t ao len cap ht' .i64 _ (by omega) (by omega), he, hz]
  simp [Result.andThen, sliced, shiftA]
theorem run_cut_lh (t e : TypeId) (ht : P.underlying t = some (.slice e)) (hz : ∀ w, (Go.sizeOf e).run P w = .ok 1 w) (ao : Option Addr) (len cap l h : Nat) (hlh : l ≤ h) (hh : h ≤ cap) (w : World) :
    (Instr.slice t (.slice ao len cap) (some (.int .i64 (l : Int))) (some (.int .i64 (h : Int))) none).run P w = .ok (.slice (shiftA ao cap l) (h - l) (cap - l)) w := by
  have ht' : P.underlying t = some (.slice (P.elem t)) := by simp [Program.elem, ht]
  have he : P.elem t = e := by simp [Program.elem, ht]
  rw [run_slice_lh w t ao len cap ht' .i64 .i64 _ _ (by omega) (by omega) (by omega), he, hz]
  simp [Result.andThen, sliced, shiftA]
end

/-- a byte's cell -/
def byteV (b : UInt8) : Value := .int .u8 (b.toNat : Int)
def bytesV (bs : List UInt8) : List Value := bs.map byteV
def Bytes (w : World) (ao : Option Addr) (bs : List UInt8) : Prop := Reads w ao (bytesV bs)
theorem bytesV_length (bs : List UInt8) : (bytesV bs).length = bs.length := by simp [bytesV]
theorem bytesV_append (a b : List UInt8) : bytesV (a ++ b) = bytesV a ++ bytesV b := by simp [bytesV]
theorem bytesV_one (bs : List UInt8) : ∀ u ∈ bytesV bs, u.oneCell' = true := by
  intro u hu
  simp only [bytesV, List.mem_map] at hu
  obtain ⟨b, _, rfl⟩ := hu
  rfl
theorem byteV_of {z : Int} {n : Nat} (h : z = ((n % 256 : Nat) : Int)) : Value.int .u8 z = byteV (UInt8.ofNat n) := by
  subst h
  simp [byteV]

/-- the string of bytes -/
def strOf (bs : List UInt8) : ByteArray := ⟨bs.toArray⟩
theorem strOf_inj {a b : List UInt8} : strOf a = strOf b ↔ a = b := by
  constructor
  · intro h; simpa [strOf] using h
  · rintro rfl; rfl

theorem strOf_toList (bs : List UInt8) : (strOf bs).toList = bs := by
  rw [Go.ByteArray.toList_eq]; rfl
theorem str_ne {a b : List UInt8} (h : a ≠ b) : ((strOf a).toList == (strOf b).toList) = false := by
  rw [strOf_toList, strOf_toList]; simpa using h

theorem run_str {P : Program} (src dst e : TypeId) (hs : P.underlying src = some (.slice e)) (he : P.underlying e = some (.int .u8)) (hd : P.underlying dst = some .string)
    {w : World} {ao : Option Addr} {bs : List UInt8} (cap : Nat) (h : Bytes w ao bs) : (convert src dst (.slice ao bs.length cap)).run P w = .ok (.string (strOf bs)) w := by
  cases ao with
  | none =>
    have e0 := h.none_nil
    have : bs = [] := by simpa [bytesV] using e0
    subst this
    rw [run_convert_bytes_nil w src e hs he _ _ dst hd]
    rfl
  | some a =>
    have hl : (loadCells a bs.length).run P w = .ok ((bs.map fun b => (b.toNat : Int)).map (Value.int .u8)).toArray w := by
      have := run_loadCells_list (P := P) w a (bytesV bs) (fun j v hj => h.cellsAt a rfl j v hj)
      have e : bytesV bs = (bs.map fun b => (b.toNat : Int)).map (Value.int .u8) := by rw [List.map_map]; rfl
      rw [e] at this
      simpa using this
    rw [run_convert_bytes_string w src dst e _ bs.length cap hs he hd, run_bytesToString w _ bs.length cap _ hl, foldl_push_bytes]
    simp [strOf, ByteArray.empty, ByteArray.emptyWithCapacity, Function.comp_def]
    rfl

/-- a row of the call's own whose elements have one cell each -/
def Own (w : World) (base : Nat) (e : TypeId) (v : Value) (cs : List Value) : Prop := w.ownsRow base e 1 v cs.length cs

section
variable {w w' : World} {base : Nat} {e : TypeId} {v : Value} {cs : List Value}
theorem Own.nil (w : World) (base : Nat) (e : TypeId) : Own w base e (.slice none 0 0) [] := World.ownsRow_nil _ _ _ _
theorem Own.shape (h : Own w base e v cs) : ∃ ao cap, v = .slice ao cs.length cap ∧ cs.length ≤ cap ∧ cap ≤ maxLen ∧ (ao = none → cap = 0) ∧ Reads w ao cs ∧ (∀ a, ao = some a → base ≤ a.block ∧ a.block < w.heap.size) ∧ v.ownBlock = ao.map (·.block) := by
  have hc := h
  have hlt := World.ownsRow.lt h
  obtain ⟨hl, h | h⟩ := h
  · obtain ⟨rfl, hn⟩ := h
    have : cs = [] := List.eq_nil_of_length_eq_zero hn
    subst this
    exact ⟨none, 0, rfl, Nat.le_refl _, Nat.zero_le _, fun _ => rfl, Reads.nil _ _, (fun a h => by cases h), rfl⟩
  · obtain ⟨g, cap, cur, rfl, _, _, h1, h2, _⟩ := h
    refine ⟨some ⟨g, 0, none⟩, cap, rfl, h1, h2, (fun h => by cases h), ?_, ?_, rfl⟩
    · intro i hi
      refine ⟨g, 0, rfl, ?_⟩
      rw [Nat.zero_add, hc.cellAt i (by omega)]
      simp [hi]
    · intro a ha
      cases ha
      exact hlt g rfl
theorem Own.reads {ao : Option Addr} {n cap : Nat} (h : Own w base e (.slice ao n cap) cs) : Reads w ao cs := by
  obtain ⟨ao', cap', e, _, _, _, hr, _⟩ := h.shape
  injection e with e1 e2 e3
  subst e1
  exact hr
theorem Own.keep (h : Own w base e v cs) (k : ∀ g, g < w.heap.size → v.ownBlock = some g → w'.heap[g]? = w.heap[g]?) : Own w' base e v cs := by
  obtain ⟨hl, h | h⟩ := h
  · exact ⟨hl, .inl h⟩
  · obtain ⟨g, cap, cur, rfl, h1, h2, h3⟩ := h
    refine ⟨hl, .inr ⟨g, cap, cur, rfl, h1, ?_, h3⟩⟩
    have : g < w.heap.size := by
      by_cases hb : g < w.heap.size
      · exact hb
      · rw [Array.getElem?_eq_none (by omega)] at h2; simp at h2
    rw [k g this rfl, h2]
theorem Own.below (h : Own w base e v cs) (hb : Below w.heap.size w w') : Own w' base e v cs := h.keep fun g hg _ => hb.block g hg
theorem Own.grown (h : Own w base e v cs) {row : Option Nat} (hg : w.grownBy w' row) (hne : v.ownBlock = none ∨ v.ownBlock ≠ row) : Own w' base e v cs :=
  h.keep fun g hlt he => hg.block g hlt (by rcases hne with hne | hne <;> rw [he] at hne; · cases hne
                                            · exact hne)
theorem Own.le (h : Own w base e v cs) {base' : Nat} (hb : base' ≤ base) : Own w base' e v cs := by
  obtain ⟨hl, h | h⟩ := h
  · exact ⟨hl, .inl h⟩
  · obtain ⟨g, cap, cur, rfl, h1, h2⟩ := h
    exact ⟨hl, .inr ⟨g, cap, cur, rfl, by omega, h2⟩⟩
theorem Own.lt (h : Own w base e v cs) : ∀ g, v.ownBlock = some g → base ≤ g ∧ g < w.heap.size := World.ownsRow.lt h
/-- rows of unlike elements lie in unlike blocks -/
theorem Own.ne {base' : Nat} {e' : TypeId} {v' : Value} {cs' : List Value} (h : Own w base e v cs) (h' : Own w base' e' v' cs') (hne : e ≠ e') : v.ownBlock = none ∨ v.ownBlock ≠ v'.ownBlock := by
  obtain ⟨_, ⟨rfl, _⟩ | ⟨g, cap, cur, rfl, _, h2, _⟩⟩ := h
  · exact .inl rfl
  · right
    obtain ⟨_, ⟨rfl, _⟩ | ⟨g', cap', cur', rfl, _, h2', _⟩⟩ := h'
    · simp [Value.ownBlock]
    · intro eq
      have : g = g' := by simpa [Value.ownBlock] using eq
      subst this
      rw [h2] at h2'
      injection h2' with h2'
      injection h2' with _ ht
      exact hne ht
theorem Own.made (w : World) (cur : Array Value) (cap : Nat) {base : Nat} {e : TypeId} (hb : base ≤ w.heap.size) (hm : cap ≤ maxLen) (hs : cur.size = cap) : Own (w.alloc (.cells cur e)) base e (.slice (some ⟨w.heap.size, 0, none⟩) 0 cap) [] :=
  World.ownsRow_made w cur cap hb hm (by simpa using hs)
theorem Own.lit (w : World) (cur : Array Value) (n : Nat) {base : Nat} {e : TypeId} (hb : base ≤ w.heap.size) (hm : n ≤ maxLen) (hs : cur.size = n) : Own (w.alloc (.cells cur e)) base e (.slice (some ⟨w.heap.size, 0, none⟩) n n) cur.toList := by
  subst hs
  have := World.ownsRow_lit (base := base) (e := e) (size := 1) w cur cur.size hb hm (by simp)
  simpa [Own] using this
end

theorem run_make1 {P : Program} (t e : TypeId) (i : TypeInfo) (z : Value) (ht : P.underlying t = some (.slice e)) (hi : P.info? e = some i) (hz : i.zero = some z) (hsize : i.size = 1) (n : Nat) (hb : i.bytes * n ≤ 281474976710656) (hn : n ≤ 9223372036854775807) (w : World) :
    (Instr.makeSlice t (.int .i64 0) (.int .i64 (n : Int))).run P w = .ok (.slice (some ⟨w.heap.size, 0, none⟩) 0 n) (w.alloc (.cells (madeCells z.cells n) e)) := by
  have hb' : (i.bytes : Int) * (n : Int) ≤ 281474976710656 := by
    have h : ((i.bytes * n : Nat) : Int) ≤ 281474976710656 := by omega
    rwa [Int.natCast_mul] at h
  have := run_make (P := P) w t e i z ht hi hz .i64 .i64 0 n (Int.le_refl _) (by omega) hb' (by omega)
  simpa [hsize] using this

theorem Own.madeN (w : World) (z : Array Value) (n : Nat) {base : Nat} {e : TypeId} (hb : base ≤ w.heap.size) (hm : n ≤ maxLen) : Own (w.alloc (.cells (madeCells z n) e)) base e (.slice (some ⟨w.heap.size, 0, none⟩) 0 n) [] :=
  Own.made w _ n hb hm (size_madeCells _ _)

/-- what an append to v, of which v' came, leaves as it was -/
def Grew (w w' : World) (v v' : Value) : Prop := w.grownBy w' v.ownBlock ∧ (v'.ownBlock = v.ownBlock ∨ ∃ g, v'.ownBlock = some g ∧ w.heap.size ≤ g)

theorem Grew.refl (w : World) (v : Value) : Grew w w v v := ⟨World.grownBy.refl w _, .inl rfl⟩
theorem Grew.trans {w w1 w2 : World} {v v1 v2 : Value} (h : Grew w w1 v v1) (k : Grew w1 w2 v1 v2) : Grew w w2 v v2 := by
  obtain ⟨h1, h2⟩ := h
  obtain ⟨k1, k2⟩ := k
  refine ⟨⟨k1.os.trans h1.os, k1.tape.trans h1.tape, k1.output.trans h1.output, Nat.le_trans h1.size k1.size, fun i hi hne => (k1.block i (Nat.lt_of_lt_of_le hi h1.size) ?_).trans (h1.block i hi hne)⟩, ?_⟩
  · rcases h2 with h2 | ⟨g, h2, h3⟩
    · rw [h2]; exact hne
    · rw [h2]; intro e; cases e; omega
  · rcases k2 with k2 | ⟨g, k2, k3⟩
    · rcases h2 with h2 | ⟨g, h2, h3⟩
      · exact .inl (k2.trans h2)
      · exact .inr ⟨g, k2.trans h2, h3⟩
    · exact .inr ⟨g, k2, Nat.le_trans h1.size k3⟩
/-- a step that makes memory alone, ahead of an append or behind it -/
theorem Grew.of_below {w w1 : World} (v : Value) (h : Below w.heap.size w w1) : Grew w w1 v v := ⟨⟨h.os, h.tape, h.output, h.size, fun i hi _ => h.block i hi⟩, .inl rfl⟩
theorem Grew.below {w w1 w2 : World} {v v1 : Value} (h : Grew w w1 v v1) (k : Below w1.heap.size w1 w2) : Grew w w2 v v1 := h.trans (Grew.of_below v1 k)
theorem Grew.out {w w1 : World} {v v1 : Value} (h : Grew w w1 v v1) {B : Nat} (hB : B ≤ w.heap.size) (hv : ∀ g, v.ownBlock = some g → B ≤ g) : Below B w w1 :=
  (Below.refl B w).grown h.1 hB hv
theorem Grew.size {w w1 : World} {v v1 : Value} (h : Grew w w1 v v1) : w.heap.size ≤ w1.heap.size := h.1.size

section
variable {P : Program} {ops : Array Oper} {rest : List Oper} {o : Oper} {a : Act} {Q : Exit → Act → World → Prop}
/-- an append of one element that was just laid in a block of its own -/
theorem wpList_own_push (hgd : o.guard = none) (s x : Operand) (t : TypeId)
    (ho : o.op = .call { callee := .builtin .append, args := #[s, x], argTypes := #[t, t] })
    (base : Nat) (e : TypeId) (i : TypeInfo) (z : Value) (bytes : Nat) (ht : P.underlying t = some (.slice e)) (hi : P.info? e = some i) (hz : i.zero = some z)
    (hsize : i.size = 1) (hby : i.bytes = bytes) (hzs : z.cells.size = 1)
    (v : Value) (cs : List Value) (w0 : World) (hs : a.eval s = v) (hown : Own w0 base e v cs)
    (c : Nat) (y : Value) (hx : a.eval x = .slice (some ⟨w0.heap.size, 0, none⟩) 1 c) (h1 : y.oneCell' = true)
    (hn : cs.length < 9223372036854775807) (hbytes : (cs.length + 1) * bytes ≤ 140737488355328) (hbase : base ≤ w0.heap.size)
    (h : ∀ v' w', Own w' base e v' (cs ++ [y]) → Grew w0 w' v v' → wpList P ops Q rest (a.put o.dst v') w') :
    wpList P ops Q (o :: rest) a (w0.alloc (.cells #[y] e)) := by
  refine wpList_append_own_at _ hgd s x t ho base e i z 1 bytes ht hi hz hsize hby hzs (by decide) v cs.length cs hs (World.ownsRow.alloc hown _) ⟨w0.heap.size, 0, none⟩ 1 c [y] hx rfl (cell_one_new _ _ _) (by simpa using h1) (by unfold maxLen; omega) hbytes (by simp; omega) ?_
  intro v' w' h2 h3 _ h4
  refine h v' w' (by simpa [Own] using h2) ?_
  have k1 := Grew.of_below v ((Below.refl w0.heap.size w0).alloc (Nat.le_refl _) (.cells #[y] e))
  refine k1.trans ⟨h3, ?_⟩
  rcases h4 with h4 | h4
  · exact .inl h4
  · exact .inr ⟨_, h4, Nat.le_refl _⟩

/-- an append of whatever slice onto a row of the call's own -/
theorem wpList_own_app (hgd : o.guard = none) (s x : Operand) (t : TypeId)
    (ho : o.op = .call { callee := .builtin .append, args := #[s, x], argTypes := #[t, t] })
    (base : Nat) (e : TypeId) (i : TypeInfo) (z : Value) (bytes : Nat) (ht : P.underlying t = some (.slice e)) (hi : P.info? e = some i) (hz : i.zero = some z)
    (hsize : i.size = 1) (hby : i.bytes = bytes) (hzs : z.cells.size = 1)
    (v : Value) (cs : List Value) (w : World) (hs : a.eval s = v) (hown : Own w base e v cs)
    (ao : Option Addr) (m c : Nat) (news : List Value) (hx : a.eval x = .slice ao m c) (hnil : ao = none → c = 0) (hl : news.length = m) (hnews : Reads w ao news) (h1 : ∀ u ∈ news, u.oneCell' = true)
    (h63 : cs.length + m ≤ 9223372036854775807) (hbytes : (cs.length + m) * bytes ≤ 140737488355328) (hbase : base ≤ w.heap.size)
    (h : ∀ v' w', Own w' base e v' (cs ++ news) → Grew w w' v v' → wpList P ops Q rest (a.put o.dst v') w') :
    wpList P ops Q (o :: rest) a w := by
  subst hl
  cases ao with
  | none =>
    obtain rfl := hnil rfl
    have hn : news = [] := hnews.none_nil
    subst hn
    refine wpList_append_own_none hgd s x t ho base e i 1 ht hi v cs.length cs hs hown hx ?_
    exact h v w (by simpa using hown) (Grew.refl _ _)
  | some ad =>
    refine wpList_append_own_at _ hgd s x t ho base e i z 1 bytes ht hi hz hsize hby hzs (by decide) v cs.length cs hs hown ad news.length c news hx (by simp) (hnews.cellsAt ad rfl) h1 (by unfold maxLen; omega) hbytes hbase ?_
    intro v' w' h2 h3 _ h4
    refine h v' w' (by simpa [Own] using h2) ⟨h3, ?_⟩
    rcases h4 with h4 | h4
    · exact .inl h4
    · exact .inr ⟨_, h4, Nat.le_refl _⟩

/-- 'append([]T{}, x...)': a copy of whatever slice of one-cell elements -/
theorem wpList_copy (hgd : o.guard = none) (s x : Operand) (t : TypeId)
    (ho : o.op = .call { callee := .builtin .append, args := #[s, x], argTypes := #[t, t] })
    (e : TypeId) (i : TypeInfo) (z : Value) (bytes : Nat) (ht : P.underlying t = some (.slice e)) (hi : P.info? e = some i) (hz : i.zero = some z)
    (hsize : i.size = 1) (hby : i.bytes = bytes) (hzs : z.cells.size = 1)
    (w : World) (hs : a.eval s = .slice (some ⟨w.heap.size, 0, none⟩) 0 0)
    (ao : Option Addr) (m c : Nat) (news : List Value) (hx : a.eval x = .slice ao m c) (hnil : ao = none → c = 0) (hl : news.length = m) (hnews : Reads w ao news) (h1 : ∀ u ∈ news, u.oneCell' = true)
    (h63 : m ≤ 9223372036854775807) (hbytes : m * bytes ≤ 140737488355328)
    (h : ∀ co cc w', Own w' w.heap.size e (.slice co m cc) news → m ≤ cc → cc ≤ 9223372036854775807 → (co = none → cc = 0) → Below w.heap.size w w' → wpList P ops Q rest (a.put o.dst (.slice co m cc)) w') :
    wpList P ops Q (o :: rest) a (w.alloc (.cells #[] e)) := by
  have hO : Own (w.alloc (.cells #[] e)) w.heap.size e (.slice (some ⟨w.heap.size, 0, none⟩) 0 0) [] := Own.made w #[] 0 (Nat.le_refl _) (by decide) rfl
  refine wpList_own_app hgd s x t ho w.heap.size e i z bytes ht hi hz hsize hby hzs (.slice (some ⟨w.heap.size, 0, none⟩) 0 0) [] _ hs hO ao m c news hx hnil hl (hnews.alloc _) h1 (by simpa using h63) (by simpa using hbytes) (by simp) ?_
  intro v' w' ho' hg'
  have hb : Below w.heap.size w w' := ((Below.refl _ _).alloc (Nat.le_refl _) _).trans (hg'.out (by simp) (fun g hg => (hO.lt g hg).1))
  rw [List.nil_append] at ho'
  obtain ⟨co, cc, rfl, h2, h3, h4, h5, _, _⟩ := ho'.shape
  rw [hl] at h2 ho' ⊢
  exact h co cc w' ho' h2 (by simpa [maxLen] using h3) h4 hb
end

end Go.Proofs.Ytgdefibkemkejaa

/- Numbers as bytes, the lowest first: plain arithmetic. -/
namespace Go.Proofs.Ytgdefibkemkejaa
set_option linter.unusedVariables false
set_option maxRecDepth 20000

/-- the number in so many bytes, the lowest first -/
def leB : Nat → Nat → List UInt8
  | 0, _ => []
  | k + 1, z => UInt8.ofNat (z % 256) :: leB k (z / 256)

/-- the number of bytes -/
def valB : List UInt8 → Nat
  | [] => 0
  | b :: r => b.toNat + 256 * valB r

theorem leB_length (k z : Nat) : (leB k z).length = k := by
  induction k generalizing z with
  | zero => rfl
  | succ k ih => simp [leB, ih]

theorem pow_256_succ (k : Nat) : 256 ^ (k + 1) = 256 * 256 ^ k := by rw [Nat.pow_succ, Nat.mul_comm]

theorem leB_snoc (k z : Nat) : leB (k + 1) z = leB k z ++ [UInt8.ofNat (z / 256 ^ k % 256)] := by
  induction k generalizing z with
  | zero => simp [leB]
  | succ k ih =>
    have e : leB (k + 1 + 1) z = UInt8.ofNat (z % 256) :: leB (k + 1) (z / 256) := rfl
    rw [e, ih (z / 256), pow_256_succ, ← Nat.div_div_eq_div_mul]
    rfl

theorem valB_snoc (l : List UInt8) (b : UInt8) : valB (l ++ [b]) = valB l + b.toNat * 256 ^ l.length := by
  induction l with
  | nil => simp [valB]
  | cons a r ih =>
    simp only [List.cons_append, valB, ih, List.length_cons, pow_256_succ]
    rw [Nat.mul_add, Nat.add_assoc]
    congr 2
    rw [← Nat.mul_assoc, ← Nat.mul_assoc, Nat.mul_comm 256]

theorem valB_lt (l : List UInt8) : valB l < 256 ^ l.length := by
  induction l with
  | nil => simp [valB]
  | cons a r ih =>
    have := a.toNat_lt
    simp only [valB, List.length_cons, pow_256_succ]
    omega

theorem u8_of (b : UInt8) : UInt8.ofNat b.toNat = b := by simp

theorem leB_valB (l : List UInt8) : leB l.length (valB l) = l := by
  induction l with
  | nil => rfl
  | cons a r ih =>
    have h := a.toNat_lt
    have e1 : (a.toNat + 256 * valB r) % 256 = a.toNat := by omega
    have e2 : (a.toNat + 256 * valB r) / 256 = valB r := by omega
    simp only [List.length_cons, valB, leB, e1, e2, ih, u8_of]

theorem valB_leB (k z : Nat) (h : z < 256 ^ k) : valB (leB k z) = z := by
  induction k generalizing z with
  | zero => simp at h; subst h; rfl
  | succ k ih =>
    rw [pow_256_succ] at h
    simp only [leB, valB]
    rw [ih (z / 256) (by omega)]
    have : (UInt8.ofNat (z % 256)).toNat = z % 256 := by simp
    rw [this]; omega

theorem leB_mod (k z : Nat) : valB (leB k z) = z % 256 ^ k := by
  induction k generalizing z with
  | zero => simp [leB, valB, Nat.mod_one]
  | succ k ih =>
    simp only [leB, valB, ih (z / 256)]
    have : (UInt8.ofNat (z % 256)).toNat = z % 256 := by simp
    rw [this, pow_256_succ, Nat.mod_mul]

theorem leB_take (k z : Nat) {i : Nat} (h : i ≤ k) : (leB k z).take i = leB i z := by
  induction k generalizing z i with
  | zero => obtain rfl : i = 0 := by omega
            rfl
  | succ k ih =>
    cases i with
    | zero => rfl
    | succ i => simp [leB, ih (z / 256) (i := i) (by omega)]

theorem leB_inj {k a b : Nat} (ha : a < 256 ^ k) (hb : b < 256 ^ k) (h : leB k a = leB k b) : a = b := by
  rw [← valB_leB k a ha, ← valB_leB k b hb, h]

theorem pow_le_64 {k : Nat} (h : k ≤ 8) : 256 ^ k ≤ 18446744073709551616 := by
  have : 256 ^ k ≤ 256 ^ 8 := Nat.pow_le_pow_right (by omega) h
  simpa using this

theorem two_pow_8 (k : Nat) : 2 ^ (8 * k) = 256 ^ k := by rw [Nat.pow_mul]

theorem valB_take_lt (l : List UInt8) {k : Nat} (h : l.length ≤ k) : valB l < 256 ^ k :=
  Nat.lt_of_lt_of_le (valB_lt l) (Nat.pow_le_pow_right (by omega) h)

theorem valB_lt_64 (l : List UInt8) (h : l.length ≤ 8) : valB l < 18446744073709551616 := Nat.lt_of_lt_of_le (valB_take_lt l h) (pow_le_64 (Nat.le_refl 8))

theorem valB_lt_16 (l : List UInt8) (h : l.length = 2) : valB l < 65536 := by
  have := valB_lt l
  rw [h] at this
  simpa using this

end Go.Proofs.Ytgdefibkemkejaa

/- How arguments read: slices of numbers, bytes, and texts; whatever the types' numbers are. -/
namespace Go.Proofs.Ytgdefibkemkejaa
open Go.ChangeShapes Go.WideShapes Go.ChangeAt Go.RowKit Go.Deep
set_option linter.unusedVariables false
set_option maxRecDepth 20000

theorem wf_i64 {z : Int} (h : (Lit.int .i64 z).wf = true) : I64 z := by
  simpa [Lit.wf, IntKind.min, IntKind.max, IntKind.signed, IntKind.bits, I64] using h
theorem wf_u64 {z : Int} (h : (Lit.int .u64 z).wf = true) : 0 ≤ z ∧ z < 18446744073709551616 := by
  have := bounds_u64 h; omega
theorem nat_u8 {z : Int} (h : (Lit.int .u8 z).wf = true) : ∃ n : Nat, z = (n : Int) ∧ n < 256 := ⟨z.toNat, by have := bounds_u8 h; omega, by have := bounds_u8 h; omega⟩
theorem nat_u32 {z : Int} (h : (Lit.int .u32 z).wf = true) : ∃ n : Nat, z = (n : Int) ∧ n < 4294967296 := by
  have h1 : 0 ≤ z ∧ z < 4294967296 := by
    simp [Lit.wf, IntKind.min, IntKind.max, IntKind.signed, IntKind.bits] at h; omega
  exact ⟨z.toNat, by omega, by omega⟩
theorem nat_u64 {z : Int} (h : (Lit.int .u64 z).wf = true) : ∃ n : Nat, z = (n : Int) ∧ n < 18446744073709551616 := ⟨z.toNat, by have := bounds_u64 h; omega, by have := bounds_u64 h; omega⟩
theorem wf_u8 {z : Int} (h : (Lit.int .u8 z).wf = true) : 0 ≤ z ∧ z < 256 := by
  have := bounds_u8 h; omega

section
variable {H : Type} {enc : TypeId × Value → H} {W : World} {base : Nat} {v : Value} {d : DataW H} {p : List MemPlace} {t e : TypeId} {k : IntKind}

theorem argK (ht : Try.prog.underlying t = some (.slice e)) (he : Try.prog.underlying e = some (.int k)) (hc : Try.prog.cellsOf e = 1)
    (h : DataW.Trod enc Try.prog W 0 (fun _ => true) true t v d p) (hv : Value.okWide Try.prog W .any base t v)
    (hw : ∀ es sp, d = .slice es sp → (es.length + sp.length) * Try.prog.bytesOf e ≤ reachBytes) :
    ∃ (ao : Option Addr) (zs : List Int) (cap : Nat), v = .slice ao zs.length cap ∧ Reads W ao (zs.map (.int k)) ∧ (∀ z ∈ zs, (Lit.int k z).wf = true) ∧ zs.length ≤ cap ∧ cap ≤ maxLen ∧ cap * Try.prog.bytesOf e ≤ 140737488351232 ∧ (ao = none → cap = 0) := by
  obtain ⟨a, len, cap, rfl⟩ := okWide_slice ht hv
  obtain ⟨fuel, hf⟩ := h
  rcases open_ints ht he hc hf with ⟨hcs, _⟩ | ⟨x, l, c, zs, hcs, _, hl, hm, hz, hx, hcell, hwz⟩
  · simp [Value.cells] at hcs
    obtain ⟨rfl, rfl, rfl⟩ := hcs
    exact ⟨none, [], 0, rfl, Reads.nil _ _, (fun q hq => by cases hq), by simp, by simp, by simp, fun _ => rfl⟩
  · simp [Value.cells] at hcs
    obtain ⟨rfl, rfl, rfl⟩ := hcs
    simp only [if_true] at hz
    simp only [Prod.mk.injEq] at hx
    have hwt := hw _ _ hx.1
    simp only [lits, List.length_map, List.length_take, List.length_drop] at hwt
    rw [show min len zs.length + (zs.length - len) = cap from by omega] at hwt
    unfold reachBytes at hwt
    refine ⟨some x, zs.take len, cap, by simp; omega, ?_, fun z hz' => hwz z (List.mem_of_mem_take hz'), by simp; omega, hm, hwt, fun h => by cases h⟩
    intro i hi
    have hi' : i < len := by simp at hi; omega
    have hp : 0 < zs.length := by omega
    obtain ⟨b, off, rfl, hc⟩ := ints_at hcell hp
    refine ⟨b, off, rfl, ?_⟩
    rw [hc i (by omega)]
    simp only [List.getElem_map, List.getElem_take]
    rw [List.getD_eq_getElem?_getD, List.getElem?_eq_getElem (by omega)]
    rfl

/-- a byte of a number in bounds -/
theorem byteV_cell {z : Int} (h : 0 ≤ z ∧ z < 256) : Value.int .u8 z = byteV (UInt8.ofNat z.toNat) := by
  unfold byteV
  congr 1
  simp
  omega

theorem bytesV_of {zs : List Int} (h : ∀ z ∈ zs, (Lit.int .u8 z).wf = true) : zs.map (Value.int .u8) = bytesV (zs.map fun z => UInt8.ofNat z.toNat) := by
  unfold bytesV
  rw [List.map_map]
  exact List.map_congr_left fun z hz => byteV_cell (wf_u8 (h z hz))

theorem argBytes (ht : Try.prog.underlying t = some (.slice e)) (he : Try.prog.underlying e = some (.int .u8)) (hc : Try.prog.cellsOf e = 1) (hb : Try.prog.bytesOf e = 1)
    (h : DataW.Trod enc Try.prog W 0 (fun _ => true) true t v d p) (hv : Value.okWide Try.prog W .any base t v)
    (hw : ∀ es sp, d = .slice es sp → (es.length + sp.length) * Try.prog.bytesOf e ≤ reachBytes) :
    ∃ (ao : Option Addr) (bs : List UInt8) (cap : Nat), v = .slice ao bs.length cap ∧ Bytes W ao bs ∧ bs.length ≤ cap ∧ cap ≤ 140737488351232 ∧ (ao = none → cap = 0) := by
  obtain ⟨ao, zs, cap, rfl, hr, hwf, hl, hm, hbd, hn⟩ := argK ht he hc h hv hw
  rw [hb, Nat.mul_one] at hbd
  refine ⟨ao, zs.map fun z => UInt8.ofNat z.toNat, cap, by simp, ?_, by simpa using hl, hbd, hn⟩
  unfold Bytes
  rw [← bytesV_of hwf]
  exact hr

theorem argTexts {q : TypeId} (ht : Try.prog.underlying t = some (.slice e)) (he : Try.prog.underlying e = some (.slice q)) (hq : Try.prog.underlying q = some (.int .u8)) (ce : Try.prog.cellsOf e = 1) (cq : Try.prog.cellsOf q = 1) (hb : Try.prog.bytesOf e = 24)
    (h : DataW.Trod enc Try.prog W 0 (fun _ => true) true t v d p) (hv : Value.okWide Try.prog W .any base t v)
    (hw : ∀ es sp, d = .slice es sp → (es.length + sp.length) * Try.prog.bytesOf e ≤ reachBytes) :
    ∃ (ao : Option Addr) (ts : List (List UInt8)) (cap : Nat), v = .slice ao ts.length cap ∧ ts.length ≤ cap ∧ cap * 24 ≤ 140737488351232 ∧ (ao = none → cap = 0) ∧
      ∃ cs : List Value, cs.length = ts.length ∧ Reads W ao cs ∧ ∀ i (h : i < ts.length), ∃ bo cap, cs[i]? = some (.slice bo ts[i].length cap) ∧ ts[i].length ≤ cap ∧ cap ≤ maxLen ∧ (bo = none → cap = 0) ∧ Bytes W bo ts[i] := by
  obtain ⟨a, len, cap, rfl⟩ := okWide_slice ht hv
  obtain ⟨fuel, hf⟩ := h
  rcases open_int_rows ht he hq ce cq hf with ⟨hcs, _⟩ | ⟨x, l, c, A, L, C, Z, hcs, _, hl, hm, hx, hrow⟩
  · simp [Value.cells] at hcs
    obtain ⟨rfl, rfl, rfl⟩ := hcs
    exact ⟨none, [], 0, rfl, by simp, by simp, fun _ => rfl, [], rfl, Reads.nil _ _, fun i hi => by simp at hi⟩
  · simp [Value.cells] at hcs
    obtain ⟨rfl, rfl, rfl⟩ := hcs
    simp only [Prod.mk.injEq] at hx
    have hwt := hw _ _ hx.1
    simp only [List.length_map, List.length_range] at hwt
    rw [hb, show len + (cap - len) = cap from by omega] at hwt
    unfold reachBytes at hwt
    refine ⟨some x, (List.range len).map (fun r => ((Z r).take (L r)).map fun z => UInt8.ofNat z.toNat), cap, by simp, by simpa using hl, hwt, (fun h => by cases h), (List.range len).map (fun r => .slice (A r) (L r) (C r)), by simp, ?_, ?_⟩
    · intro i hi
      have hi' : i < len := by simpa using hi
      obtain ⟨c0, _⟩ := hrow i (by omega)
      obtain ⟨c00, _⟩ := hrow 0 (by omega)
      obtain ⟨b, off, spot⟩ := x
      have hspot : spot = none := by simpa [Addr.add] using World.cell?_spot c00
      subst hspot
      rw [Go.WideShapes.add_plain] at c0
      exact ⟨b, off, rfl, by rw [c0]; simp⟩
    · intro i hi
      have hi' : i < len := by simpa using hi
      obtain ⟨_, r1, r2, r3, r4, r5, r6⟩ := hrow i (by omega)
      have hlen : (((Z i).take (L i)).map fun z => UInt8.ofNat z.toNat).length = L i := by simp; omega
      refine ⟨A i, C i, ?_, ?_, r2, r5, ?_⟩
      · simp only [List.getElem_map, List.getElem_range, hlen]
        rw [List.getElem?_map, List.getElem?_range hi']; rfl
      · simp only [List.getElem_map, List.getElem_range, hlen]; exact r1
      · simp only [List.getElem_map, List.getElem_range]
        have hwf : ∀ z ∈ (Z i).take (L i), (Lit.int .u8 z).wf = true := fun z hz => r4 z (List.mem_of_mem_take hz)
        unfold Bytes
        rw [← bytesV_of hwf]
        intro j hj
        have hj' : j < L i := by simp at hj; omega
        cases hA : A i with
        | none => have := r5 hA; omega
        | some a' =>
          obtain ⟨_, hcell⟩ := r6 a' hA
          have c0 := hcell 0 (by omega)
          obtain ⟨b, off, spot⟩ := a'
          have hspot : spot = none := by simpa [Addr.add] using World.cell?_spot c0
          subst hspot
          have cj := hcell j (by omega)
          rw [Go.WideShapes.add_plain] at cj
          refine ⟨b, off, rfl, ?_⟩
          rw [cj]
          simp only [List.getElem_map, List.getElem_take]
          rw [List.getD_eq_getElem?_getD, List.getElem?_eq_getElem (by omega)]
          rfl
end
end Go.Proofs.Ytgdefibkemkejaa

/- How a slice of bytes reads that came in; a literal's cells; the string of a slice. -/
namespace Go.Proofs.Ytgdefibkemkejaa
open Go.ChangeShapes Go.WideShapes Go.ChangeAt Go.RowKit Go.Deep
set_option linter.unusedVariables false
set_option maxRecDepth 20000

section
variable {H : Type} {enc : TypeId × Value → H} {W : World} {base : Nat} {v : Value} {d : DataW H} {p : List MemPlace}
theorem arg_bytes (h : DataW.Trod enc Try.prog W 0 (fun _ => true) true 39 v d p) (hv : Value.okWide Try.prog W .any base 39 v)
    (hw : ∀ es sp, d = .slice es sp → (es.length + sp.length) * Try.prog.bytesOf 5 ≤ reachBytes) : ∃ (ao : Option Addr) (bs : List UInt8) (cap : Nat), v = .slice ao bs.length cap ∧ Bytes W ao bs ∧ (bs.length ≤ cap ∧ cap ≤ 140737488351232) ∧ (ao = none → cap = 0) := by
  obtain ⟨ao, bs, cap, h1, h2, h3, h4, h5⟩ := argBytes Try.underlying39 Try.underlying5 (by kernel_rfl) (by kernel_rfl) h hv hw
  exact ⟨ao, bs, cap, h1, h2, ⟨h3, h4⟩, h5⟩
end

theorem Reads.lit (w : World) (cur : Array Value) (e : TypeId) (fr : Nat × Nat := (0, 0)) : Reads (w.alloc (.cells cur e fr)) (some ⟨w.heap.size, 0, none⟩) cur.toList := by
  intro i hi
  refine ⟨w.heap.size, 0, rfl, ?_⟩
  have hi' : i < cur.size := by simpa using hi
  rw [cell_of_row (w.alloc (.cells cur e fr)) w.heap.size (0 + i) cur e fr (heap_alloc_new w _)]
  simp [hi']

theorem str_at {w : World} {ao : Option Addr} {bs : List UInt8} (n cap : Nat) (h : Bytes w ao bs) (hn : bs.length = n) : (convert 39 9 (.slice ao n cap)).run Try.prog w = .ok (.string (strOf bs)) w := by
  subst hn
  exact run_str 39 9 5 Try.underlying39 Try.underlying5 Try.underlying9 cap h

theorem infoU8 : (Try.prog.info? 5).map (fun i => (i.zero, i.size, i.bytes)) = some (some (.int .u8 0), 1, 1) := by kernel_rfl

end Go.Proofs.Ytgdefibkemkejaa

/- Blocks that are known whole, what a step leaves as it was, and rows of elements of several cells each: loads and stores of whole elements; what holds for every program. -/
namespace Go.Proofs.Ytgdefibkemkejaa
open Go.ChangeShapes Go.WideShapes Go.ChangeAt Go.RowKit
set_option linter.unusedVariables false
set_option maxRecDepth 20000

/-- block g is just these cells -/
def Blk (w : World) (g : Nat) (t : TypeId) (cs : List Value) : Prop := w.heap[g]? = some (.cells cs.toArray t (0, 0))

/-- what F does not name is as it was -/
structure Kept (F : Nat → Prop) (w w' : World) : Prop where
  os : w'.os = w.os
  tape : w'.tape = w.tape
  output : w'.output = w.output
  size : w.heap.size ≤ w'.heap.size
  block : ∀ k, k < w.heap.size → ¬ F k → w'.heap[k]? = w.heap[k]?

section
variable {F G : Nat → Prop} {a w w' : World}
theorem Kept.refl (F : Nat → Prop) (w : World) : Kept F w w := ⟨rfl, rfl, rfl, Nat.le_refl _, fun _ _ _ => rfl⟩
theorem Kept.then (h : Kept F a w) (k : Kept G w w') (hG : ∀ i, i < a.heap.size → G i → F i) : Kept F a w' :=
  ⟨k.os.trans h.os, k.tape.trans h.tape, k.output.trans h.output, Nat.le_trans h.size k.size, fun i hi hn => (k.block i (Nat.lt_of_lt_of_le hi h.size) (fun g => hn (hG i hi g))).trans (h.block i hi hn)⟩
theorem Kept.trans (h : Kept F a w) (k : Kept F w w') : Kept F a w' := h.then k fun _ _ h => h
theorem Kept.mono (h : Kept F w w') (hG : ∀ i, i < w.heap.size → F i → G i) : Kept G w w' := ⟨h.os, h.tape, h.output, h.size, fun i hi hn => h.block i hi (fun f => hn (hG i hi f))⟩
theorem Kept.of_alloc (F : Nat → Prop) (w : World) (o : Obj) : Kept F w (w.alloc o) := ⟨rfl, rfl, rfl, by simp, fun k hk _ => Below.heap_alloc _ _ _ hk⟩
theorem Kept.alloc (h : Kept F a w) (o : Obj) : Kept F a (w.alloc o) := h.trans (Kept.of_alloc F w o)
theorem Kept.drew (h : Kept F a w) : Kept F a w.drew := ⟨h.os, h.tape, h.output, h.size, h.block⟩
theorem Kept.drewN (h : Kept F a w) (n : Nat) : Kept F a (w.drewN n) := ⟨h.os, h.tape, h.output, h.size, h.block⟩
theorem Kept.of_setCell (w : World) {p : Addr} (hp : F p.block) (u : Value) : Kept F w (w.setCell p u) := ⟨rfl, rfl, rfl, by simp [World.setCell], fun k hk hn => Below.heap_setCell _ _ _ _ (fun e => hn (e ▸ hp))⟩
theorem Kept.cellAt (w : World) (g i : Nat) (u : Value) : Kept (· = g) w (w.setCell ⟨g, i, none⟩ u) := Kept.of_setCell (F := (· = g)) w (p := ⟨g, i, none⟩) rfl u
theorem Kept.setCell (h : Kept F a w) {p : Addr} (hp : F p.block) (u : Value) : Kept F a (w.setCell p u) := h.trans (Kept.of_setCell w hp u)
theorem Kept.of_setRow (w : World) {g : Nat} (hp : F g) (cs : Array Value) : Kept F w (w.setRow g cs) := ⟨rfl, rfl, rfl, by simp, fun k hk hn => setRow_other _ _ _ _ (fun e => hn (e ▸ hp))⟩
theorem Kept.of_below (h : Below w.heap.size w w') (F : Nat → Prop) : Kept F w w' := ⟨h.os, h.tape, h.output, h.size, fun k hk _ => h.block k hk⟩
theorem Kept.of_grown {row : Option Nat} (h : w.grownBy w' row) (hr : ∀ k, row = some k → k < w.heap.size → F k) : Kept F w w' := ⟨h.os, h.tape, h.output, h.size, fun k hk hn => h.block k hk (fun e => hn (hr k e.symm hk))⟩
theorem Kept.below {B : Nat} (h : Kept F w w') (hF : ∀ k, k < w.heap.size → F k → B ≤ k) (hB : B ≤ w.heap.size) : Below B w w' :=
  ⟨h.os, h.tape, h.output, h.size, fun k hk => h.block k (by omega) (fun f => by have := hF k (by omega) f; omega)⟩
theorem Kept.out {B : Nat} (h : Below B a w) (k : Kept F w w') (hF : ∀ i, i < w.heap.size → F i → B ≤ i) (hB : B ≤ w.heap.size) : Below B a w' := h.trans (k.below hF hB)
theorem Kept.cell (h : Kept F w w') {p : Addr} (hp : p.block < w.heap.size) (hn : ¬ F p.block) : w'.cell? p = w.cell? p := World.cell?_of_block (h.block _ hp hn)
theorem Kept.frozen (h : Kept F w w') {p : Addr} (hp : p.block < w.heap.size) (hn : ¬ F p.block) : w'.frozen? p = w.frozen? p := World.frozen?_of_block (h.block _ hp hn)
end

section
variable {w w' : World} {g : Nat} {t : TypeId} {cs : List Value} {F : Nat → Prop}
theorem Blk.lt (h : Blk w g t cs) : g < w.heap.size := by
  unfold Blk at h
  by_cases hb : g < w.heap.size
  · exact hb
  · rw [Array.getElem?_eq_none (by omega)] at h; cases h
theorem Blk.cell (h : Blk w g t cs) (i : Nat) : w.cell? ⟨g, i, none⟩ = cs[i]? := by rw [cell_of_row w g i _ t (0, 0) h]; simp
theorem Blk.frozen (h : Blk w g t cs) (i : Nat) : w.frozen? ⟨g, i, none⟩ = false := frozen_of_row w g i _ _ h
theorem Blk.new (w : World) (t : TypeId) (cs : List Value) : Blk (w.alloc (.cells cs.toArray t)) w.heap.size t cs := heap_alloc_new w _
theorem Blk.newA (w : World) (t : TypeId) (cs : Array Value) : Blk (w.alloc (.cells cs t)) w.heap.size t cs.toList := by
  have := heap_alloc_new w (.cells cs t)
  unfold Blk; simpa using this
theorem Blk.drew (h : Blk w g t cs) : Blk w.drew g t cs := h
theorem Blk.drewN (h : Blk w g t cs) (n : Nat) : Blk (w.drewN n) g t cs := h
theorem Blk.alloc (h : Blk w g t cs) (o : Obj) : Blk (w.alloc o) g t cs := (Below.heap_alloc w o g h.lt).trans h
theorem Blk.set (h : Blk w g t cs) (i : Nat) (u : Value) : Blk (w.setCell ⟨g, i, none⟩ u) g t (cs.set i u) := by
  unfold Blk at *
  rw [heap_setCell_same w g i _ t u h]
  simp
theorem Blk.far (h : Blk w g t cs) {p : Addr} (hp : g ≠ p.block) (u : Value) : Blk (w.setCell p u) g t cs := (Below.heap_setCell w p u g hp).trans h
theorem Blk.kept (h : Blk w g t cs) (k : Kept F w w') (hn : ¬ F g) : Blk w' g t cs := (k.block g h.lt hn).trans h
theorem Blk.below {B : Nat} (h : Blk w g t cs) (hb : Below B w w') (hg : g < B) : Blk w' g t cs := (hb.block g hg).trans h
theorem Blk.row (h : Blk w g t cs) (cs' : List Value) : Blk (w.setRow g cs'.toArray) g t cs' := setRow_heap w g _ _ t _ h
theorem Blk.ne {g' : Nat} {t' : TypeId} {cs' : List Value} (h : Blk w g t cs) (h' : Blk w g' t' cs') (hne : t ≠ t') : g ≠ g' := by
  rintro rfl
  unfold Blk at h h'
  rw [h] at h'
  injection h' with h'
  injection h' with _ ht
  exact hne ht
theorem Blk.range (h : Blk w g t cs) {o : Nat} {xs : List Value} (hx : ∀ j v, xs[j]? = some v → cs[o + j]? = some v) : w.rangeAt g o xs := fun j v hv => by
  rw [h.cell]; exact hx j v hv
theorem Blk.there (h : Blk w g t cs) {o n : Nat} (hn : o + n ≤ cs.length) : w.there g o n := fun j hj => ⟨by rw [h.cell, List.getElem?_eq_getElem (by omega)]; rfl, h.frozen _⟩
theorem Own.ne_blk {base : Nat} {e : TypeId} {v : Value} {n size : Nat} {xs : List Value} (h : w.ownsRow base e size v n xs) (hg : Blk w g t cs) (hne : e ≠ t) : v.ownBlock ≠ some g := by
  rcases h.2 with ⟨rfl, _⟩ | ⟨g', cap, cur, rfl, _, hh, _⟩
  · simp [Value.ownBlock]
  · intro he
    have : g' = g := by simpa [Value.ownBlock] using he
    subst this
    unfold Blk at hg
    rw [hg] at hh
    injection hh with hh
    injection hh with _ ht
    exact hne ht.symm
end

theorem Reads.of_blk {w : World} {g : Nat} {t : TypeId} {cs : List Value} (h : Blk w g t cs) : Reads w (some ⟨g, 0, none⟩) cs := fun i hi => ⟨g, 0, rfl, by rw [h.cell, Nat.zero_add, List.getElem?_eq_getElem hi]⟩
theorem two_new (w : World) (o : Obj) (t : TypeId) (cs : List Value) : Blk ((w.alloc o).alloc (.cells cs.toArray t)) (w.heap.size + 1) t cs := by
  have := Blk.new (w.alloc o) t cs
  simpa using this
theorem two_below (w : World) (o o' : Obj) : Below w.heap.size w ((w.alloc o).alloc o') := ((Below.refl _ _).alloc (Nat.le_refl _) _).alloc (by simp) _
theorem blk_out {w w1 : World} {g : Nat} {t : TypeId} {cs : List Value} (h : Blk w g t cs) (hb : Below w.heap.size w w1) : Blk w1 g t cs := h.below hb h.lt
theorem cell_alloc {w : World} {a : Addr} {v : Value} (h : w.cell? a = some v) (o : Obj) : (w.alloc o).cell? a = some v := (World.cell?_alloc_lt w o a (cell_lt h)).trans h

/-! ### Elements of n cells each -/
section
variable {α : Type} (f : α → List Value)
def rowsL (xs : List α) : List Value := xs.flatMap f
variable {f} {n : Nat}
theorem rowsL_nil : rowsL f [] = [] := rfl
theorem rowsL_one (x : α) : rowsL f [x] = f x := by simp [rowsL]
theorem rowsL_append (xs ys : List α) : rowsL f (xs ++ ys) = rowsL f xs ++ rowsL f ys := by simp [rowsL]
theorem rowsL_cons (x : α) (xs : List α) : rowsL f (x :: xs) = f x ++ rowsL f xs := by simp [rowsL]
theorem rowsL_length (hf : ∀ x, (f x).length = n) (xs : List α) : (rowsL f xs).length = xs.length * n := by
  induction xs with
  | nil => simp [rowsL]
  | cons x r ih => rw [rowsL_cons, List.length_append, hf, ih, List.length_cons]; rw [Nat.add_mul]; omega
theorem rowsL_split (hf : ∀ x, (f x).length = n) (xs : List α) (i : Nat) (h : i < xs.length) : rowsL f xs = rowsL f (xs.take i) ++ f xs[i] ++ rowsL f (xs.drop (i + 1)) := by
  conv => lhs; rw [← List.take_append_drop i xs, List.drop_eq_getElem_cons h]
  rw [rowsL_append, rowsL_cons, List.append_assoc]
theorem rowsL_at (hf : ∀ x, (f x).length = n) (xs : List α) (i : Nat) (h : i < xs.length) (j : Nat) (v : Value) (hv : (f xs[i])[j]? = some v) : (rowsL f xs)[i * n + j]? = some v := by
  have hj : j < (f xs[i]).length := (List.getElem?_eq_some_iff.1 hv).1
  have hl : (rowsL f (xs.take i)).length = i * n := by rw [rowsL_length hf, List.length_take, Nat.min_eq_left (by omega)]
  rw [rowsL_split hf xs i h, List.append_assoc, List.getElem?_append_right (by omega), hl, show i * n + j - i * n = j from by omega, List.getElem?_append_left hj, hv]
theorem rowsL_set (hf : ∀ x, (f x).length = n) (xs : List α) (i : Nat) (h : i < xs.length) (y : α) : rowsL f (xs.set i y) = (rowsL f xs).take (i * n) ++ f y ++ (rowsL f xs).drop (i * n + n) := by
  have hl : (rowsL f (xs.take i)).length = i * n := by rw [rowsL_length hf, List.length_take, Nat.min_eq_left (by omega)]
  rw [rowsL_split hf (xs.set i y) i (by simpa using h), rowsL_split hf xs i h]
  have e1 : (rowsL f (xs.take i) ++ f xs[i] ++ rowsL f (xs.drop (i + 1))).take (i * n) = rowsL f (xs.take i) := by
    rw [List.append_assoc, ← hl, List.take_left]
  have e2 : (rowsL f (xs.take i) ++ f xs[i] ++ rowsL f (xs.drop (i + 1))).drop (i * n + n) = rowsL f (xs.drop (i + 1)) := by
    have : (rowsL f (xs.take i) ++ f xs[i]).length = i * n + n := by rw [List.length_append, hl, hf]
    rw [← this, List.drop_left]
  rw [e1, e2]
  simp [List.take_set_of_le, List.drop_set_of_lt]
theorem rowsL_one_cell (hf : ∀ x, ∀ v ∈ f x, v.oneCell' = true) (xs : List α) : ∀ v ∈ rowsL f xs, v.oneCell' = true := by
  intro v hv
  simp only [rowsL, List.mem_flatMap] at hv
  obtain ⟨x, _, hx⟩ := hv
  exact hf x v hx
end

/-! ### Whole elements out of and into a block -/
section
variable {P : Program} {ops : Array Oper} {rest : List Oper} {o : Oper} {a : Act} {w : World} {Q : Exit → Act → World → Prop}

theorem splice_blk {w : World} {g : Nat} {t : TypeId} {cur : List Value} (hb : Blk w g t cur) (off : Nat) (vs : List Value) (hl : off + vs.length ≤ cur.length) (h1 : ∀ v ∈ vs, v.oneCell' = true) :
    (storeCells ⟨g, off, none⟩ vs).run P w = .ok () (w.setRow g (cur.take off ++ vs ++ cur.drop (off + vs.length)).toArray) := by
  have := run_storeCells_at P g off t vs 0 cur.toArray w hb (by simpa using hl) h1
  simpa using this

theorem run_store_blk (ty : TypeId) {w : World} {g : Nat} {t : TypeId} {cur : List Value} (hb : Blk w g t cur) (off : Nat) (vs : List Value) (hl : off + vs.length ≤ cur.length) (h1 : ∀ v ∈ vs, v.oneCell' = true) (hi : (P.info? ty).map (·.size) = some vs.length) :
    (storeVar ty ⟨g, off, none⟩ (.agg vs.toArray)).run P w = .ok () (w.setRow g (cur.take off ++ vs ++ cur.drop (off + vs.length)).toArray) := by
  cases hq : P.info? ty with
  | none => simp [hq] at hi
  | some i =>
    have hs : i.size = vs.length := by simpa [hq] using hi
    have hc := splice_blk (P := P) hb off vs hl h1
    simp only [List.append_assoc] at hc
    simp [storeVar, sizeOf, typeInfo, hq, Value.cells, hs, hc]

/-- a store of a whole element: the world behind it is a letter -/
theorem wp_store_blk {K : Act → World → Prop} (ty : TypeId) (x y : Operand) (ho : o.op = .store ty x y)
    (g off : Nat) (hx : a.eval x = .pointer (some ⟨g, off, none⟩)) (vs : List Value) (hy : a.eval y = .agg vs.toArray) (t : TypeId) (cur new : List Value) (hb : Blk w g t cur)
    (hl : off + vs.length ≤ cur.length) (h1 : ∀ v ∈ vs, v.oneCell' = true) (hi : (P.info? ty).map (·.size) = some vs.length) (hnew : new = cur.take off ++ vs ++ cur.drop (off + vs.length))
    (h : ∀ w', Blk w' g t new → Kept (· = g) w w' → w'.heap.size = w.heap.size → K (a.put o.dst undef) w') : o.wp P a w K Q := by
  have hr := run_store_blk (P := P) ty hb off vs hl h1 hi
  unfold Oper.wp execOp
  simp only [ho, hx, hy, Instr.storeAt, Instr.sureAddr, Sem.run_bind, Sem.run_pure, Result.andThen_ok, hr]
  refine h _ ?_ (Kept.of_setRow (F := (· = g)) w rfl _) (by simp)
  subst hnew
  exact hb.row _

theorem wpList_store_blk (hgd : o.guard = none) (ty : TypeId) (x y : Operand) (ho : o.op = .store ty x y)
    (g off : Nat) (hx : a.eval x = .pointer (some ⟨g, off, none⟩)) (vs : List Value) (hy : a.eval y = .agg vs.toArray) (t : TypeId) (cur new : List Value) (hb : Blk w g t cur)
    (hl : off + vs.length ≤ cur.length) (h1 : ∀ v ∈ vs, v.oneCell' = true) (hi : (P.info? ty).map (·.size) = some vs.length) (hnew : new = cur.take off ++ vs ++ cur.drop (off + vs.length))
    (h : ∀ w', Blk w' g t new → Kept (· = g) w w' → w'.heap.size = w.heap.size → wpList P ops Q rest (a.put o.dst undef) w') : wpList P ops Q (o :: rest) a w :=
  wpList_plain hgd fun _ hK => wp_store_blk ty x y ho g off hx vs hy t cur new hb hl h1 hi hnew fun w' h2 h3 h4 => hK _ _ (h w' h2 h3 h4)

/-- a whole variable is overwritten -/
theorem whole_new {cur vs : List Value} (h : vs.length = cur.length) : vs = cur.take 0 ++ vs ++ cur.drop (0 + vs.length) := by
  rw [List.take_zero, List.drop_of_length_le (by omega)]; simp

theorem wpList_build (hgd : o.guard = none) (t : TypeId) (parts : Array (Nat × Operand)) (ho : o.op = .build t parts) (cells : List Value)
    (hp : P.built t (parts.map fun (i, x) => (i, a.eval x)).toList = some cells.toArray) (h : wpList P ops Q rest (a.put o.dst (.agg cells.toArray)) w) : wpList P ops Q (o :: rest) a w :=
  wpList_plain hgd fun _ hK => by
    unfold Oper.wp execOp
    simp only [ho, Sem.run_bind, run_build w t _ _ hp, Result.andThen_ok]
    exact hK _ _ h
end

/-! ### What a literal of several parts has -/
theorem fold_set (vs : List Value) (off : Nat) (cur : Array Value) (i : Nat) (h : off + i + vs.length ≤ cur.size) :
    (((vs.zipIdx i).foldl (fun cs x => cs.setIfInBounds (off + x.2) x.1) cur)).toList = cur.toList.take (off + i) ++ vs ++ cur.toList.drop (off + i + vs.length) := by
  induction vs generalizing i cur with
  | nil => simp
  | cons v r ih =>
    rw [List.zipIdx_cons, List.foldl_cons, ih _ _ (by simp at h ⊢; omega)]
    have hlt : off + i < cur.toList.length := by simp at h ⊢; omega
    simp only [Array.toList_setIfInBounds, List.length_cons]
    rw [List.drop_set_of_lt (by omega), show off + (i + 1) = off + i + 1 from by omega, List.take_set, List.take_succ_eq_append_getElem hlt, List.set_append_right _ _ (by simp; omega)]
    simp only [List.length_take, Nat.min_eq_left (Nat.le_of_lt hlt), Nat.sub_self, List.set_cons_zero, List.append_assoc, List.cons_append, List.nil_append]
    rw [show off + i + 1 + r.length = off + i + (r.length + 1) from by omega]

theorem fill_nil (place : Nat → Option (Nat × Nat)) (cells : Array Value) : Instr.fill place cells [] = some cells := rfl
theorem fill_cons (place : Nat → Option (Nat × Nat)) (cells : Array Value) (i : Nat) (v : Value) (r : List (Nat × Value)) (off : Nat) (vs : List Value) (hp : place i = some (off, vs.length)) (hv : v.cells = vs.toArray) (hl : off + vs.length ≤ cells.size) :
    Instr.fill place cells ((i, v) :: r) = Instr.fill place (cells.toList.take off ++ vs ++ cells.toList.drop (off + vs.length)).toArray r := by
  have h1 : v.cells.size = vs.length := by rw [hv]; simp
  have key : (v.cells.zipIdx.foldl (fun cs x => cs.setIfInBounds (off + x.2) x.1) cells) = (cells.toList.take off ++ vs ++ cells.toList.drop (off + vs.length)).toArray := by
    rw [hv]
    apply Array.ext'
    have := fold_set vs off cells 0 (by simpa using hl)
    simp only [Nat.add_zero] at this
    rw [← Array.foldl_toList]
    simpa using this
  simp only [Instr.fill, hp, h1]
  rw [if_neg (by simp; omega), key]

end Go.Proofs.Ytgdefibkemkejaa

/- Results that lie in blocks of their own: whole rows. -/
namespace Go.Proofs.Ytgdefibkemkejaa
open Go.ChangeShapes Go.WideShapes Go.ChangeAt Go.RowKit
set_option linter.unusedVariables false
set_option maxRecDepth 20000

section
variable {P : Program}
/-- a row that a result's block holds -/
structure RowRes (P : Program) (w : World) (ty : TypeId) (v : Value) (cs : List Value) : Prop where
  ptr : ∃ g t, v = .pointer (some ⟨g, 0, none⟩) ∧ Blk w g t cs
  agg : ∃ d, P.underlying ty = some d ∧ d.isRow = true
  size : (P.info? ty).map (·.size) = some cs.length
theorem RowRes.run {w : World} {ty : TypeId} {v : Value} {cs : List Value} (h : RowRes P w ty v cs) : ∃ a, v = .pointer (some a) ∧ (loadVar ty a).run P w = .ok (.agg cs.toArray) w := by
  obtain ⟨g, t, rfl, hb⟩ := h.ptr
  obtain ⟨d, hd, hr⟩ := h.agg
  exact ⟨_, rfl, run_loadVar_mid w g 0 ty cs d (hb.range fun j v hv => by simpa using hv) hd hr h.size⟩
theorem results_row {fn : Func} {p : Tmp} {ty : TypeId} (h : fn.results = #[.cell p ty]) {tmps : Array Value} {w : World} {cs : List Value} (hr : RowRes P w ty (tmps.getD p undef) cs) :
    (results fn tmps).run P w = .ok (.agg cs.toArray) w := by
  obtain ⟨a, ha, hl⟩ := hr.run
  have ha' : tmps[p]?.getD undef = .pointer (some a) := by simpa using ha
  simp [results, h, ha', asAddr, hl]
theorem results_row_tmp {fn : Func} {p q : Tmp} {ty : TypeId} (h : fn.results = #[.cell p ty, .tmp q]) {tmps : Array Value} {w : World} {cs : List Value} (hr : RowRes P w ty (tmps.getD p undef) cs) :
    (results fn tmps).run P w = .ok (.tuple #[.agg cs.toArray, tmps.getD q undef]) w := by
  obtain ⟨a, ha, hl⟩ := hr.run
  have ha' : tmps[p]?.getD undef = .pointer (some a) := by simpa using ha
  simp [results, h, ha', asAddr, hl]
theorem results_row_row_tmp {fn : Func} {p q r : Tmp} {ty ty' : TypeId} (h : fn.results = #[.cell p ty, .cell q ty', .tmp r]) {tmps : Array Value} {w : World} {cs cs' : List Value} (hr : RowRes P w ty (tmps.getD p undef) cs) (hr' : RowRes P w ty' (tmps.getD q undef) cs') :
    (results fn tmps).run P w = .ok (.tuple #[.agg cs.toArray, .agg cs'.toArray, tmps.getD r undef]) w := by
  obtain ⟨a, ha, hl⟩ := hr.run
  obtain ⟨a', hb, hl'⟩ := hr'.run
  have ha' : tmps[p]?.getD undef = .pointer (some a) := by simpa using ha
  have hb' : tmps[q]?.getD undef = .pointer (some a') := by simpa using hb
  simp [results, h, ha', hb', asAddr, hl, hl']
end
end Go.Proofs.Ytgdefibkemkejaa

/- A region that draws its order, walked operation by operation: what only reads is taken first, under facts that are owed as long as that operation may still come up; what writes comes up alone, and keeps the facts of those that may come behind it. What holds for every program. -/
namespace Go.Proofs.Ytgdefibkemkejaa
open Go.ChangeShapes Go.WideShapes Go.ChangeAt Go.RowKit
set_option linter.unusedVariables false
set_option maxRecDepth 20000

/-- does operation j wait for i, at once or by others? -/
def reach (md : Region.Mode) (ops : Array Oper) : Nat → Nat → Nat → Bool
  | 0, _, _ => false
  | f + 1, j, i => match ops[j]? with
    | some oj => oj.after.any fun e => Region.binds md e && (e.on == i || reach md ops f e.on i)
    | none => false

/-- what is listed has all that it waits for listed -/
def Closed (md : Region.Mode) (ops : Array Oper) (l : Array Bool) : Prop := ∀ j oj, ops[j]? = some oj → l.getD j false = true → ∀ e ∈ oj.after, Region.binds md e = true → l.getD e.on false = true

theorem Closed.reach {md : Region.Mode} {ops : Array Oper} {l : Array Bool} (h : Closed md ops l) : ∀ (f j i : Nat), l.getD j false = true → reach md ops f j i = true → l.getD i false = true
  | 0, _, _, _, hr => by cases hr
  | f + 1, j, i, hj, hr => by
    unfold Go.Proofs.Ytgdefibkemkejaa.reach at hr
    split at hr
    · rename_i oj hoj
      obtain ⟨e, he, hb⟩ := Array.any_eq_true'.1 hr
      simp only [Bool.and_eq_true, Bool.or_eq_true, beq_iff_eq] at hb
      have h1 := h j oj hoj hj e he hb.1
      rcases hb.2 with rfl | h2
      · exact h1
      · exact h.reach f _ i h1 h2
    · cases hr
theorem Closed.ready {md : Region.Mode} {ops : Array Oper} {l : Array Bool} (h : Closed md ops l) (f : Nat) {j i : Nat} (hj : j ∈ Region.ready md ops l) (hi : l.getD i true = false) : Go.Proofs.Ytgdefibkemkejaa.reach md ops f j i = false := by
  cases hr : Go.Proofs.Ytgdefibkemkejaa.reach md ops f j i
  · rfl
  · exfalso
    have hif : l.getD i false = true := by
      obtain ⟨_, oj, hoj, hall⟩ := mem_ready.1 hj
      cases f with
      | zero => cases hr
      | succ f =>
        unfold Go.Proofs.Ytgdefibkemkejaa.reach at hr
        simp only [hoj] at hr
        obtain ⟨e, he, hb⟩ := Array.any_eq_true'.1 hr
        simp only [Bool.and_eq_true, Bool.or_eq_true, beq_iff_eq] at hb
        have h1 := hall e he hb.1
        rcases hb.2 with rfl | h2
        · exact h1
        · exact h.reach f _ i h1 h2
    by_cases hlt : i < l.size
    · simp [hlt] at hif hi
      rw [hi] at hif
      cases hif
    · simp [Array.getElem?_eq_none (Nat.le_of_not_lt hlt)] at hi
theorem Closed.set {md : Region.Mode} {ops : Array Oper} {l : Array Bool} (h : Closed md ops l) {i : Nat} (hi : i ∈ Region.ready md ops l) : Closed md ops (l.setIfInBounds i true) := by
  intro j oj hoj hl e he hb
  by_cases e1 : i = j
  · subst e1
    obtain ⟨_, oi, hoi, hall⟩ := mem_ready.1 hi
    obtain rfl : oj = oi := Option.some.inj (hoj.symm.trans hoi)
    exact getD_set_true (hall e he hb)
  · rw [getD_set_ne false e1] at hl
    exact getD_set_true (h j oj hoj hl e he hb)
theorem getD_none_listed (m j : Nat) : (Array.replicate m false).getD j false = false := by
  rcases Nat.lt_or_ge j m with h | h
  · simp [h]
  · simp [h]
theorem Closed.start (md : Region.Mode) (ops : Array Oper) (n : Nat) : Closed md ops (Array.replicate n false) := fun j oj _ hl => by
  rw [getD_none_listed] at hl
  cases hl
theorem getD_self_listed (l : Array Bool) (i : Nat) : (l.setIfInBounds i true).getD i true = true := by
  by_cases hb : i < l.size
  · simp [Array.getD, hb]
  · simp [Array.getD, hb]

/-- each fact holds as long as its operation has not come up -/
def Owed (fs : List (Nat × (World → Prop))) (l : Array Bool) (w : World) : Prop := ∀ x, x ∈ fs → l.getD x.1 true = false → x.2 w
theorem Owed.nil (l : Array Bool) (w : World) : Owed [] l w := fun x hx => by cases hx
theorem Owed.cons {fs : List (Nat × (World → Prop))} {l : Array Bool} {w : World} {x : Nat × (World → Prop)} (h : x.2 w) (k : Owed fs l w) : Owed (x :: fs) l w := fun y hy hl => by
  rcases List.mem_cons.1 hy with rfl | hy
  · exact h
  · exact k y hy hl
theorem Owed.set {fs : List (Nat × (World → Prop))} {l : Array Bool} {w : World} (h : Owed fs l w) (i : Nat) : Owed fs (l.setIfInBounds i true) w := fun x hx hl => by
  refine h x hx ?_
  by_cases e : i = x.1
  · rw [e, getD_self_listed] at hl; cases hl
  · rwa [getD_set_ne true e] at hl

section
variable {P : Program} {ops : Array Oper} {Q : Exit → Act → World → Prop} {md : Region.Mode} {fs : List (Nat × (World → Prop))}

/-- behind operation j the facts hold that held, but those of what j waits for -/
def Keeps (md : Region.Mode) (ops : Array Oper) (fs : List (Nat × (World → Prop))) (j : Nat) (w w' : World) : Prop := ∀ x, x ∈ fs → reach md ops ops.size j x.1 = false → x.2 w → x.2 w'
theorem Keeps.nil (j : Nat) (w w' : World) : Keeps md ops [] j w w' := fun x hx => by cases hx
theorem Keeps.late {j : Nat} {w w' : World} {x : Nat × (World → Prop)} (h : reach md ops ops.size j x.1 = true) (k : Keeps md ops fs j w w') : Keeps md ops (x :: fs) j w w' := fun y hy hr hw => by
  rcases List.mem_cons.1 hy with rfl | hy
  · rw [h] at hr; cases hr
  · exact k y hy hr hw
theorem Keeps.cons {j : Nat} {w w' : World} {x : Nat × (World → Prop)} (h : x.2 w → x.2 w') (k : Keeps md ops fs j w w') : Keeps md ops (x :: fs) j w w' := fun y hy hr hw => by
  rcases List.mem_cons.1 hy with rfl | hy
  · exact h hw
  · exact k y hy hr hw
theorem Owed.keeps {l : Array Bool} {j : Nat} {w w' : World} (h : Owed fs l w) (hc : Closed md ops l) (hj : j ∈ Region.ready md ops l) (k : Keeps md ops fs j w w') : Owed fs (l.setIfInBounds j true) w' := fun x hx hl => by
  have hl' : l.getD x.1 true = false := by
    by_cases e : j = x.1
    · rw [e, getD_self_listed] at hl; cases hl
    · rwa [getD_set_ne true e] at hl
  exact k x hx (hc.ready _ hj hl') (h x hx hl')

def wpO (P : Program) (md : Region.Mode) (ops : Array Oper) (Q : Exit → Act → World → Prop) (fs : List (Nat × (World → Prop))) : Nat → Array Bool → Act → World → Prop
  | 0, l, a, w => Region.ready md ops l = [] ∧ Q .normal a w
  | n + 1, l, a, w => (Region.ready md ops l = [] → Q .normal a w) ∧
      ∀ i ∈ Region.ready md ops l, wpOp P ops Q i (fun a' w' => Keeps md ops fs i w w' ∧ wpO P md ops Q fs n (l.setIfInBounds i true) a' w') a w

theorem wpAny_of_wpO : ∀ (n : Nat) (l : Array Bool) (a : Act) (w : World), wpO P md ops Q fs n l a w → wpAny P md ops Q n l a w
  | 0, _, _, _, h => h
  | n + 1, _, _, _, h => ⟨h.1, fun i hi => wpOp_mono (fun a' w' h' => wpAny_of_wpO n _ a' w' h'.2) (h.2 i hi)⟩

/-- where a walk of a region stands -/
structure InO (P : Program) (md : Region.Mode) (ops : Array Oper) (Q : Exit → Act → World → Prop) (fs : List (Nat × (World → Prop))) (n : Nat) (l : Array Bool) (a : Act) (w : World) : Prop where
  run : Closed md ops l → Owed fs l w → wpO P md ops Q fs n l a w

theorem inO_region {id : Nat} {a : Act} {w : World} (fs : List (Nat × (World → Prop))) (hm : P.follows .mixedOrders = true) (h0 : Owed fs (Array.replicate ops.size false) w.drew)
    (h : InO P .any ops Q fs ops.size (Array.replicate ops.size false) a w.drew) : (Code.region id ops true).wp P Q a w :=
  wp_region_any hm (wpAny_of_wpO _ _ _ _ (h.run (Closed.start _ _ _) h0))

theorem wpO_first {i : Nat} {oi : Oper} {v : Value} (hi : ops[i]? = some oi) (hsel : ∀ (j : Nat) (o : Oper) cs b, ops[j]? = some o → o.op ≠ .select cs b)
    (hQ : ∀ c a w, Q (.panic c) (a.put oi.dst v) w → Q (.panic c) a w) : ∀ (n : Nat) (l : Array Bool) (a : Act) (w : World),
      (∀ j oj, ops[j]? = some oj → j ≠ i → l.getD j true = false → (∀ e ∈ oj.after, Region.binds md e = true → e.on ≠ i) → oi.apart ops oj = true) →
      i ∈ Region.ready md ops l → YieldsIf P ops (fun w => ∃ l' : Array Bool, l'.getD i true = false ∧ Owed fs l' w) oi v a → Closed md ops l → Owed fs l w →
      wpO P md ops Q fs n (l.setIfInBounds i true) (a.put oi.dst v) w → wpO P md ops Q fs (n + 1) l a w := by
  intro n
  induction n with
  | zero =>
    intro l a w _ hr hy hc hS H
    refine ⟨fun h => (by rw [h] at hr; cases hr), fun j hj => ?_⟩
    by_cases e : j = i
    · subst e
      exact hy.wpOp hi ⟨l, (mem_ready.1 hr).1, hS⟩ ⟨fun _ _ _ h => h, H⟩
    · have hj' := ready_mono hj e
      rw [H.1] at hj'
      cases hj'
  | succ n ih =>
    intro l a w hfree hr hy hc hS H
    refine ⟨fun h => (by rw [h] at hr; cases hr), fun j hj => ?_⟩
    by_cases e : j = i
    · subst e
      exact hy.wpOp hi ⟨l, (mem_ready.1 hr).1, hS⟩ ⟨fun _ _ _ h => h, H⟩
    · have g1 := H.2 j (ready_mono hj e)
      obtain ⟨hjl, oj, hoj, hall⟩ := mem_ready.1 hj
      have hil := (mem_ready.1 hr).1
      have hno : ∀ e ∈ oj.after, Region.binds md e = true → e.on ≠ i := fun e he hb heq => by
        have q := hall e he hb
        rw [heq] at q
        by_cases hlt : i < l.size
        · simp [hlt] at q hil
          rw [hil] at q
          cases q
        · simp [Array.getElem?_eq_none (Nat.le_of_not_lt hlt)] at q
      have g2 := wpOp_putIf hoj (hfree j oj hoj e hjl hno) (fun cs b => hsel i oi cs b hi) (fun cs b => hsel j oj cs b hoj) hQ hy g1
      refine wpOp_mono (fun a' w' g3 => ⟨g3.2.1, ih (l.setIfInBounds j true) a' w' ?_ (ready_mono hr (Ne.symm e)) g3.1 (hc.set hj) (hS.keeps hc hj g3.2.1) ?_⟩) g2
      · intro k ok hk hki hun hnk
        refine hfree k ok hk hki ?_ hnk
        by_cases hjk : j = k
        · subst hjk; exact hjl
        · rwa [getD_set_ne true hjk] at hun
      · rw [Array.setIfInBounds_comm _ _ e]
        exact g3.2.2

/-- an operation that only reads is taken first -/
theorem inO_take (i : Nat) (oi : Oper) (v : Value) {n : Nat} {l : Array Bool} {a : Act} {w : World} (hi : ops[i]? = some oi)
    (hs : Region.noSelect ops = true) (hf : Region.free md ops l i = true) (hr : (Region.ready md ops l).contains i = true) (hQ : ∀ c a w, Q (.panic c) (a.put oi.dst v) w → Q (.panic c) a w)
    (hw : Region.wanted oi (yielded ops a.tmps) = true) (hy : ∀ w, (execOp a.eval oi).run P w = .ok (.value v) w) (h : InO P md ops Q fs n (l.setIfInBounds i true) (a.put oi.dst v) w) : InO P md ops Q fs (n + 1) l a w :=
  ⟨fun hc hS => wpO_first hi (Region.noSelect_spec hs) hQ n l a w (Region.free_spec hi hf) (by simpa using hr) (.inl ⟨hw, fun w _ => hy w⟩) hc hS (h.run (hc.set (by simpa using hr)) (hS.set i))⟩

/-- one whose guard is false -/
theorem inO_pass (i : Nat) (oi : Oper) {n : Nat} {l : Array Bool} {a : Act} {w : World} (hi : ops[i]? = some oi)
    (hs : Region.noSelect ops = true) (hf : Region.free md ops l i = true) (hr : (Region.ready md ops l).contains i = true) (hQ : ∀ c a w, Q (.panic c) (a.put oi.dst undef) w → Q (.panic c) a w)
    (hw : Region.wanted oi (yielded ops a.tmps) = false) (h : InO P md ops Q fs n (l.setIfInBounds i true) (a.put oi.dst undef) w) : InO P md ops Q fs (n + 1) l a w :=
  ⟨fun hc hS => wpO_first hi (Region.noSelect_spec hs) hQ n l a w (Region.free_spec hi hf) (by simpa using hr) (.inr ⟨hw, rfl⟩) hc hS (h.run (hc.set (by simpa using hr)) (hS.set i))⟩

/-- one that reads what a fact tells -/
theorem inO_load (i : Nat) (oi : Oper) (v : Value) (φ : World → Prop) {n : Nat} {l : Array Bool} {a : Act} {w : World} (hi : ops[i]? = some oi)
    (hs : Region.noSelect ops = true) (hf : Region.free md ops l i = true) (hr : (Region.ready md ops l).contains i = true) (hQ : ∀ c a w, Q (.panic c) (a.put oi.dst v) w → Q (.panic c) a w)
    (hw : Region.wanted oi (yielded ops a.tmps) = true) (hφ : (i, φ) ∈ fs) (hy : ∀ w, φ w → (execOp a.eval oi).run P w = .ok (.value v) w) (h : InO P md ops Q fs n (l.setIfInBounds i true) (a.put oi.dst v) w) : InO P md ops Q fs (n + 1) l a w :=
  ⟨fun hc hS => wpO_first hi (Region.noSelect_spec hs) hQ n l a w (Region.free_spec hi hf) (by simpa using hr) (.inl ⟨hw, fun w ⟨l', hl', hO⟩ => hy w (hO _ hφ hl')⟩) hc hS (h.run (hc.set (by simpa using hr)) (hS.set i))⟩

/-- one that comes up alone, whatever it does -/
theorem inO_step (i : Nat) (oi : Oper) {n : Nat} {l : Array Bool} {a : Act} {w : World} (hi : ops[i]? = some oi) (hr : Region.ready md ops l = [i]) (hw : Region.wanted oi (yielded ops a.tmps) = true)
    (h : ∀ K : Act → World → Prop, (∀ a' w', Keeps md ops fs i w w' → InO P md ops Q fs n (l.setIfInBounds i true) a' w' → K a' w') → oi.wp P a w K Q) : InO P md ops Q fs (n + 1) l a w :=
  ⟨fun hc hS => ⟨fun h0 => (by rw [hr] at h0; cases h0), fun j hj => by
    obtain rfl : j = i := by rw [hr] at hj; simpa using hj
    unfold wpOp
    simp only [hi, hw, if_true]
    refine .inl (h _ fun a' w' hk hrun => ⟨hk, hrun.run (hc.set hj) (hS.keeps hc hj hk)⟩)⟩⟩

/-- all have come up -/
theorem inO_done {n : Nat} {l : Array Bool} {a : Act} {w : World} (hr : Region.ready md ops l = []) (h : Q .normal a w) : InO P md ops Q fs n l a w :=
  ⟨fun _ _ => match n with
    | 0 => ⟨hr, h⟩
    | n + 1 => ⟨fun _ => h, fun j hj => (by rw [hr] at hj; cases hj)⟩⟩
end
end Go.Proofs.Ytgdefibkemkejaa

/- What single operations do, for regions that are walked operation by operation. What holds for every program. -/
namespace Go.Proofs.Ytgdefibkemkejaa
open Go.ChangeShapes Go.WideShapes Go.ChangeAt Go.RowKit
set_option linter.unusedVariables false
set_option maxRecDepth 20000

section
variable {P : Program} {op : Oper} {a : Act} {w : World} {K : Act → World → Prop} {Q : Exit → Act → World → Prop}

theorem exec_move {x : Operand} {v : Value} (ho : op.op = .move x) (hx : a.eval x = v) (w : World) : (execOp a.eval op).run P w = .ok (.value v) w := by
  unfold execOp; simp only [ho, hx, Sem.run_pure]
theorem exec_nilCheck {x : Operand} {p : Addr} (ho : op.op = .nilCheck x) (hx : a.eval x = .pointer (some p)) (w : World) : (execOp a.eval op).run P w = .ok (.value (.pointer (some p))) w := by
  unfold execOp; simp only [ho, hx, Sem.run_pure]
theorem exec_load_mid (ty : TypeId) (x : Operand) (ho : op.op = .load ty x) (b o : Nat) (hx : a.eval x = .pointer (some ⟨b, o, none⟩)) (cs : List Value) (d : TypeDesc) (hc : w.rangeAt b o cs)
    (hu : P.underlying ty = some d) (hd : d.isRow = true) (hi : (P.info? ty).map (·.size) = some cs.length) : (execOp a.eval op).run P w = .ok (.value (.agg cs.toArray)) w := by
  unfold execOp
  simp only [ho, hx, Instr.loadAt, Instr.sureAddr, Sem.run_bind, Sem.run_pure, Result.andThen_ok, run_loadVar_mid w b o ty cs d hc hu hd hi]
theorem exec_build (t : TypeId) (ps : List (Nat × Operand)) (ho : op.op = .build t ps.toArray) (cells : List Value) (vs : List (Nat × Value)) (hv : (ps.map fun x => (x.1, a.eval x.2)) = vs) (hp : P.built t vs = some cells.toArray) (w : World) :
    (execOp a.eval op).run P w = .ok (.value (.agg cells.toArray)) w := by
  have hp' : P.built t (ps.toArray.map fun (i, x) => (i, a.eval x)).toList = some cells.toArray := by
    rw [← hp, ← hv]
    simp
  unfold execOp
  simp only [ho, Sem.run_bind, run_build w t _ _ hp', Result.andThen_ok, Sem.run_pure]

/-- a slice literal of one element -/
theorem wp_buildOne (t e : TypeId) (x : Operand) (ho : op.op = .buildSlice t 1 #[(0, x)]) (cells : List Value) (hx : a.eval x = .agg cells.toArray)
    (hu : P.underlying t = some (.slice e)) (hsz : (P.info? e).map (·.size) = some cells.length) (hz : ((P.info? e).bind (·.zero)).map (·.cells.size) = some cells.length) (hpos : 0 < cells.length) (hsmall : cells.length ≤ 2 ^ 24)
    (h : K (a.put op.dst (.slice (some ⟨w.heap.size, 0, none⟩) 1 1)) (w.alloc (.cells cells.toArray e))) : op.wp P a w K Q := by
  cases hie : P.info? e with
  | none => simp [hie] at hsz
  | some ie =>
    simp only [hie, Option.map_some, Option.some.injEq, Option.bind_some] at hsz hz
    cases hzz : ie.zero with
    | none => simp [hzz] at hz
    | some z =>
      simp only [hzz, Option.map_some, Option.some.injEq] at hz
      refine wp_buildSlice t e 1 #[(0, x)] ho cells.toArray ie z hu hie hzz (by rw [hsz]; omega) (by rw [hsz]; omega) ?_ h
      simp only [Array.toList_map, List.map_cons, List.map_nil, hx]
      rw [fill_cons _ _ 0 _ [] 0 cells (by simp [hsz]) rfl (by simp [hsz]), fill_nil]
      have hd : ∀ (A : Array Value), A.size = cells.length → A.toList.drop cells.length = [] := fun A hA => List.drop_of_length_le (by simp [hA])
      simp [hd, hsz]

/-- an append of one element that stands in block g -/
theorem wp_push (s x : Operand) (t : TypeId) (ho : op.op = .call { callee := .builtin .append, args := #[s, x], argTypes := #[t, t] })
    (base : Nat) (e : TypeId) (i : TypeInfo) (z : Value) (size bytes : Nat) (ht : P.underlying t = some (.slice e)) (hi : P.info? e = some i) (hz : i.zero = some z)
    (hsize : i.size = size) (hby : i.bytes = bytes) (hzs : z.cells.size = size) (hsz : 0 < size)
    (v : Value) (n : Nat) (xs : List Value) (hs : a.eval s = v) (hown : w.ownsRow base e size v n xs)
    (g c : Nat) (news : List Value) (hx : a.eval x = .slice (some ⟨g, 0, none⟩) 1 c) (hb : Blk w g e news) (hl : news.length = size) (h1 : ∀ u ∈ news, u.oneCell' = true)
    (h63 : n + 1 ≤ maxLen) (hbytes : (n + 1) * bytes ≤ 140737488355328) (hbase : base ≤ w.heap.size)
    (h : ∀ v' w', w'.ownsRow base e size v' (n + 1) (xs ++ news) → w.grownBy w' v.ownBlock → (v'.ownBlock = v.ownBlock ∨ v'.ownBlock = some w.heap.size) → K (a.put op.dst v') w') : op.wp P a w K Q := by
  obtain ⟨v', w', hrun, h2, h3, _, h5⟩ := run_append_own_at (P := P) w base t op.type e i z size bytes ht hi hz hsize hby hzs hsz v n xs hown ⟨g, 0, none⟩ 1 c news (by omega) (fun j u hu => by rw [Addr.add_mid, hb.cell]; simpa using hu) h1 h63 hbytes hbase
  unfold Oper.wp execOp
  simp only [ho, resolve, invoke, builtin, Sem.run_bind, Sem.run_pure, Result.andThen_ok, List.map_toArray, List.map_cons, List.map_nil, hs, hx, hrun]
  exact h v' w' h2 h3 h5

/-- a store of one cell -/
theorem wp_store_cell (ty : TypeId) (x y : Operand) (ho : op.op = .store ty x y) (p : Addr) (hx : a.eval x = .pointer (some p)) (v u : Value) (hy : a.eval y = v) (h1 : v.oneCell' = true)
    (hi : (P.info? ty).map (·.size) = some 1) (hc : w.cell? p = some u) (hf : w.frozen? p = false) (h : K (a.put op.dst undef) (w.setCell p v)) : op.wp P a w K Q := by
  have hcs : v.cells = #[v] := by cases v <;> first | rfl | cases h1
  cases hq : P.info? ty with
  | none => simp [hq] at hi
  | some i =>
    have hsz : i.size = 1 := by simpa [hq] using hi
    have hst : (store p v).run P w = .ok () (w.setCell p v) := by
      rw [run_store P w p v .plain h1]
      simp [hc, hf]
    have hrun : (storeVar ty p v).run P w = .ok () (w.setCell p v) := by
      have h0 : p.add 0 = p := by simp [Addr.add]
      simp [storeVar, sizeOf, typeInfo, hq, hcs, hsz, storeCells, h0, hst]
    unfold Oper.wp execOp
    simp only [ho, hx, hy, Instr.storeAt, Instr.sureAddr, Sem.run_bind, Sem.run_pure, Result.andThen_ok, hrun]
    exact h
end
end Go.Proofs.Ytgdefibkemkejaa

/- A call of a Go function among the operations of a drawn region. What holds for every program. -/
namespace Go.Proofs.Ytgdefibkemkejaa
open Go.ChangeShapes Go.WideShapes Go.ChangeAt Go.RowKit
set_option linter.unusedVariables false
set_option maxRecDepth 20000

theorem wp_call {P : Program} {op : Oper} {a : Act} {w : World} {K : Act → World → Prop} {Q : Exit → Act → World → Prop} {f : FuncId} {fn : Func} {c : Code} (hf : P.funcs[f]? = some fn) (hname : (fn.name == "runtime.NumGoroutine") = false) (hb : fn.body = some c)
    (xs : List Operand) (ats : Array TypeId) (ho : op.op = .call { callee := .value (.func f), args := xs.toArray, argTypes := ats }) (vs : List Value) (hv : xs.map a.eval = vs) (R : Ending → World → Prop) (hc : Calls P f vs.toArray w R)
    (h : ∀ e w', R e w' → ∃ v, e = .returned v ∧ K (a.put op.dst v) w') : op.wp P a w K Q := by
  have h1 : fn.name ≠ "runtime.NumGoroutine" := by simpa using hname
  have hrun : (callFunc f vs.toArray).run P w = .ok (.enter f vs.toArray) w := by simp [callFunc, hf, h1, hb]
  have hx : (#[] ++ xs.toArray.map a.eval ++ #[] : Array Value) = vs.toArray := by rw [← hv]; simp
  obtain ⟨dst, o, ty, pos, after, guard⟩ := op
  dsimp only at ho
  subst ho
  unfold Oper.wp
  rw [execOp_call_go, hx, hrun, Oper.upon_enter]
  refine hc.mono fun e w' hR => ?_
  obtain ⟨v, rfl, hK⟩ := h e w' hR
  exact hK
end Go.Proofs.Ytgdefibkemkejaa

/- The sum CRC-32C in plain numbers: one bit out, a byte in, bytes; it is linear, tells unlike bytes apart, and doesn't come back within 3000 zeros. -/
namespace Go.Proofs.Ytgdefibkemkejaa
set_option linter.unusedVariables false
set_option maxRecDepth 20000

/-- a bit taken out of the sum -/
def crcBit (s : Nat) : Nat := if s % 2 = 1 then s / 2 ^^^ 2197175160 else s / 2
def crcBits : Nat → Nat → Nat
  | 0, s => s
  | k + 1, s => crcBits k (crcBit s)
/-- a byte taken into the sum -/
def crcByte (s b : Nat) : Nat := crcBits 8 (s ^^^ b)
def crcRun (s : Nat) (bs : List UInt8) : Nat := bs.foldl (fun s b => crcByte s b.toNat) s
theorem crcRun_nil (s : Nat) : crcRun s [] = s := List.foldl_nil
theorem crcRun_cons (s : Nat) (b : UInt8) (r : List UInt8) : crcRun s (b :: r) = crcRun (crcByte s b.toNat) r := List.foldl_cons ..
def crcNot (s : Nat) : Nat := 4294967295 - s
/-- the sum with more bytes -/
def crcMore (s : Nat) (bs : List UInt8) : Nat := crcNot (crcRun (crcNot s) bs)

theorem crcBits_snoc (k s : Nat) : crcBits (k + 1) s = crcBit (crcBits k s) := by
  induction k generalizing s with
  | zero => rfl
  | succ k ih => rw [crcBits, ih]; rfl
theorem crcRun_append (s : Nat) (a b : List UInt8) : crcRun s (a ++ b) = crcRun (crcRun s a) b := by
  induction a generalizing s with
  | nil => rfl
  | cons x a ih => exact ih _
theorem crcRun_snoc (s : Nat) (a : List UInt8) (b : UInt8) : crcRun s (a ++ [b]) = crcByte (crcRun s a) b.toNat := crcRun_append s a [b]

theorem half_lt {s : Nat} (h : s < 4294967296) : s / 2 < 2 ^ 31 := by omega
theorem crcBit_lt {s : Nat} (h : s < 4294967296) : crcBit s < 4294967296 := by
  unfold crcBit
  split
  · exact Nat.xor_lt_two_pow (n := 32) (Nat.lt_of_lt_of_le (half_lt h) (by decide)) (by decide)
  · omega
theorem crcBits_lt {k s : Nat} (h : s < 4294967296) : crcBits k s < 4294967296 := by
  induction k generalizing s with
  | zero => exact h
  | succ k ih => exact ih (crcBit_lt h)
theorem xor_lt_32 {a b : Nat} (ha : a < 4294967296) (hb : b < 4294967296) : a ^^^ b < 4294967296 := Nat.xor_lt_two_pow (n := 32) ha hb
theorem crcByte_lt {s b : Nat} (h : s < 4294967296) (hb : b < 256) : crcByte s b < 4294967296 := crcBits_lt (xor_lt_32 h (by omega))
theorem crcRun_lt {s : Nat} {bs : List UInt8} (h : s < 4294967296) : crcRun s bs < 4294967296 := by
  induction bs generalizing s with
  | nil => exact h
  | cons b r ih => exact ih (crcByte_lt h b.toNat_lt)
theorem crcNot_lt (s : Nat) : crcNot s < 4294967296 := by unfold crcNot; omega
theorem crcMore_lt (s : Nat) (bs : List UInt8) : crcMore s bs < 4294967296 := crcNot_lt _
theorem crcNot_not {s : Nat} (h : s < 4294967296) : crcNot (crcNot s) = s := by unfold crcNot; omega
theorem crcNot_inj {a b : Nat} (ha : a < 4294967296) (hb : b < 4294967296) (h : crcNot a = crcNot b) : a = b := by unfold crcNot at h; omega

theorem crcMore_append (s : Nat) (a b : List UInt8) (h : s < 4294967296) : crcMore (crcMore s a) b = crcMore s (a ++ b) := by
  unfold crcMore
  rw [crcNot_not (crcRun_lt (crcNot_lt s)), crcRun_append]

/- linear -/
theorem xor_half (a b : Nat) : (a ^^^ b) / 2 = a / 2 ^^^ b / 2 := Nat.xor_div_two
theorem xor_mod (a b : Nat) : (a ^^^ b) % 2 = (a % 2 + b % 2) % 2 := by
  have h : (a ^^^ b) % 2 = a % 2 ^^^ b % 2 := by simpa using Nat.xor_mod_two_pow (a := a) (b := b) (n := 1)
  rw [h]
  rcases Nat.mod_two_eq_zero_or_one a with ha | ha <;> rcases Nat.mod_two_eq_zero_or_one b with hb | hb <;> rw [ha, hb] <;> rfl

theorem crcBit_xor (a b : Nat) : crcBit (a ^^^ b) = crcBit a ^^^ crcBit b := by
  unfold crcBit
  rw [xor_mod, xor_half]
  rcases Nat.mod_two_eq_zero_or_one a with ha | ha <;> rcases Nat.mod_two_eq_zero_or_one b with hb | hb <;> simp only [ha, hb] <;> simp only [Nat.reduceAdd, Nat.reduceMod, Nat.zero_ne_one, if_true, if_false]
  · rw [Nat.xor_assoc]
  · rw [Nat.xor_assoc, Nat.xor_assoc, Nat.xor_comm (b / 2)]
  · rw [Nat.xor_assoc (a / 2), Nat.xor_comm 2197175160, Nat.xor_assoc (b / 2), Nat.xor_self, Nat.xor_zero]
theorem crcBits_xor (k a b : Nat) : crcBits k (a ^^^ b) = crcBits k a ^^^ crcBits k b := by
  induction k generalizing a b with
  | zero => rfl
  | succ k ih => simp only [crcBits, crcBit_xor, ih]
theorem xor_swap4 (a b c d : Nat) : (a ^^^ b) ^^^ (c ^^^ d) = (a ^^^ c) ^^^ (b ^^^ d) := by
  rw [Nat.xor_assoc, Nat.xor_assoc, ← Nat.xor_assoc b, ← Nat.xor_assoc c, Nat.xor_comm b c]
theorem crcByte_xor (s t a b : Nat) : crcByte (s ^^^ t) (a ^^^ b) = crcByte s a ^^^ crcByte t b := by
  unfold crcByte
  rw [← crcBits_xor, xor_swap4]

/- unlike bytes apart -/
theorem xor_eq_zero {a b : Nat} : a ^^^ b = 0 ↔ a = b := by
  constructor
  · intro h
    have := congrArg (· ^^^ b) h
    simpa [Nat.xor_assoc] using this
  · rintro rfl; exact Nat.xor_self _
theorem crcBit_zero {s : Nat} (h : s < 4294967296) (e : crcBit s = 0) : s = 0 := by
  unfold crcBit at e
  split at e
  · have := xor_eq_zero.1 e
    omega
  · omega
theorem crcBits_zero {k s : Nat} (h : s < 4294967296) (e : crcBits k s = 0) : s = 0 := by
  induction k generalizing s with
  | zero => exact e
  | succ k ih => exact crcBit_zero h (ih (crcBit_lt h) e)
theorem crcBits_inj {k s t : Nat} (hs : s < 4294967296) (ht : t < 4294967296) (e : crcBits k s = crcBits k t) : s = t :=
  xor_eq_zero.1 (crcBits_zero (xor_lt_32 hs ht) (by rw [crcBits_xor, e, Nat.xor_self]))
theorem crcByte_inj {s t a : Nat} (hs : s < 4294967296) (ht : t < 4294967296) (ha : a < 256) (e : crcByte s a = crcByte t a) : s = t := by
  have := crcBits_inj (xor_lt_32 hs (by omega)) (xor_lt_32 ht (by omega)) e
  have h2 := congrArg (· ^^^ a) this
  simpa [Nat.xor_assoc] using h2
theorem crcByte_inj' {s a b : Nat} (hs : s < 4294967296) (ha : a < 256) (hb : b < 256) (e : crcByte s a = crcByte s b) : a = b := by
  have := crcBits_inj (xor_lt_32 hs (by omega)) (xor_lt_32 hs (by omega)) e
  have h2 := congrArg (s ^^^ ·) this
  simpa [← Nat.xor_assoc] using h2
theorem crcRun_inj {s t : Nat} {bs : List UInt8} (hs : s < 4294967296) (ht : t < 4294967296) (e : crcRun s bs = crcRun t bs) : s = t := by
  induction bs generalizing s t with
  | nil => exact e
  | cons b r ih => exact crcByte_inj hs ht b.toNat_lt (ih (crcByte_lt hs b.toNat_lt) (crcByte_lt ht b.toNat_lt) e)
theorem crcRun_set {s : Nat} {bs : List UInt8} {k : Nat} {y : UInt8} (hs : s < 4294967296) (hk : k < bs.length) (e : crcRun s (bs.set k y) = crcRun s bs) : y = bs[k] := by
  induction bs generalizing s k with
  | nil => simp at hk
  | cons b r ih =>
    cases k with
    | zero => exact UInt8.toNat_inj.1 (crcByte_inj' hs y.toNat_lt b.toNat_lt (crcRun_inj (crcByte_lt hs y.toNat_lt) (crcByte_lt hs b.toNat_lt) e))
    | succ k => exact ih (crcByte_lt hs b.toNat_lt) (by simpa using hk) e
theorem crcMore_set {s : Nat} {bs : List UInt8} {k : Nat} {y : UInt8} (hk : k < bs.length) (hy : y ≠ bs[k]) : crcMore s (bs.set k y) ≠ crcMore s bs := by
  intro e
  exact hy (crcRun_set (crcNot_lt s) hk (crcNot_inj (crcRun_lt (crcNot_lt s)) (crcRun_lt (crcNot_lt s)) e))

/- three texts -/
def xor3 : List UInt8 → List UInt8 → List UInt8 → List UInt8
  | a :: ar, b :: bs, c :: cs => (a ^^^ b ^^^ c) :: xor3 ar bs cs
  | _, _, _ => []
theorem crcRun_xor3 {s t u : Nat} {a b c : List UInt8} (h1 : a.length = b.length) (h2 : b.length = c.length) : crcRun (s ^^^ t ^^^ u) (xor3 a b c) = crcRun s a ^^^ crcRun t b ^^^ crcRun u c := by
  induction a generalizing b c s t u with
  | nil =>
    obtain rfl : b = [] := List.eq_nil_of_length_eq_zero (by simpa using h1.symm)
    obtain rfl : c = [] := List.eq_nil_of_length_eq_zero (by simpa using h2.symm)
    simp only [xor3, crcRun_nil]
  | cons x a ih =>
    cases b with
    | nil => simp at h1
    | cons y b =>
      cases c with
      | nil => simp at h2
      | cons z c =>
        simp only [xor3, crcRun_cons, UInt8.toNat_xor]
        rw [crcByte_xor, crcByte_xor]
        exact ih (by simpa using h1) (by simpa using h2)
theorem crcNot_xor {s : Nat} (h : s < 4294967296) : crcNot s = s ^^^ 4294967295 := by
  have e : (BitVec.ofNat 32 s ^^^ BitVec.allOnes 32).toNat = (~~~ BitVec.ofNat 32 s).toNat := by rw [BitVec.xor_allOnes]
  simp only [BitVec.toNat_xor, BitVec.toNat_not, BitVec.toNat_allOnes, BitVec.toNat_ofNat, Nat.reducePow, Nat.reduceSub, Nat.mod_eq_of_lt h] at e
  unfold crcNot
  omega
theorem crcMore_xor3 {a b c : List UInt8} (h1 : a.length = b.length) (h2 : b.length = c.length) : crcMore 0 (xor3 a b c) = crcMore 0 a ^^^ crcMore 0 b ^^^ crcMore 0 c := by
  have l := crcNot_lt 0
  have e := crcRun_xor3 (s := crcNot 0) (t := crcNot 0) (u := crcNot 0) h1 h2
  rw [Nat.xor_self, Nat.zero_xor] at e
  unfold crcMore
  rw [e, crcNot_xor (crcRun_lt l), crcNot_xor (crcRun_lt l), crcNot_xor (crcRun_lt l), crcNot_xor (xor_lt_32 (xor_lt_32 (crcRun_lt l) (crcRun_lt l)) (crcRun_lt l))]
  generalize crcRun (crcNot 0) a = x
  generalize crcRun (crcNot 0) b = y
  generalize crcRun (crcNot 0) c = z
  rw [xor_swap4 x 4294967295 y, Nat.xor_self, Nat.xor_zero, Nat.xor_assoc (x ^^^ y)]

/- zeros -/
theorem crcRun_zeros (s n : Nat) : crcRun s (List.replicate n 0) = crcBits (8 * n) s := by
  induction n generalizing s with
  | zero => simp only [List.replicate_zero, crcRun_nil, crcBits]
  | succ n ih =>
    rw [List.replicate_succ, crcRun_cons, ih]
    unfold crcByte
    rw [show (0 : UInt8).toNat = 0 from rfl, Nat.xor_zero, Nat.mul_succ]
    have h : ∀ a b z, crcBits a (crcBits b z) = crcBits (b + a) z := by
      intro a b z
      induction b generalizing z with
      | zero => simp [crcBits]
      | succ b ihb => rw [crcBits, ihb, Nat.succ_add]; rfl
    rw [h, Nat.add_comm]
theorem crcBits_add (a b z : Nat) : crcBits (b + a) z = crcBits a (crcBits b z) := by
  induction b generalizing z with
  | zero => simp [crcBits]
  | succ b ihb => rw [Nat.succ_add]; exact ihb _
def orbitOk (x : Nat) : Nat → Nat → Bool
  | 0, _ => true
  | k + 1, s => !(Nat.beq (crcBits 8 s) x) && orbitOk x k (crcBits 8 s)
theorem orbit_ne {x k s j : Nat} (h : orbitOk x k s = true) (h1 : 1 ≤ j) (hj : j ≤ k) : crcBits (8 * j) s ≠ x := by
  induction k generalizing s j with
  | zero => omega
  | succ k ih =>
    simp only [orbitOk, Bool.and_eq_true, Bool.not_eq_true'] at h
    by_cases e : j = 1
    · subst e
      intro e
      rw [show 8 * 1 = 8 from rfl] at e
      rw [e] at h
      simp at h
    · have := ih h.2 (j := j - 1) (by omega) (by omega)
      rwa [← crcBits_add, show 8 + 8 * (j - 1) = 8 * j from by omega] at this
theorem orbit_all : orbitOk 4294967295 3000 4294967295 = true := by decide +kernel
theorem crcMore_zeros_lt {n m : Nat} (h : n < m) (hm : m ≤ 3000) : crcMore 0 (List.replicate n 0) ≠ crcMore 0 (List.replicate m 0) := by
  intro e
  have e := crcNot_inj (crcRun_lt (crcNot_lt 0)) (crcRun_lt (crcNot_lt 0)) e
  rw [crcRun_zeros, crcRun_zeros, show 8 * m = 8 * (m - n) + 8 * n from by omega, crcBits_add] at e
  have e2 := crcBits_inj (crcNot_lt 0) (crcBits_lt (crcNot_lt 0)) e
  exact orbit_ne orbit_all (show 1 ≤ m - n by omega) (by omega) e2.symm
theorem crcMore_zeros {n m : Nat} (hn : n ≤ 3000) (hm : m ≤ 3000) : (crcMore 0 (List.replicate n 0) = crcMore 0 (List.replicate m 0)) ↔ n = m := by
  constructor
  · intro e
    rcases Nat.lt_trichotomy n m with h | h | h
    · exact absurd e (crcMore_zeros_lt h hm)
    · exact h
    · exact absurd e.symm (crcMore_zeros_lt h hn)
  · rintro rfl; rfl

/- bit by bit, as the document has it -/
def crcRef : Nat → Nat → Nat → Nat
  | 0, _, n => n
  | k + 1, b, n => crcRef k (b / 2) (crcBit (n ^^^ b % 2))
theorem crcBit_two (m : Nat) : crcBit (2 * m) = m := by unfold crcBit; rw [if_neg (by omega)]; omega
theorem crcRef_bits {k b n : Nat} (h : b < 2 ^ k) : crcRef k b n = crcBits k (n ^^^ b) := by
  induction k generalizing b n with
  | zero => obtain rfl : b = 0 := by simpa using h
            simp [crcRef, crcBits]
  | succ k ih =>
    rw [crcRef, ih (by rw [Nat.pow_succ] at h; omega), crcBits]
    congr 1
    have e : b = b % 2 ^^^ 2 * (b / 2) := by
      apply Nat.eq_of_testBit_eq
      intro i
      rw [Nat.testBit_xor]
      cases i with
      | zero => simp [Nat.testBit_zero, Nat.mul_mod_right]
      | succ i => rw [Nat.testBit_succ, Nat.testBit_succ, Nat.testBit_succ]; simp
    calc crcBit (n ^^^ b % 2) ^^^ b / 2 = crcBit (n ^^^ b % 2) ^^^ crcBit (2 * (b / 2)) := by rw [crcBit_two]
      _ = crcBit (n ^^^ b) := by rw [← crcBit_xor, Nat.xor_assoc, ← e]
theorem crcRef_byte {b n : Nat} (h : b < 256) : crcRef 8 b n = crcByte n b := crcRef_bits h
theorem crcMore_123 : crcMore 0 [49, 50, 51, 52, 53, 54, 55, 56, 57] = 3808858755 := by decide +kernel
theorem crcMore_nil {s : Nat} (h : s < 4294967296) : crcMore s [] = s := crcNot_not h
end Go.Proofs.Ytgdefibkemkejaa

/- A store into a row of the call's own; a make of zeros at its full length; what holds for every program. -/
namespace Go.Proofs.Ytgdefibkemkejaa
open Go.ChangeShapes Go.WideShapes Go.ChangeAt Go.RowKit
set_option linter.unusedVariables false
set_option maxRecDepth 20000

section
variable {w w' : World} {base : Nat} {e : TypeId} {v : Value} {cs : List Value}
theorem Own.open (h : Own w base e v cs) (hne : 0 < cs.length) : ∃ g cap, v = .slice (some ⟨g, 0, none⟩) cs.length cap ∧ base ≤ g ∧ g < w.heap.size ∧ cs.length ≤ cap ∧ cap ≤ maxLen := by
  have hlt := World.ownsRow.lt h
  obtain ⟨hl, h | h⟩ := h
  · omega
  · obtain ⟨g, cap, cur, rfl, _, _, h1, h2, _⟩ := h
    exact ⟨g, cap, rfl, (hlt g rfl).1, (hlt g rfl).2, h1, h2⟩
variable {g n cap : Nat}
theorem Own.cell (h : Own w base e (.slice (some ⟨g, 0, none⟩) n cap) cs) {j : Nat} (hj : j < cs.length) : w.cell? ⟨g, j, none⟩ = some cs[j] := by
  obtain ⟨a, c, e1, _⟩ := h.shape
  injection e1 with _ e2 _
  subst e2
  rw [World.ownsRow.cellAt h j (by omega)]
  simp [hj]
theorem Own.frozen (h : Own w base e (.slice (some ⟨g, 0, none⟩) n cap) cs) (j : Nat) : w.frozen? ⟨g, j, none⟩ = false := by
  obtain ⟨a, c, e1, _⟩ := h.shape
  injection e1 with _ e2 _
  subst e2
  exact World.ownsRow.frozenAt h j
theorem Own.set (h : Own w base e (.slice (some ⟨g, 0, none⟩) n cap) cs) (j : Nat) (u : Value) : Own (w.setCell ⟨g, j, none⟩ u) base e (.slice (some ⟨g, 0, none⟩) n cap) (cs.set j u) := by
  obtain ⟨a, c, e1, _⟩ := h.shape
  injection e1 with _ e2 _
  subst e2
  unfold Own
  rw [List.length_set]
  exact (World.ownsRow.stored h j u).1
end

theorem bytesV_set (bs : List UInt8) (j : Nat) (y : UInt8) : (bytesV bs).set j (byteV y) = bytesV (bs.set j y) := by
  unfold bytesV; rw [List.map_set]

theorem bytesV_zeros (n : Nat) : (madeCells #[.int .u8 0] n).toList = bytesV (List.replicate n 0) := by
  rw [toList_madeCells_one]; unfold bytesV; rw [List.map_replicate]; rfl

/-- make([]byte, n) -/
theorem run_make_zeros {P : Program} (t e : TypeId) (i : TypeInfo) (ht : P.underlying t = some (.slice e)) (hi : P.info? e = some i) (hz : i.zero = some (.int .u8 0)) (hsize : i.size = 1) (hby : i.bytes = 1) (n : Nat) (hn : n ≤ 140737488355328) (w : World) :
    (Instr.makeSlice t (.int .i64 (n : Int)) (.int .i64 (n : Int))).run P w = .ok (.slice (some ⟨w.heap.size, 0, none⟩) n n) (w.alloc (.cells (madeCells #[.int .u8 0] n) e)) := by
  have := run_make (P := P) w t e i (.int .u8 0) ht hi hz .i64 .i64 n n (by omega) (Int.le_refl _) (by rw [hby]; omega) (by omega)
  simpa [hsize, Value.cells] using this
theorem Bytes.made (w : World) (e : TypeId) (n : Nat) : Bytes (w.alloc (.cells (madeCells #[.int .u8 0] n) e)) (some ⟨w.heap.size, 0, none⟩) (List.replicate n 0) := by
  unfold Bytes
  rw [← bytesV_zeros]
  intro i hi
  refine ⟨w.heap.size, 0, rfl, ?_⟩
  have hi' : i < (madeCells #[.int .u8 0] n).size := by simpa using hi
  rw [cell_of_row (w.alloc (.cells (madeCells #[.int .u8 0] n) e)) w.heap.size (0 + i) (madeCells #[.int .u8 0] n) e (0, 0) (heap_alloc_new w _)]
  simp only [Nat.zero_add, Array.getElem_toList]
  exact Array.getElem?_eq_getElem hi'
end Go.Proofs.Ytgdefibkemkejaa

/- '==' on arrays of bytes; what holds for every program. -/
namespace Go.Proofs.Ytgdefibkemkejaa
open Go.ChangeShapes Go.WideShapes Go.ChangeAt Go.RowKit
set_option linter.unusedVariables false
set_option maxRecDepth 20000

section
variable {P : Program}
theorem run_part_byte (w : World) (e : TypeId) (he : P.underlying e = some (.int .u8)) (xs : List UInt8) (i : Nat) (h : i < xs.length) : (part e (bytesV xs).toArray i).run P w = .ok (byteV xs[i]) w := by
  have hg : (bytesV xs).toArray[i]? = some (byteV xs[i]) := by
    simp [bytesV, h]
  simp [part, isAgg, run_underlying he, hg]

theorem run_eqLoop (w : World) (xs ys : List UInt8) (hl : xs.length = ys.length) (f : Nat → (Option Bool × Unit) → Sem (ForInStep (Option Bool × Unit)))
    (hf : ∀ i (h : i < xs.length) s, (f i s).run P w = .ok (if xs[i] = ys[i] then .yield (none, ()) else .done (some false, ())) w) : ∀ (k i : Nat), i + k = xs.length →
    (forIn (m := Sem) (List.range' i k) ((none, ()) : Option Bool × Unit) f).run P w = .ok (if xs.drop i = ys.drop i then (none, ()) else (some false, ())) w := by
  intro k
  induction k with
  | zero =>
    intro i hi
    rw [List.drop_of_length_le (by omega), List.drop_of_length_le (by omega)]
    simp
  | succ k ih =>
    intro i hi
    have hx : i < xs.length := by omega
    have hy : i < ys.length := by omega
    have ih' := ih (i + 1) (by omega)
    rw [List.range'_succ, List.forIn_cons, Sem.run_bind, hf i hx]
    rw [List.drop_eq_getElem_cons hx, List.drop_eq_getElem_cons hy]
    by_cases hb : xs[i] = ys[i]
    · rw [if_pos hb]
      simp only [Result.andThen_ok, ih', hb, List.cons.injEq, true_and]
    · rw [if_neg hb]
      simp only [Result.andThen_ok, Sem.run_pure, List.cons.injEq, hb, false_and, if_false]

theorem run_equalIn_bytes (w : World) (d : Nat) (t e : TypeId) (n : Nat) (ht : P.underlying t = some (.array n e)) (he : P.underlying e = some (.int .u8)) (hs : (P.info? e).map (·.size) = some 1) (xs ys : List UInt8) (hx : xs.length = n) (hy : ys.length = n) :
    (Op.equalIn (d + 2) t (.agg (bytesV xs).toArray) (.agg (bytesV ys).toArray)).run P w = .ok (decide (xs = ys)) w := by
  have hsz : (sizeOf e).run P w = .ok 1 w := by
    cases hq : P.info? e with
    | none => simp [hq] at hs
    | some i => simp [hq] at hs; simp [sizeOf, typeInfo, hq, hs]
  have h1 : ∀ x y : UInt8, (Op.equalIn (d + 1) e (byteV x) (byteV y)).run P w = .ok (x == y) w := by
    intro x y
    unfold byteV
    rw [run_equalIn_int w d e .u8 .u8 _ _ he]
    congr 1
    rw [Bool.eq_iff_iff]
    simp [← UInt8.toNat_inj]; omega
  rw [show d + 2 = (d + 1) + 1 from rfl, Op.equalIn]
  simp only [Sem.run_bind, run_underlying ht, Result.andThen_ok, hsz]
  rw [Std.Legacy.Range.forIn_eq_forIn_range', show (Std.Legacy.Range.size [:n]) = n from by simp [Std.Legacy.Range.size]]
  rw [run_eqLoop (P := P) w xs ys (by omega) _ ?_ n 0 (by omega)]
  · by_cases h : xs = ys <;> simp [h]
  · intro i h s
    have hx' : i < xs.length := by omega
    have hy' : i < ys.length := by omega
    simp only [Nat.mul_one, Sem.run_bind, run_part_byte w e he xs i hx', run_part_byte w e he ys i hy', Result.andThen_ok, h1]
    by_cases hb : xs[i] = ys[i]
    · simp [hb]
    · simp [hb]
end
end Go.Proofs.Ytgdefibkemkejaa

/- Sectors as values: 128 bytes. -/
namespace Go.Proofs.Ytgdefibkemkejaa
open Go.ChangeShapes Go.WideShapes Go.ChangeAt Go.RowKit
set_option linter.unusedVariables false
set_option maxRecDepth 20000

abbrev Sec := {l : List UInt8 // l.length = 128}
/-- a sector's cells -/
def secL (s : Sec) : List Value := bytesV s.1
theorem secL_length (s : Sec) : (secL s).length = 128 := by unfold secL; rw [bytesV_length]; exact s.2
theorem secL_one (s : Sec) : ∀ v ∈ secL s, v.oneCell' = true := bytesV_one s.1
theorem bytesV_inj {a b : List UInt8} (h : bytesV a = bytesV b) : a = b := by
  induction a generalizing b with
  | nil => cases b with
    | nil => rfl
    | cons y r => simp [bytesV] at h
  | cons x r ih => cases b with
    | nil => simp [bytesV] at h
    | cons y s =>
      simp only [bytesV, List.map_cons, List.cons.injEq] at h
      have h1 := ih h.2
      have h2 : x = y := by
        have h3 := h.1
        unfold byteV at h3
        injection h3 with _ h3
        exact UInt8.toNat_inj.1 (by omega)
      rw [h1, h2]
theorem secL_inj {s t : Sec} (h : secL s = secL t) : s = t := Subtype.ext (bytesV_inj h)
def sec0 : Sec := ⟨List.replicate 128 0, by simp⟩
theorem zeroSec (w : World) : Sem.run Try.prog (zeroValue 23) w = .ok (.agg (secL sec0).toArray) w := by kernel_rfl
theorem built_sec0 : Try.prog.built 23 [] = some (secL sec0).toArray := by kernel_rfl
theorem infoSec : (Try.prog.info? 23).map (·.size) = some 128 := by kernel_rfl
theorem infoSecL (s : Sec) : (Try.prog.info? 23).map (·.size) = some (secL s).length := by rw [infoSec, secL_length]
theorem infoU8' : (Try.prog.info? 5).map (·.size) = some 1 := by kernel_rfl
theorem eqSec (w : World) (s t : Sec) : (Op.equalIn 10000 23 (.agg (secL s).toArray) (.agg (secL t).toArray)).run Try.prog w = .ok (decide (s = t)) w := by
  have h := run_equalIn_bytes (P := Try.prog) w 9998 23 5 128 Try.underlying23 Try.underlying5 infoU8' s.1 t.1 s.2 t.2
  rw [show (10000 : Nat) = 9998 + 2 from rfl]
  unfold secL
  rw [h]
  congr 1
  simp [Subtype.ext_iff]
end Go.Proofs.Ytgdefibkemkejaa

/- Loads, stores and builds of whole rows, guarded or not. What holds for every program. -/
namespace Go.Proofs.Ytgdefibkemkejaa
open Go.ChangeShapes Go.WideShapes Go.ChangeAt Go.RowKit
set_option linter.unusedVariables false
set_option maxRecDepth 20000

section
variable {P : Program} {ops : Array Oper} {rest : List Oper} {o : Oper} {a : Act} {w : World} {Q : Exit → Act → World → Prop}
theorem wantList (hw : Region.wanted o (yielded ops a.tmps) = true) (h : ∀ K : Act → World → Prop, (∀ a w, wpList P ops Q rest a w → K a w) → o.wp P a w K Q) : wpList P ops Q (o :: rest) a w :=
  wpList_step fun K hK => by rw [if_pos hw]; exact h K hK
theorem wantList_load (hw : Region.wanted o (yielded ops a.tmps) = true) (ty : TypeId) (x : Operand) (ho : o.op = .load ty x)
    (b off : Nat) (hx : a.eval x = .pointer (some ⟨b, off, none⟩)) (cs : List Value) (d : TypeDesc) (hc : w.rangeAt b off cs)
    (hu : P.underlying ty = some d) (hd : d.isRow = true) (hi : (P.info? ty).map (·.size) = some cs.length)
    (h : wpList P ops Q rest (a.put o.dst (.agg cs.toArray)) w) : wpList P ops Q (o :: rest) a w :=
  wantList hw fun _ hK => wp_load_mid ty x ho b off hx cs d hc hu hd hi (hK _ _ h)
theorem wantList_store (hw : Region.wanted o (yielded ops a.tmps) = true) (ty : TypeId) (x y : Operand) (ho : o.op = .store ty x y)
    (g off : Nat) (hx : a.eval x = .pointer (some ⟨g, off, none⟩)) (vs : List Value) (hy : a.eval y = .agg vs.toArray) (t : TypeId) (cur new : List Value) (hb : Blk w g t cur)
    (hl : off + vs.length ≤ cur.length) (h1 : ∀ v ∈ vs, v.oneCell' = true) (hi : (P.info? ty).map (·.size) = some vs.length) (hnew : new = cur.take off ++ vs ++ cur.drop (off + vs.length))
    (h : ∀ w', Blk w' g t new → Kept (· = g) w w' → w'.heap.size = w.heap.size → wpList P ops Q rest (a.put o.dst undef) w') : wpList P ops Q (o :: rest) a w :=
  wantList hw fun _ hK => wp_store_blk ty x y ho g off hx vs hy t cur new hb hl h1 hi hnew fun w' h2 h3 h4 => hK _ _ (h w' h2 h3 h4)
theorem wantList_build (hw : Region.wanted o (yielded ops a.tmps) = true) (t : TypeId) (ps : List (Nat × Operand)) (ho : o.op = .build t ps.toArray) (cells : List Value) (vs : List (Nat × Value)) (hv : (ps.map fun x => (x.1, a.eval x.2)) = vs)
    (hp : P.built t vs = some cells.toArray) (h : wpList P ops Q rest (a.put o.dst (.agg cells.toArray)) w) : wpList P ops Q (o :: rest) a w :=
  wantList hw fun _ hK => by
    have hp' : P.built t (ps.toArray.map fun (i, x) => (i, a.eval x)).toList = some cells.toArray := by
      rw [← hp, ← hv]
      simp
    unfold Oper.wp execOp
    simp only [ho, Sem.run_bind, run_build w t _ _ hp', Result.andThen_ok]
    exact hK _ _ h
end
theorem guardList {P : Program} {ops : Array Oper} {rest : List Oper} {o : Oper} {a : Act} {w : World} {Q : Exit → Act → World → Prop} (h : wpList P ops Q (o :: rest) a w) : wpList P ops Q (o :: rest) a w := h
end Go.Proofs.Ytgdefibkemkejaa

/- copy into a block that is known whole: from a slice, from a string; what holds for every program. -/
namespace Go.Proofs.Ytgdefibkemkejaa
open Go.ChangeShapes Go.WideShapes Go.ChangeAt Go.RowKit
set_option linter.unusedVariables false
set_option maxRecDepth 20000

section
variable {P : Program} {ops : Array Oper} {rest : List Oper} {o : Oper} {a : Act} {w : World} {Q : Exit → Act → World → Prop}

theorem run_copyR (dT sT ty elem : TypeId) (hu : P.underlying dT = some (.slice elem)) (hsz : (P.info? elem).map (·.size) = some 1)
    (g off dLen dCap : Nat) (so : Option Addr) (n sCap : Nat) (t : TypeId) (cur new cs : List Value) (hb : Blk w g t cur) (hn : cs.length = n) (hpos : 0 < n) (hle : n ≤ dLen) (hsrc : Reads w so cs)
    (hfit : off + n ≤ cur.length) (h1 : ∀ v ∈ cs, v.oneCell' = true) (hnew : new = cur.take off ++ (cs ++ cur.drop (off + n))) :
    ∃ w', (Builtin.copy_ #[dT, sT] ty #[.slice (some ⟨g, off, none⟩) dLen dCap, .slice so n sCap]).run P w = .ok (goInt n) w' ∧ Blk w' g t new ∧ Kept (· = g) w w' ∧ w'.heap.size = w.heap.size := by
  obtain ⟨b, o', e, _⟩ := hsrc 0 (by omega)
  subst e
  have hmin : cs.length = Nat.min n dLen := by rw [hn]; exact (Nat.min_eq_left hle).symm
  have hrun := run_copy_row (P := P) w dT sT ty elem g off dLen dCap ⟨b, o', none⟩ n sCap cur.toArray t cs hu hsz hb hmin (fun j v hv => hsrc.cellsAt _ rfl j v hv) (by simpa [hn] using hfit) h1
  rw [hn] at hrun
  refine ⟨_, hrun, ?_, Kept.of_setRow (F := (· = g)) w rfl _, by simp⟩
  subst hnew
  simpa [hn] using hb.row (cur.take off ++ (cs ++ cur.drop (off + n)))

/-- copy as a step of a walk: the block behind it is told whole -/
theorem wpList_copyR (hgd : o.guard = none) (d s : Operand) (dT sT : TypeId) (ho : o.op = .call { callee := .builtin .copy, args := #[d, s], argTypes := #[dT, sT] })
    (elem : TypeId) (hu : P.underlying dT = some (.slice elem)) (hsz : (P.info? elem).map (·.size) = some 1)
    (g off dLen dCap : Nat) (hd : a.eval d = .slice (some ⟨g, off, none⟩) dLen dCap) (so : Option Addr) (n sCap : Nat) (hs : a.eval s = .slice so n sCap)
    (t : TypeId) (cur new cs : List Value) (hb : Blk w g t cur) (hn : cs.length = n) (hpos : 0 < n) (hle : n ≤ dLen) (hsrc : Reads w so cs)
    (hfit : off + n ≤ cur.length) (h1 : ∀ v ∈ cs, v.oneCell' = true) (hnew : new = cur.take off ++ (cs ++ cur.drop (off + n)))
    (h : ∀ w', Blk w' g t new → Kept (· = g) w w' → w'.heap.size = w.heap.size → wpList P ops Q rest (a.put o.dst (goInt n)) w') : wpList P ops Q (o :: rest) a w := by
  obtain ⟨w', hrun, h2, h3, h4⟩ := run_copyR (P := P) dT sT o.type elem hu hsz g off dLen dCap so n sCap t cur new cs hb hn hpos hle hsrc hfit h1 hnew
  refine wpList_plain hgd fun K hK => ?_
  unfold Oper.wp
  simp [execOp, ho, resolve, invoke, builtin, hd, hs, hrun, Result.andThen]
  exact hK _ _ (h w' h2 h3 h4)

/-- copy as a step of a region that draws its order -/
theorem step_copyR {K : Act → World → Prop} {E : Prop} (hgd : o.guard = none) (d s : Operand) (dT sT : TypeId) (ho : o.op = .call { callee := .builtin .copy, args := #[d, s], argTypes := #[dT, sT] })
    (elem : TypeId) (hu : P.underlying dT = some (.slice elem)) (hsz : (P.info? elem).map (·.size) = some 1)
    (g off dLen dCap : Nat) (hd : a.eval d = .slice (some ⟨g, off, none⟩) dLen dCap) (so : Option Addr) (n sCap : Nat) (hs : a.eval s = .slice so n sCap)
    (t : TypeId) (cur new cs : List Value) (hb : Blk w g t cur) (hn : cs.length = n) (hpos : 0 < n) (hle : n ≤ dLen) (hsrc : Reads w so cs)
    (hfit : off + n ≤ cur.length) (h1 : ∀ v ∈ cs, v.oneCell' = true) (hnew : new = cur.take off ++ (cs ++ cur.drop (off + n)))
    (h : ∀ w', Blk w' g t new → Kept (· = g) w w' → w'.heap.size = w.heap.size → K (a.put o.dst (goInt n)) w') :
    if Region.wanted o (yielded ops a.tmps) = true then Oper.wp P o a w K Q else E := by
  have hw : Region.wanted o (yielded ops a.tmps) = true := by simp [Region.wanted, hgd]
  rw [if_pos hw]
  obtain ⟨w', hrun, h2, h3, h4⟩ := run_copyR (P := P) dT sT o.type elem hu hsz g off dLen dCap so n sCap t cur new cs hb hn hpos hle hsrc hfit h1 hnew
  unfold Oper.wp
  simp [execOp, ho, resolve, invoke, builtin, hd, hs, hrun, Result.andThen]
  exact h w' h2 h3 h4

/-- copy out of a string -/
theorem wpList_copyStr (hgd : o.guard = none) (d s : Operand) (dT sT : TypeId) (ho : o.op = .call { callee := .builtin .copy, args := #[d, s], argTypes := #[dT, sT] })
    (elem : TypeId) (hu : P.underlying dT = some (.slice elem)) (hsz : (P.info? elem).map (·.size) = some 1)
    (g off dLen dCap : Nat) (hd : a.eval d = .slice (some ⟨g, off, none⟩) dLen dCap) (x : ByteArray) (hs : a.eval s = .string x)
    (t : TypeId) (cur new : List Value) (n : Nat) (hb : Blk w g t cur) (hn : x.size = n) (hle : n ≤ dLen)
    (hfit : off + n ≤ cur.length) (hnew : new = cur.take off ++ (bytesV x.data.toList ++ cur.drop (off + n)))
    (h : ∀ w', Blk w' g t new → Kept (· = g) w w' → w'.heap.size = w.heap.size → wpList P ops Q rest (a.put o.dst (goInt n)) w') : wpList P ops Q (o :: rest) a w := by
  subst hn
  have hrun := Go.Lib.run_copy_row_string (P := P) w dT sT o.type elem g off dLen dCap x cur.toArray t hu hsz hb hle (by simpa using hfit)
  refine wpList_plain hgd fun K hK => ?_
  unfold Oper.wp
  simp [execOp, ho, resolve, invoke, builtin, hd, hs, hrun, Result.andThen]
  refine hK _ _ (h _ ?_ (Kept.of_setRow (F := (· = g)) w rfl _) (by simp))
  have e : bytesV x.data.toList = Go.Lib.byteCells x.data.toList := rfl
  subst hnew
  rw [e]
  simpa using hb.row (cur.take off ++ (Go.Lib.byteCells x.data.toList ++ cur.drop (off + x.size)))
end
end Go.Proofs.Ytgdefibkemkejaa

/- An append of one element of n cells, and where the row lies behind it; what holds for every program. -/
namespace Go.Proofs.Ytgdefibkemkejaa
open Go.ChangeShapes Go.WideShapes Go.ChangeAt Go.RowKit
set_option linter.unusedVariables false
set_option maxRecDepth 20000

theorem wpList_pushN {P : Program} {ops : Array Oper} {rest : List Oper} {o : Oper} {a : Act} {Q : Exit → Act → World → Prop} (hgd : o.guard = none) (s x : Operand) (t : TypeId)
    (ho : o.op = .call { callee := .builtin .append, args := #[s, x], argTypes := #[t, t] })
    (base : Nat) (e : TypeId) (i : TypeInfo) (z : Value) (size bytes : Nat) (ht : P.underlying t = some (.slice e)) (hi : P.info? e = some i) (hz : i.zero = some z)
    (hsize : i.size = size) (hby : i.bytes = bytes) (hzs : z.cells.size = size) (hsz : 0 < size)
    (v : Value) (n : Nat) (xs : List Value) (w0 : World) (hs : a.eval s = v) (hown : w0.ownsRow base e size v n xs)
    (c : Nat) (news : Array Value) (hx : a.eval x = .slice (some ⟨w0.heap.size, 0, none⟩) 1 c) (hl : news.size = size) (h1 : ∀ u ∈ news.toList, u.oneCell' = true)
    (hn : n < 9223372036854775807) (hbytes : (n + 1) * bytes ≤ 140737488355328) (hbase : base ≤ w0.heap.size)
    (h : ∀ v' w', w'.ownsRow base e size v' (n + 1) (xs ++ news.toList) → Grew w0 w' v v' → (∃ g cap, v' = .slice (some ⟨g, 0, none⟩) (n + 1) cap) → wpList P ops Q rest (a.put o.dst v') w') :
    wpList P ops Q (o :: rest) a (w0.alloc (.cells news e)) := by
  refine wpList_append_own_at _ hgd s x t ho base e i z size bytes ht hi hz hsize hby hzs hsz v n xs hs (World.ownsRow.alloc hown _) ⟨w0.heap.size, 0, none⟩ 1 c news.toList hx (by simp [hl]) ?_ h1 (by unfold maxLen; omega) hbytes (by simp; omega) ?_
  · intro j u hu
    rw [Go.WideShapes.add_plain]
    simpa using hu
  · intro v' w' h2 h3 _ h4
    refine h v' w' h2 ?_ (ownsRow_succ h2)
    have k1 := Grew.of_below v ((Below.refl w0.heap.size w0).alloc (Nat.le_refl _) (.cells news e))
    refine k1.trans ⟨h3, ?_⟩
    rcases h4 with h4 | h4
    · exact .inl h4
    · exact .inr ⟨_, h4, Nat.le_refl _⟩
end Go.Proofs.Ytgdefibkemkejaa
