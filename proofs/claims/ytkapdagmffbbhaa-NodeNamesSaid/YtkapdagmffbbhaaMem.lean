/- Cells that a slice shows, rows of the call's own, appends and cuts of them; what holds for every program. -/
import Derived.Test.YtkapdagmffbbhaaKit
import Derived.Laws.BytesArg
import Derived.Laws.Shifts
import Derived.Laws.ShiftsVar
import Derived.Laws.OwnMore
import Derived.Laws.MakeOwn
import Derived.IntWalk
namespace Go.Proofs.Ytkapdagmffbbhaa
open Go.ChangeShapes Go.WideShapes Go.ChangeAt Go.RowKit
set_option linter.unusedVariables false
set_option maxRecDepth 20000

/-- these cells stand from the address on -/
def Reads (w : World) (ao : Option Addr) (cs : List Value) : Prop :=
  ∀ i (h : i < cs.length), ∃ b off, ao = some ⟨b, off, none⟩ ∧ w.cell? ⟨b, off + i, none⟩ = some cs[i]

section
variable {w w' : World} {ao : Option Addr} {cs : List Value}
theorem Reads.nil (w : World) (ao : Option Addr) : Reads w ao [] := fun i h => by simp at h
theorem Reads.lt (h : Reads w ao cs) (i : Nat) (hi : i < cs.length) : ∀ a, ao = some a → a.block < w.heap.size := by
  obtain ⟨b, off, e, c⟩ := h i hi
  intro a ea
  rw [e] at ea; cases ea
  exact cell_lt (a := ⟨b, off + i, none⟩) c
theorem Reads.keep (h : Reads w ao cs) (k : ∀ p : Addr, p.block < w.heap.size → (∃ a, ao = some a ∧ p.block = a.block) → w'.cell? p = w.cell? p) : Reads w' ao cs := by
  intro i hi
  obtain ⟨b, off, e, c⟩ := h i hi
  exact ⟨b, off, e, (k ⟨b, off + i, none⟩ (cell_lt c) ⟨_, e, rfl⟩).trans c⟩
theorem Reads.below (h : Reads w ao cs) (hb : Below w.heap.size w w') : Reads w' ao cs := h.keep fun p hp _ => hb.cell hp
theorem Reads.alloc (h : Reads w ao cs) (o : Obj) : Reads (w.alloc o) ao cs := h.below ((Below.refl _ _).alloc (Nat.le_refl _) o)
theorem Reads.drewN (h : Reads w ao cs) (n : Nat) : Reads (w.drewN n) ao cs := h
theorem Reads.grown (h : Reads w ao cs) {row : Option Nat} (hg : w.grownBy w' row) (hne : ∀ a, ao = some a → some a.block ≠ row) : Reads w' ao cs :=
  h.keep fun p hp ⟨a, ea, he⟩ => World.cell?_of_block (hg.block _ hp (by rw [he]; exact hne a ea))
theorem Reads.take (h : Reads w ao cs) (n : Nat) : Reads w ao (cs.take n) := by
  intro i hi
  obtain ⟨b, off, e, c⟩ := h i (by simp at hi; omega)
  exact ⟨b, off, e, by rw [c]; simp⟩
theorem Reads.at (h : Reads w ao cs) {k : Nat} (hk : k < cs.length) : ∃ b off, ao = some ⟨b, off, none⟩ ∧ w.cell? ⟨b, off + k, none⟩ = some cs[k] ∧ b < w.heap.size := by
  obtain ⟨b, off, e, c⟩ := h k hk
  exact ⟨b, off, e, c, cell_lt (a := ⟨b, off + k, none⟩) c⟩
theorem Reads.cellsAt (h : Reads w ao cs) : ∀ ad, ao = some ad → ∀ j u, cs[j]? = some u → w.cell? (ad.add j) = some u := by
  intro ad ea j u hu
  obtain ⟨hj, rfl⟩ := List.getElem?_eq_some_iff.1 hu
  obtain ⟨b, off, e, c⟩ := h j hj
  rw [ea] at e; cases e
  rw [Go.WideShapes.add_plain, c]
theorem Reads.none_nil (h : Reads w none cs) : cs = [] := by
  cases cs with
  | nil => rfl
  | cons c r => obtain ⟨b, off, e, _⟩ := h 0 (by simp); cases e
end

/-- where a slice begins behind a cut at l -/
def shiftA (ao : Option Addr) (cap l : Nat) : Option Addr := if cap = l then ao else ao.map (·.add l)

theorem shiftA_none (cap l : Nat) : shiftA none cap l = none := by unfold shiftA; split <;> rfl
theorem shiftA_zero (ao : Option Addr) (cap : Nat) : shiftA ao cap 0 = ao := by
  unfold shiftA; split
  · rfl
  · cases ao <;> simp [Addr.add]

theorem shiftA_block {ao : Option Addr} {cap l : Nat} {a : Addr} (h : shiftA ao cap l = some a) : ∃ a', ao = some a' ∧ a.block = a'.block := by
  cases ao with
  | none => rw [shiftA_none] at h; cases h
  | some x =>
    refine ⟨x, rfl, ?_⟩
    unfold shiftA at h
    split at h
    · cases h; rfl
    · simp at h; subst h; unfold Addr.add; split <;> rfl

theorem Reads.shift {w : World} {ao : Option Addr} {cs : List Value} (h : Reads w ao cs) {cap l : Nat} (hc : cs.length ≤ cap) : Reads w (shiftA ao cap l) (cs.drop l) := by
  intro i hi
  have hi' : l + i < cs.length := by simp at hi; omega
  obtain ⟨b, off, rfl, c⟩ := h (l + i) hi'
  refine ⟨b, off + l, ?_, ?_⟩
  · unfold shiftA; rw [if_neg (by omega)]; simp [Go.WideShapes.add_plain]
  · rw [show off + l + i = off + (l + i) from by omega, c]; simp

section
variable {P : Program}
theorem run_cut_h (t e : TypeId) (ht : P.underlying t = some (.slice e)) (hz : ∀ w, (Go.sizeOf e).run P w = .ok 1 w) (ao : Option Addr) (len cap h : Nat) (hh : h ≤ cap) (w : World) :
    (Instr.slice t (.slice ao len cap) none (some (.int .i64 (h : Int))) none).run P w = .ok (.slice ao h cap) w := by
  have ht' : P.underlying t = some (.slice (P.elem t)) := by simp [Program.elem, ht]
  have he : P.elem t = e := by simp [Program.elem, ht]
  rw [run_slice_h w t ao len cap ht' .i64 _ (by omega) (by omega), he, hz]
  have := shiftA_zero ao cap
  simp [Result.andThen, sliced]
  intro _
  cases ao <;> simp [Addr.add]
theorem run_cut_l (t e : TypeId) (ht : P.underlying t = some (.slice e)) (hz : ∀ w, (Go.sizeOf e).run P w = .ok 1 w) (ao : Option Addr) (len cap l : Nat) (hl : l ≤ len) (w : World) :
    (Instr.slice t (.slice ao len cap) (some (.int .i64 (l : Int))) none none).run P w = .ok (.slice (shiftA ao cap l) (len - l) (cap - l)) w := by
  have ht' : P.underlying t = some (.slice (P.elem t)) := by simp [Program.elem, ht]
  have he : P.elem t = e := by simp [Program.elem, ht]
  rw [run_slice_l w t ao len cap ht' .i64 _ (by omega) (by omega), he, hz]
  simp [Result.andThen, sliced, shiftA]
theorem run_cut_lh (t e : TypeId) (ht : P.underlying t = some (.slice e)) (hz : ∀ w, (Go.sizeOf e).run P w = .ok 1 w) (ao : Option Addr) (len cap l h : Nat) (hlh : l ≤ h) (hh : h ≤ cap) (w : World) :
    (Instr.slice t (.slice ao len cap) (some (.int .i64 (l : Int))) (some (.int .i64 (h : Int))) none).run P w = .ok (.slice (shiftA ao cap l) (h - l) (cap - l)) w := by
  have ht' : P.underlying t = some (.slice (P.elem t)) := by simp [Program.elem, ht]
  have he : P.elem t = e := by simp [Program.elem, ht]
  rw [run_slice_lh w t ao len cap ht' .i64 .i64 _ _ (by omega) (by omega) (by omega), he, hz]
  simp [Result.andThen, sliced, shiftA]
end

/-- a byte's cell -/
def byteV (b : UInt8) : Value := .int .u8 (b.toNat : Int)
def bytesV (bs : List UInt8) : List Value := bs.map byteV
def Bytes (w : World) (ao : Option Addr) (bs : List UInt8) : Prop := Reads w ao (bytesV bs)
theorem bytesV_length (bs : List UInt8) : (bytesV bs).length = bs.length := by simp [bytesV]
theorem bytesV_append (a b : List UInt8) : bytesV (a ++ b) = bytesV a ++ bytesV b := by simp [bytesV]
theorem bytesV_one (bs : List UInt8) : ∀ u ∈ bytesV bs, u.oneCell' = true := by
  intro u hu
  simp only [bytesV, List.mem_map] at hu
  obtain ⟨b, _, rfl⟩ := hu
  rfl
theorem byteV_of {z : Int} {n : Nat} (h : z = ((n % 256 : Nat) : Int)) : Value.int .u8 z = byteV (UInt8.ofNat n) := by
  subst h
  simp [byteV]

/-- the string of bytes -/
def strOf (bs : List UInt8) : ByteArray := ⟨bs.toArray⟩
theorem strOf_inj {a b : List UInt8} : strOf a = strOf b ↔ a = b := by
  constructor
  · intro h; simpa [strOf] using h
  · rintro rfl; rfl

theorem strOf_toList (bs : List UInt8) : (strOf bs).toList = bs := by
  rw [Go.ByteArray.toList_eq]; rfl
theorem str_ne {a b : List UInt8} (h : a ≠ b) : ((strOf a).toList == (strOf b).toList) = false := by
  rw [strOf_toList, strOf_toList]; simpa using h

theorem run_str {P : Program} (src dst e : TypeId) (hs : P.underlying src = some (.slice e)) (he : P.underlying e = some (.int .u8)) (hd : P.underlying dst = some .string)
    {w : World} {ao : Option Addr} {bs : List UInt8} (cap : Nat) (h : Bytes w ao bs) : (convert src dst (.slice ao bs.length cap)).run P w = .ok (.string (strOf bs)) w := by
  cases ao with
  | none =>
    have e0 := h.none_nil
    have : bs = [] := by simpa [bytesV] using e0
    subst this
    rw [run_convert_bytes_nil w src e hs he _ _ dst hd]
    rfl
  | some a =>
    have hl : (loadCells a bs.length).run P w = .ok ((bs.map fun b => (b.toNat : Int)).map (Value.int .u8)).toArray w := by
      have := run_loadCells_list (P := P) w a (bytesV bs) (fun j v hj => h.cellsAt a rfl j v hj)
      have e : bytesV bs = (bs.map fun b => (b.toNat : Int)).map (Value.int .u8) := by rw [List.map_map]; rfl
      rw [e] at this
      simpa using this
    rw [run_convert_bytes_string w src dst e _ bs.length cap hs he hd, run_bytesToString w _ bs.length cap _ hl, foldl_push_bytes]
    simp [strOf, ByteArray.empty, ByteArray.emptyWithCapacity, Function.comp_def]
    rfl

/-- a row of the call's own whose elements have one cell each -/
def Own (w : World) (base : Nat) (e : TypeId) (v : Value) (cs : List Value) : Prop := w.ownsRow base e 1 v cs.length cs

section
variable {w w' : World} {base : Nat} {e : TypeId} {v : Value} {cs : List Value}
theorem Own.nil (w : World) (base : Nat) (e : TypeId) : Own w base e (.slice none 0 0) [] := World.ownsRow_nil _ _ _ _
theorem Own.shape (h : Own w base e v cs) : ∃ ao cap, v = .slice ao cs.length cap ∧ cs.length ≤ cap ∧ cap ≤ maxLen ∧ (ao = none → cap = 0) ∧ Reads w ao cs ∧ (∀ a, ao = some a → base ≤ a.block ∧ a.block < w.heap.size) ∧ v.ownBlock = ao.map (·.block) := by
  have hc := h
  have hlt := World.ownsRow.lt h
  obtain ⟨hl, h | h⟩ := h
  · obtain ⟨rfl, hn⟩ := h
    have : cs = [] := List.eq_nil_of_length_eq_zero hn
    subst this
    exact ⟨none, 0, rfl, Nat.le_refl _, Nat.zero_le _, fun _ => rfl, Reads.nil _ _, (fun a h => by cases h), rfl⟩
  · obtain ⟨g, cap, cur, rfl, _, _, h1, h2, _⟩ := h
    refine ⟨some ⟨g, 0, none⟩, cap, rfl, h1, h2, (fun h => by cases h), ?_, ?_, rfl⟩
    · intro i hi
      refine ⟨g, 0, rfl, ?_⟩
      rw [Nat.zero_add, hc.cellAt i (by omega)]
      simp [hi]
    · intro a ha
      cases ha
      exact hlt g rfl
theorem Own.reads {ao : Option Addr} {n cap : Nat} (h : Own w base e (.slice ao n cap) cs) : Reads w ao cs := by
  obtain ⟨ao', cap', e, _, _, _, hr, _⟩ := h.shape
  injection e with e1 e2 e3
  subst e1
  exact hr
theorem Own.keep (h : Own w base e v cs) (k : ∀ g, g < w.heap.size → v.ownBlock = some g → w'.heap[g]? = w.heap[g]?) : Own w' base e v cs := by
  obtain ⟨hl, h | h⟩ := h
  · exact ⟨hl, .inl h⟩
  · obtain ⟨g, cap, cur, rfl, h1, h2, h3⟩ := h
    refine ⟨hl, .inr ⟨g, cap, cur, rfl, h1, ?_, h3⟩⟩
    have : g < w.heap.size := by
      by_cases hb : g < w.heap.size
      · exact hb
      · rw [Array.getElem?_eq_none (by omega)] at h2; simp at h2
    rw [k g this rfl, h2]
theorem Own.below (h : Own w base e v cs) (hb : Below w.heap.size w w') : Own w' base e v cs := h.keep fun g hg _ => hb.block g hg
theorem Own.grown (h : Own w base e v cs) {row : Option Nat} (hg : w.grownBy w' row) (hne : v.ownBlock = none ∨ v.ownBlock ≠ row) : Own w' base e v cs :=
  h.keep fun g hlt he => hg.block g hlt (by rcases hne with hne | hne <;> rw [he] at hne; · cases hne
                                            · exact hne)
theorem Own.le (h : Own w base e v cs) {base' : Nat} (hb : base' ≤ base) : Own w base' e v cs := by
  obtain ⟨hl, h | h⟩ := h
  · exact ⟨hl, .inl h⟩
  · obtain ⟨g, cap, cur, rfl, h1, h2⟩ := h
    exact ⟨hl, .inr ⟨g, cap, cur, rfl, by omega, h2⟩⟩
theorem Own.lt (h : Own w base e v cs) : ∀ g, v.ownBlock = some g → base ≤ g ∧ g < w.heap.size := World.ownsRow.lt h
/-- rows of unlike elements lie in unlike blocks -/
theorem Own.ne {base' : Nat} {e' : TypeId} {v' : Value} {cs' : List Value} (h : Own w base e v cs) (h' : Own w base' e' v' cs') (hne : e ≠ e') : v.ownBlock = none ∨ v.ownBlock ≠ v'.ownBlock := by
  obtain ⟨_, ⟨rfl, _⟩ | ⟨g, cap, cur, rfl, _, h2, _⟩⟩ := h
  · exact .inl rfl
  · right
    obtain ⟨_, ⟨rfl, _⟩ | ⟨g', cap', cur', rfl, _, h2', _⟩⟩ := h'
    · simp [Value.ownBlock]
    · intro eq
      have : g = g' := by simpa [Value.ownBlock] using eq
      subst this
      rw [h2] at h2'
      injection h2' with h2'
      injection h2' with _ ht
      exact hne ht
theorem Own.made (w : World) (cur : Array Value) (cap : Nat) {base : Nat} {e : TypeId} (hb : base ≤ w.heap.size) (hm : cap ≤ maxLen) (hs : cur.size = cap) : Own (w.alloc (.cells cur e)) base e (.slice (some ⟨w.heap.size, 0, none⟩) 0 cap) [] :=
  World.ownsRow_made w cur cap hb hm (by simpa using hs)
theorem Own.lit (w : World) (cur : Array Value) (n : Nat) {base : Nat} {e : TypeId} (hb : base ≤ w.heap.size) (hm : n ≤ maxLen) (hs : cur.size = n) : Own (w.alloc (.cells cur e)) base e (.slice (some ⟨w.heap.size, 0, none⟩) n n) cur.toList := by
  subst hs
  have := World.ownsRow_lit (base := base) (e := e) (size := 1) w cur cur.size hb hm (by simp)
  simpa [Own] using this
end

theorem run_make1 {P : Program} (t e : TypeId) (i : TypeInfo) (z : Value) (ht : P.underlying t = some (.slice e)) (hi : P.info? e = some i) (hz : i.zero = some z) (hsize : i.size = 1) (n : Nat) (hb : i.bytes * n ≤ 281474976710656) (hn : n ≤ 9223372036854775807) (w : World) :
    (Instr.makeSlice t (.int .i64 0) (.int .i64 (n : Int))).run P w = .ok (.slice (some ⟨w.heap.size, 0, none⟩) 0 n) (w.alloc (.cells (madeCells z.cells n) e)) := by
  have hb' : (i.bytes : Int) * (n : Int) ≤ 281474976710656 := by
    have h : ((i.bytes * n : Nat) : Int) ≤ 281474976710656 := by omega
    rwa [Int.natCast_mul] at h
  have := run_make (P := P) w t e i z ht hi hz .i64 .i64 0 n (Int.le_refl _) (by omega) hb' (by omega)
  simpa [hsize] using this

theorem Own.madeN (w : World) (z : Array Value) (n : Nat) {base : Nat} {e : TypeId} (hb : base ≤ w.heap.size) (hm : n ≤ maxLen) : Own (w.alloc (.cells (madeCells z n) e)) base e (.slice (some ⟨w.heap.size, 0, none⟩) 0 n) [] :=
  Own.made w _ n hb hm (size_madeCells _ _)

/-- what an append to v, of which v' came, leaves as it was -/
def Grew (w w' : World) (v v' : Value) : Prop := w.grownBy w' v.ownBlock ∧ (v'.ownBlock = v.ownBlock ∨ ∃ g, v'.ownBlock = some g ∧ w.heap.size ≤ g)

theorem Grew.refl (w : World) (v : Value) : Grew w w v v := ⟨World.grownBy.refl w _, .inl rfl⟩
theorem Grew.trans {w w1 w2 : World} {v v1 v2 : Value} (h : Grew w w1 v v1) (k : Grew w1 w2 v1 v2) : Grew w w2 v v2 := by
  obtain ⟨h1, h2⟩ := h
  obtain ⟨k1, k2⟩ := k
  refine ⟨⟨k1.os.trans h1.os, k1.tape.trans h1.tape, k1.output.trans h1.output, Nat.le_trans h1.size k1.size, fun i hi hne => (k1.block i (Nat.lt_of_lt_of_le hi h1.size) ?_).trans (h1.block i hi hne)⟩, ?_⟩
  · rcases h2 with h2 | ⟨g, h2, h3⟩
    · rw [h2]; exact hne
    · rw [h2]; intro e; cases e; omega
  · rcases k2 with k2 | ⟨g, k2, k3⟩
    · rcases h2 with h2 | ⟨g, h2, h3⟩
      · exact .inl (k2.trans h2)
      · exact .inr ⟨g, k2.trans h2, h3⟩
    · exact .inr ⟨g, k2, Nat.le_trans h1.size k3⟩
/-- a step that makes memory alone, ahead of an append or behind it -/
theorem Grew.of_below {w w1 : World} (v : Value) (h : Below w.heap.size w w1) : Grew w w1 v v := ⟨⟨h.os, h.tape, h.output, h.size, fun i hi _ => h.block i hi⟩, .inl rfl⟩
theorem Grew.below {w w1 w2 : World} {v v1 : Value} (h : Grew w w1 v v1) (k : Below w1.heap.size w1 w2) : Grew w w2 v v1 := h.trans (Grew.of_below v1 k)
theorem Grew.out {w w1 : World} {v v1 : Value} (h : Grew w w1 v v1) {B : Nat} (hB : B ≤ w.heap.size) (hv : ∀ g, v.ownBlock = some g → B ≤ g) : Below B w w1 :=
  (Below.refl B w).grown h.1 hB hv
theorem Grew.size {w w1 : World} {v v1 : Value} (h : Grew w w1 v v1) : w.heap.size ≤ w1.heap.size := h.1.size

section
variable {P : Program} {ops : Array Oper} {rest : List Oper} {o : Oper} {a : Act} {Q : Exit → Act → World → Prop}
/-- an append of one element that was just laid in a block of its own -/
theorem wpList_own_push (hgd : o.guard = none) (s x : Operand) (t : TypeId)
    (ho : o.op = .call { callee := .builtin .append, args := #[s, x], argTypes := #[t, t] })
    (base : Nat) (e : TypeId) (i : TypeInfo) (z : Value) (bytes : Nat) (ht : P.underlying t = some (.slice e)) (hi : P.info? e = some i) (hz : i.zero = some z)
    (hsize : i.size = 1) (hby : i.bytes = bytes) (hzs : z.cells.size = 1)
    (v : Value) (cs : List Value) (w0 : World) (hs : a.eval s = v) (hown : Own w0 base e v cs)
    (c : Nat) (y : Value) (hx : a.eval x = .slice (some ⟨w0.heap.size, 0, none⟩) 1 c) (h1 : y.oneCell' = true)
    (hn : cs.length < 9223372036854775807) (hbytes : (cs.length + 1) * bytes ≤ 140737488355328) (hbase : base ≤ w0.heap.size)
    (h : ∀ v' w', Own w' base e v' (cs ++ [y]) → Grew w0 w' v v' → wpList P ops Q rest (a.put o.dst v') w') :
    wpList P ops Q (o :: rest) a (w0.alloc (.cells #[y] e)) := by
  refine wpList_append_own_at _ hgd s x t ho base e i z 1 bytes ht hi hz hsize hby hzs (by decide) v cs.length cs hs (World.ownsRow.alloc hown _) ⟨w0.heap.size, 0, none⟩ 1 c [y] hx rfl (cell_one_new _ _ _) (by simpa using h1) (by unfold maxLen; omega) hbytes (by simp; omega) ?_
  intro v' w' h2 h3 _ h4
  refine h v' w' (by simpa [Own] using h2) ?_
  have k1 := Grew.of_below v ((Below.refl w0.heap.size w0).alloc (Nat.le_refl _) (.cells #[y] e))
  refine k1.trans ⟨h3, ?_⟩
  rcases h4 with h4 | h4
  · exact .inl h4
  · exact .inr ⟨_, h4, Nat.le_refl _⟩

/-- an append of whatever slice onto a row of the call's own -/
theorem wpList_own_app (hgd : o.guard = none) (s x : Operand) (t : TypeId)
    (ho : o.op = .call { callee := .builtin .append, args := #[s, x], argTypes := #[t, t] })
    (base : Nat) (e : TypeId) (i : TypeInfo) (z : Value) (bytes : Nat) (ht : P.underlying t = some (.slice e)) (hi : P.info? e = some i) (hz : i.zero = some z)
    (hsize : i.size = 1) (hby : i.bytes = bytes) (hzs : z.cells.size = 1)
    (v : Value) (cs : List Value) (w : World) (hs : a.eval s = v) (hown : Own w base e v cs)
    (ao : Option Addr) (m c : Nat) (news : List Value) (hx : a.eval x = .slice ao m c) (hnil : ao = none → c = 0) (hl : news.length = m) (hnews : Reads w ao news) (h1 : ∀ u ∈ news, u.oneCell' = true)
    (h63 : cs.length + m ≤ 9223372036854775807) (hbytes : (cs.length + m) * bytes ≤ 140737488355328) (hbase : base ≤ w.heap.size)
    (h : ∀ v' w', Own w' base e v' (cs ++ news) → Grew w w' v v' → wpList P ops Q rest (a.put o.dst v') w') :
    wpList P ops Q (o :: rest) a w := by
  subst hl
  cases ao with
  | none =>
    obtain rfl := hnil rfl
    have hn : news = [] := hnews.none_nil
    subst hn
    refine wpList_append_own_none hgd s x t ho base e i 1 ht hi v cs.length cs hs hown hx ?_
    exact h v w (by simpa using hown) (Grew.refl _ _)
  | some ad =>
    refine wpList_append_own_at _ hgd s x t ho base e i z 1 bytes ht hi hz hsize hby hzs (by decide) v cs.length cs hs hown ad news.length c news hx (by simp) (hnews.cellsAt ad rfl) h1 (by unfold maxLen; omega) hbytes hbase ?_
    intro v' w' h2 h3 _ h4
    refine h v' w' (by simpa [Own] using h2) ⟨h3, ?_⟩
    rcases h4 with h4 | h4
    · exact .inl h4
    · exact .inr ⟨_, h4, Nat.le_refl _⟩

/-- 'append([]T{}, x...)': a copy of whatever slice of one-cell elements -/
theorem wpList_copy (hgd : o.guard = none) (s x : Operand) (t : TypeId)
    (ho : o.op = .call { callee := .builtin .append, args := #[s, x], argTypes := #[t, t] })
    (e : TypeId) (i : TypeInfo) (z : Value) (bytes : Nat) (ht : P.underlying t = some (.slice e)) (hi : P.info? e = some i) (hz : i.zero = some z)
    (hsize : i.size = 1) (hby : i.bytes = bytes) (hzs : z.cells.size = 1)
    (w : World) (hs : a.eval s = .slice (some ⟨w.heap.size, 0, none⟩) 0 0)
    (ao : Option Addr) (m c : Nat) (news : List Value) (hx : a.eval x = .slice ao m c) (hnil : ao = none → c = 0) (hl : news.length = m) (hnews : Reads w ao news) (h1 : ∀ u ∈ news, u.oneCell' = true)
    (h63 : m ≤ 9223372036854775807) (hbytes : m * bytes ≤ 140737488355328)
    (h : ∀ co cc w', Own w' w.heap.size e (.slice co m cc) news → m ≤ cc → cc ≤ 9223372036854775807 → (co = none → cc = 0) → Below w.heap.size w w' → wpList P ops Q rest (a.put o.dst (.slice co m cc)) w') :
    wpList P ops Q (o :: rest) a (w.alloc (.cells #[] e)) := by
  have hO : Own (w.alloc (.cells #[] e)) w.heap.size e (.slice (some ⟨w.heap.size, 0, none⟩) 0 0) [] := Own.made w #[] 0 (Nat.le_refl _) (by decide) rfl
  refine wpList_own_app hgd s x t ho w.heap.size e i z bytes ht hi hz hsize hby hzs (.slice (some ⟨w.heap.size, 0, none⟩) 0 0) [] _ hs hO ao m c news hx hnil hl (hnews.alloc _) h1 (by simpa using h63) (by simpa using hbytes) (by simp) ?_
  intro v' w' ho' hg'
  have hb : Below w.heap.size w w' := ((Below.refl _ _).alloc (Nat.le_refl _) _).trans (hg'.out (by simp) (fun g hg => (hO.lt g hg).1))
  rw [List.nil_append] at ho'
  obtain ⟨co, cc, rfl, h2, h3, h4, h5, _, _⟩ := ho'.shape
  rw [hl] at h2 ho' ⊢
  exact h co cc w' ho' h2 (by simpa [maxLen] using h3) h4 hb
end

end Go.Proofs.Ytkapdagmffbbhaa
