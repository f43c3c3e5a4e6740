/- Field: the texts FieldA, FieldB, FieldC, FieldD, FieldE, FieldF, FieldG, FieldH, FieldI, FieldJ, FieldK, FieldL, FieldM, one behind the other. -/
import Derived.Test.YtgdefibkemkejaaRows
import Derived.Test.YtgdefibkemkejaaGBase
import Derived.Lib.SlBytesConst
/- field.put lays a number's bytes behind others. -/
namespace Go.Proofs.Ytgdefibkemkejaa
open Go.ChangeShapes Go.WideShapes Go.ChangeAt Go.RowKit
set_option linter.unusedVariables false
set_option maxRecDepth 20000

theorem two_pow_cast (k : Nat) : (2 : Int) ^ (8 * k) = ((256 ^ k : Nat) : Int) := by
  rw [← two_pow_8 k, Int.natCast_pow]; rfl

theorem put_byte (z k : Nat) : Value.int .u8 ((z : Int) / 2 ^ (8 * k) % 256) = byteV (UInt8.ofNat (z / 256 ^ k % 256)) := by
  unfold byteV
  congr 1
  rw [two_pow_cast, ← Int.natCast_ediv]
  rw [show (256 : Int) = ((256 : Nat) : Int) from rfl, ← Int.natCast_emod]
  congr 1
  simp

set_option maxHeartbeats 1000000 in
theorem fPut_any (base : Nat) (v : Value) (bs : List UInt8) (width z : Nat) (w : World) (hown : Own w base 5 v (bytesV bs)) (hbase : base ≤ w.heap.size) (hw : width ≤ 8) (hz : z < 18446744073709551616) (hl : bs.length + 8 ≤ 140737488355328) :
    Calls Try.prog 79 #[v, .int .i64 (width : Int), .int .u64 (z : Int)] w fun e w' => ∃ v', e = .returned v' ∧ Own w' base 5 v' (bytesV (bs ++ leB width z)) ∧ Grew w w' v v' := by
  obtain ⟨i0, hi, hz0, hz1, hz2⟩ := info_parts infoU8
  have hown := Lib.hid hown
  go_enter Try.func79, Try.ntmps79
  go_wp2
  go_loopw [0, 7, 9] (fun b i j wr => ∃ k : Nat, k ≤ width ∧ j = .int .i64 k ∧ Own wr base 5 b (bytesV (bs ++ leB k z)) ∧ Grew w wr v b)
    (fun _ _ j _ => width - (intOf j).toNat)
  case atStart => exact ⟨0, by omega, rfl, by simpa [leB] using hown.out, Grew.refl _ _⟩
  case round =>
    obtain ⟨k, hk, rfl, ho, hg⟩ := hrel
    by_cases hlt : k < width
    · have ho := Lib.hid ho
      have hsz := hg.size
      have hg := Lib.hid hg
      go_wp2_with (at_builtin; go_loud (refine wpList_own_push rfl _ _ 39 rfl base 5 i0 (.int .u8 0) 1 Try.underlying39 hi hz0 hz1 hz2 rfl u0 _ wr rfl ho.out 1 (.int .u8 ((z : Int) / 2 ^ (8 * k) % 256)) rfl rfl (by simp [bytesV_length, leB_length]; omega) (by simp [bytesV_length, leB_length]; omega) (by omega) ?_); intro v' w' ho' hg'; have ho' := Lib.hid ho'; have hg' := Lib.hid hg')
      go_roundw
      case rel => exact ⟨k + 1, by omega, by go_num, (by have := ho'.out; rw [put_byte] at this; simpa [leB_snoc, bytesV] using this), hg.out.trans hg'.out⟩
      case measure => simp [intOf] <;> omega
    · obtain rfl : k = width := by omega
      go_wp2
      go_ret
      exact ⟨_, rfl, ho, hg⟩
end Go.Proofs.Ytgdefibkemkejaa

/- field.get, the document's Value and Number. -/
namespace Go.Proofs.Ytgdefibkemkejaa
open Go.ChangeShapes Go.WideShapes Go.ChangeAt Go.RowKit
set_option linter.unusedVariables false
set_option maxRecDepth 20000

theorem Bytes.at {w : World} {ao : Option Addr} {bs : List UInt8} (h : Bytes w ao bs) {k : Nat} (hk : k < bs.length) :
    ∃ b off, ao = some ⟨b, off, none⟩ ∧ w.cell? ⟨b, off + k, none⟩ = some (.int .u8 (bs[k].toNat : Int)) ∧ b < w.heap.size := by
  obtain ⟨b, off, e, c, hb⟩ := Reads.at h (k := k) (by simpa [bytesV_length] using hk)
  exact ⟨b, off, e, by rw [c]; simp [bytesV, byteV], hb⟩

theorem take_snoc_b {α : Type} (l : List α) (k : Nat) (h : k < l.length) : l.take (k + 1) = l.take k ++ [l[k]] := by
  rw [List.take_succ_eq_append_getElem h]

theorem get_step (bs : List UInt8) (k : Nat) (hk : k < bs.length) (hl : bs.length ≤ 8) :
    Value.int IntKind.u64 (bits BinOp.or IntKind.u64 (↑(valB (List.take k bs))) (IntKind.u64.wrap (IntKind.u64.wrap ↑bs[k].toNat * 2 ^ (8 * k)))) = Value.int IntKind.u64 ↑(valB (List.take (k + 1) bs)) := by
  have hx := bs[k].toNat_lt
  have hlen : (bs.take k).length = k := by simp; omega
  have h1 := valB_lt (bs.take k)
  rw [hlen] at h1
  have h2 := pow_le_64 (k := k) (by omega)
  have h3 := pow_le_64 (k := k + 1) (by omega)
  have h4 := valB_lt_64 (bs.take (k + 1)) (by simp; omega)
  have e := take_snoc_b bs k hk
  have e2 : valB (bs.take (k + 1)) = valB (bs.take k) + bs[k].toNat * 256 ^ k := by rw [e, valB_snoc, hlen]
  have h5 : bs[k].toNat * 256 ^ k < 18446744073709551616 := by omega
  congr 1
  rw [IntWalk.u64_in (bs[k].toNat : Int) (by omega), two_pow_cast, ← Int.natCast_mul, IntWalk.u64_in ((bs[k].toNat * 256 ^ k : Nat) : Int) (by omega), u64_or_nat _ _ (by omega) h5]
  congr 1
  rw [e2, Nat.or_comm, Nat.mul_comm, ← two_pow_8 k, ← Nat.two_pow_add_eq_or_of_lt (by rw [two_pow_8]; omega)]
  omega

set_option maxHeartbeats 1000000 in
theorem get_any (ao : Option Addr) (cap : Nat) (bs : List UInt8) (w : World) (hx : Bytes w ao bs) (hl : bs.length ≤ 8) :
    Calls Try.prog 78 #[.slice ao bs.length cap] w fun e w' => e = .returned (.int .u64 (valB bs : Int)) ∧ w = w' := by
  have hx := Lib.hid hx
  go_enter Try.func78, Try.ntmps78
  go_wp2
  go_loop [3, 4, 5, 8] (fun n i x j => ∃ k : Nat, k ≤ bs.length ∧ j = .int .i64 k ∧ n = .int .u64 (valB (bs.take k) : Int))
    (fun _ _ _ j => bs.length - (intOf j).toNat)
  case atStart => exact ⟨0, by omega, rfl, rfl⟩
  case round =>
    obtain ⟨k, hk, rfl, rfl⟩ := hrel
    by_cases hlt : k < bs.length
    · obtain ⟨b, off, rfl, c, hb⟩ := hx.out.at hlt
      go_wp2
      go_round
      case rel => refine ⟨k + 1, by omega, by go_num, get_step bs k hlt hl⟩
      case measure => simp [intOf] <;> omega
    · obtain rfl : k = bs.length := by omega
      go_wp2
      go_ret
      exact ⟨rfl, rfl⟩

theorem value_step (bs : List UInt8) (k : Nat) (hk : k < bs.length) (hl : bs.length ≤ 8) :
    (valB (bs.drop (k + 1)) : Int) * 256 + (bs[k].toNat : Int) = (valB (bs.drop k) : Int) := by
  rw [List.drop_eq_getElem_cons hk]
  simp only [valB]
  rw [Int.natCast_add, Int.natCast_mul]
  omega

/-- does the number have no more bytes? -/
def fitsB (k z : Nat) : Bool := decide (z < 256 ^ k)

theorem num_byte (q : Nat) : Value.int .u8 ((q : Int) % 256) = byteV (UInt8.ofNat (q % 256)) := by
  unfold byteV
  congr 1
  simp

end Go.Proofs.Ytgdefibkemkejaa

/- field.total, field.cut, bytes.Clone. -/
namespace Go.Proofs.Ytgdefibkemkejaa
open Go.ChangeShapes Go.WideShapes Go.ChangeAt Go.RowKit
set_option linter.unusedVariables false
set_option maxRecDepth 20000

def intsV (zs : List Int) : List Value := zs.map (.int .i64)
def Ints (w : World) (ao : Option Addr) (zs : List Int) : Prop := Reads w ao (intsV zs)
def I64s (zs : List Int) : Prop := (∀ z ∈ zs, I64 z) ∧ zs.length * 8 ≤ 140737488351232

theorem intsV_length (zs : List Int) : (intsV zs).length = zs.length := by simp [intsV]
theorem intsV_append (a b : List Int) : intsV (a ++ b) = intsV a ++ intsV b := by simp [intsV]
theorem intsV_one (zs : List Int) : ∀ u ∈ intsV zs, u.oneCell' = true := by
  intro u hu
  simp only [intsV, List.mem_map] at hu
  obtain ⟨b, _, rfl⟩ := hu
  rfl

theorem Ints.at {w : World} {ao : Option Addr} {zs : List Int} (h : Ints w ao zs) (hf : I64s zs) {k : Nat} (hk : k < zs.length) :
    ∃ b off z, ao = some ⟨b, off, none⟩ ∧ w.cell? ⟨b, off + k, none⟩ = some (.int .i64 z) ∧ b < w.heap.size ∧ Hid (zs[k]? = some z) ∧ Hid (zs.drop k = z :: zs.drop (k + 1)) ∧ Hid (zs.take (k + 1) = zs.take k ++ [z]) ∧ -9223372036854775808 ≤ z ∧ z ≤ 9223372036854775807 := by
  obtain ⟨b, off, e, c, hb⟩ := Reads.at h (k := k) (by simpa [intsV_length] using hk)
  obtain ⟨h1, h2⟩ := hf.1 _ (List.getElem_mem hk)
  exact ⟨b, off, _, e, by rw [c]; simp [intsV], hb, List.getElem?_eq_getElem hk, List.drop_eq_getElem_cons hk, take_snoc_b zs k hk, h1, h2⟩

/-- are these widths? -/
def okW : List Int → Bool
  | [] => true
  | x :: r => decide (1 ≤ x ∧ x ≤ 8) && okW r
/-- how many bytes they have together -/
def sumW : List Int → Nat
  | [] => 0
  | x :: r => x.toNat + sumW r

theorem okW_mem {ws : List Int} (h : okW ws = true) : ∀ x ∈ ws, 1 ≤ x ∧ x ≤ 8 := by
  induction ws with
  | nil => intro x hx; cases hx
  | cons a r ih =>
    simp only [okW, Bool.and_eq_true, decide_eq_true_iff] at h
    intro x hx
    rcases List.mem_cons.1 hx with rfl | hx
    · exact h.1
    · exact ih h.2 x hx

theorem okW_of {ws : List Int} (h : ∀ x ∈ ws, 1 ≤ x ∧ x ≤ 8) : okW ws = true := by
  induction ws with
  | nil => rfl
  | cons a r ih =>
    simp only [okW, Bool.and_eq_true, decide_eq_true_iff]
    exact ⟨h a (by simp), ih fun x hx => h x (by simp [hx])⟩

theorem sumW_le {ws : List Int} (h : okW ws = true) : sumW ws ≤ 8 * ws.length := by
  induction ws with
  | nil => simp [sumW]
  | cons a r ih =>
    simp only [okW, Bool.and_eq_true, decide_eq_true_iff] at h
    have := ih h.2
    simp only [sumW, List.length_cons]
    omega

theorem sumW_append (a b : List Int) : sumW (a ++ b) = sumW a + sumW b := by
  induction a with
  | nil => simp [sumW]
  | cons x r ih => simp only [List.cons_append, sumW, ih]; omega

def totalN (ws : List Int) : Nat := if okW ws then sumW ws else 0

set_option maxHeartbeats 1000000 in
theorem total_any (ao : Option Addr) (cap : Nat) (ws : List Int) (w : World) (hx : Ints w ao ws) (hf : I64s ws) :
    Calls Try.prog 77 #[.slice ao ws.length cap] w fun e w' => e = .returned (.tuple #[.int .i64 (totalN ws : Int), .bool (okW ws)]) ∧ w = w' := by
  have hl := hf.2
  have hx := Lib.hid hx
  have hf := Lib.hid hf
  go_enter Try.func77, Try.ntmps77
  go_wp2
  go_loop [4, 6, 9] (fun n x j => ∃ k s : Nat, k ≤ ws.length ∧ j = .int .i64 k ∧ n = .int .i64 (s : Int) ∧ s ≤ 8 * k ∧ Hid (s + sumW (ws.drop k) = sumW ws ∧ okW ws = okW (ws.drop k)))
    (fun _ _ j => ws.length - (intOf j).toNat)
  case atStart => exact ⟨0, 0, by omega, rfl, rfl, by omega, Lib.hid (by simp)⟩
  case round =>
    obtain ⟨k, s, hk, rfl, rfl, hs, hh⟩ := hrel
    by_cases hlt : k < ws.length
    · obtain ⟨b, off, z, rfl, c, hb, _, hd, _, hz1, hz2⟩ := hx.out.at hf.out hlt
      by_cases h1 : 1 ≤ z
      · by_cases h8 : z ≤ 8
        · go_wp2
          go_round
          case rel => exact ⟨k + 1, s + z.toNat, by omega, by go_num, (by congr 1; omega), by omega, Lib.hid (by
            have := hh.out
            rw [hd.out] at this
            simp only [sumW, okW, h1, h8] at this
            exact ⟨by omega, by simpa using this.2⟩)⟩
          case measure => simp [intOf] <;> omega
        · have hno : Hid (okW ws = false ∧ totalN ws = 0) := Lib.hid (by
            have : okW ws = false := by rw [hh.out.2, hd.out]; simp [okW, h8]
            exact ⟨this, by simp [totalN, this]⟩)
          go_wp2
          go_ret2
          rw [hno.out.1, hno.out.2]
          exact ⟨rfl, rfl⟩
      · have hno : Hid (okW ws = false ∧ totalN ws = 0) := Lib.hid (by
          have : okW ws = false := by rw [hh.out.2, hd.out]; simp [okW, h1]
          exact ⟨this, by simp [totalN, this]⟩)
        go_wp2
        go_ret2
        rw [hno.out.1, hno.out.2]
        exact ⟨rfl, rfl⟩
    · have hyes : Hid (okW ws = true ∧ totalN ws = s) := Lib.hid (by
        have e := List.drop_of_length_le (i := k) (l := ws) (by omega)
        have h1 := hh.out
        rw [e] at h1
        have : okW ws = true := by rw [h1.2]; rfl
        exact ⟨this, by simp [totalN, this]; simp [sumW] at h1; omega⟩)
      obtain rfl : k = ws.length := by omega
      go_wp2
      go_ret2
      rw [hyes.out.1, hyes.out.2]
      exact ⟨rfl, rfl⟩

theorem cells5 : ∀ w, (Go.sizeOf 5).run Try.prog w = .ok 1 w := fun _ => by kernel_rfl

end Go.Proofs.Ytgdefibkemkejaa

/- Lists of numbers and of texts in memory; the document's SameNums and SameTexts. -/
namespace Go.Proofs.Ytgdefibkemkejaa
open Go.ChangeShapes Go.WideShapes Go.ChangeAt Go.RowKit
set_option linter.unusedVariables false
set_option maxRecDepth 20000

theorem infoU64 : (Try.prog.info? 29).map (fun i => (i.zero, i.size, i.bytes)) = some (some (.int .u64 0), 1, 8) := by kernel_rfl
theorem infoBytes : (Try.prog.info? 39).map (fun i => (i.zero, i.size, i.bytes)) = some (some (.slice none 0 0), 1, 24) := by kernel_rfl

def u64V (zs : List Nat) : List Value := zs.map fun z : Nat => .int .u64 (z : Int)
def U64s (w : World) (ao : Option Addr) (zs : List Nat) : Prop := Reads w ao (u64V zs)
def Fit64 (zs : List Nat) : Prop := (∀ z ∈ zs, z < 18446744073709551616) ∧ zs.length * 8 ≤ 140737488351232

theorem u64V_length (zs : List Nat) : (u64V zs).length = zs.length := by simp [u64V]
theorem u64V_append (a b : List Nat) : u64V (a ++ b) = u64V a ++ u64V b := by simp [u64V]
theorem u64V_one (zs : List Nat) : ∀ u ∈ u64V zs, u.oneCell' = true := by
  intro u hu
  simp only [u64V, List.mem_map] at hu
  obtain ⟨b, _, rfl⟩ := hu
  rfl

theorem U64s.at {w : World} {ao : Option Addr} {zs : List Nat} (h : U64s w ao zs) (hf : Fit64 zs) {k : Nat} (hk : k < zs.length) :
    ∃ b off z, ao = some ⟨b, off, none⟩ ∧ w.cell? ⟨b, off + k, none⟩ = some (.int .u64 ((z : Nat) : Int)) ∧ b < w.heap.size ∧ Hid (zs[k]? = some z) ∧ Hid (zs.drop k = z :: zs.drop (k + 1)) ∧ Hid (zs.take (k + 1) = zs.take k ++ [z]) ∧ z < 18446744073709551616 := by
  obtain ⟨b, off, e, c, hb⟩ := Reads.at h (k := k) (by simpa [u64V_length] using hk)
  exact ⟨b, off, zs[k], e, by rw [c]; simp [u64V], hb, List.getElem?_eq_getElem hk, List.drop_eq_getElem_cons hk, take_snoc_b zs k hk, hf.1 _ (List.getElem_mem hk)⟩

/-- texts in memory -/
def Texts (w : World) (ao : Option Addr) (ts : List (List UInt8)) : Prop :=
  ∃ cs : List Value, cs.length = ts.length ∧ Reads w ao cs ∧ ∀ i (h : i < ts.length), ∃ bo cap, cs[i]? = some (.slice bo ts[i].length cap) ∧ ts[i].length ≤ cap ∧ cap ≤ maxLen ∧ (bo = none → cap = 0) ∧ Bytes w bo ts[i]

theorem Texts.below {w w' : World} {ao : Option Addr} {ts : List (List UInt8)} (h : Texts w ao ts) (hb : Below w.heap.size w w') : Texts w' ao ts := by
  obtain ⟨cs, h1, h2, h3⟩ := h
  refine ⟨cs, h1, h2.below hb, fun i hi => ?_⟩
  obtain ⟨bo, cap, k1, k2, k3, k4, k5⟩ := h3 i hi
  exact ⟨bo, cap, k1, k2, k3, k4, Reads.below k5 hb⟩

theorem Texts.nil (w : World) (ao : Option Addr) : Texts w ao [] := ⟨[], rfl, Reads.nil _ _, fun i hi => by simp at hi⟩

theorem Texts.at {w : World} {ao : Option Addr} {ts : List (List UInt8)} (h : Texts w ao ts) {k : Nat} (hk : k < ts.length) :
    ∃ b off t bo cap, ao = some ⟨b, off, none⟩ ∧ w.cell? ⟨b, off + k, none⟩ = some (.slice bo (t : List UInt8).length cap) ∧ b < w.heap.size ∧ Hid (ts.drop k = t :: ts.drop (k + 1)) ∧ Hid (ts.take (k + 1) = ts.take k ++ [t]) ∧
      t.length ≤ cap ∧ cap ≤ 9223372036854775807 ∧ Hid (bo = none → cap = 0) ∧ Hid (Bytes w bo t) ∧ Hid (t ∈ ts) := by
  obtain ⟨cs, h1, h2, h3⟩ := h
  obtain ⟨bo, cap, k1, k2, k3, k4, k5⟩ := h3 k hk
  obtain ⟨b, off, e, c, hb⟩ := h2.at (k := k) (by omega)
  rw [List.getElem?_eq_getElem (by omega)] at k1
  injection k1 with k1
  exact ⟨b, off, ts[k], bo, cap, e, by rw [c, k1], hb, List.drop_eq_getElem_cons hk, take_snoc_b ts k hk, k2, by simpa [maxLen] using k3, k4, k5, List.getElem_mem hk⟩

/-- texts of the call's own -/
def OwnT (w : World) (base : Nat) (v : Value) (ts : List (List UInt8)) : Prop :=
  ∃ vs : List Value, vs.length = ts.length ∧ Own w base 39 v vs ∧ ∀ i (h : i < ts.length), ∃ u, vs[i]? = some u ∧ Own w base 5 u (bytesV ts[i])

theorem OwnT.nil (w : World) (base : Nat) : OwnT w base (.slice none 0 0) [] := ⟨[], rfl, Own.nil _ _ _, fun i hi => by simp at hi⟩

theorem OwnT.below {w w' : World} {base : Nat} {v : Value} {ts : List (List UInt8)} (h : OwnT w base v ts) (hb : Below w.heap.size w w') : OwnT w' base v ts := by
  obtain ⟨vs, h1, h2, h3⟩ := h
  refine ⟨vs, h1, h2.below hb, fun i hi => ?_⟩
  obtain ⟨u, k1, k2⟩ := h3 i hi
  exact ⟨u, k1, k2.below hb⟩

theorem OwnT.le {w : World} {base base' : Nat} {v : Value} {ts : List (List UInt8)} (h : OwnT w base v ts) (hb : base' ≤ base) : OwnT w base' v ts := by
  obtain ⟨vs, h1, h2, h3⟩ := h
  refine ⟨vs, h1, h2.le hb, fun i hi => ?_⟩
  obtain ⟨u, k1, k2⟩ := h3 i hi
  exact ⟨u, k1, k2.le hb⟩

theorem OwnT.shape {w : World} {base : Nat} {v : Value} {ts : List (List UInt8)} (h : OwnT w base v ts) : ∃ ao cap, v = .slice ao ts.length cap ∧ ts.length ≤ cap ∧ (ao = none → cap = 0) ∧ Texts w ao ts := by
  obtain ⟨vs, h1, h2, h3⟩ := h
  obtain ⟨ao, cap, hv, hc, hm, hn, hr, _, _⟩ := h2.shape
  rw [h1] at hv hc
  refine ⟨ao, cap, hv, hc, hn, vs, h1, hr, fun i hi => ?_⟩
  obtain ⟨u, k1, k2⟩ := h3 i hi
  obtain ⟨bo, cc, hu, hc', hm', hn', hr', _, _⟩ := k2.shape
  rw [bytesV_length] at hu hc'
  exact ⟨bo, cc, by rw [k1, hu], hc', hm', hn', hr'⟩

/-- one text more -/
theorem OwnT.push {w w' : World} {base : Nat} {v v' u : Value} {vs : List Value} {ts : List (List UInt8)} {t : List UInt8} (h1 : vs.length = ts.length) (h2 : Own w base 39 v vs)
    (h3 : ∀ i (h : i < ts.length), ∃ u, vs[i]? = some u ∧ Own w base 5 u (bytesV ts[i])) (hu : Own w base 5 u (bytesV t)) (ho : Own w' base 39 v' (vs ++ [u])) (hg : Grew w w' v v') : OwnT w' base v' (ts ++ [t]) := by
  refine ⟨vs ++ [u], by simp [h1], ho, fun i hi => ?_⟩
  by_cases hlt : i < ts.length
  · obtain ⟨x, k1, k2⟩ := h3 i hlt
    refine ⟨x, by rw [List.getElem?_append_left (by omega), k1], ?_⟩
    rw [List.getElem_append_left hlt]
    exact k2.grown hg.1 (k2.ne h2 (by decide))
  · obtain rfl : i = ts.length := by simp at hi; omega
    refine ⟨u, by rw [← h1]; simp, ?_⟩
    simp only [List.getElem_concat_length]
    exact hu.grown hg.1 (hu.ne h2 (by decide))

theorem eq_of_drop {α : Type} {xs ys : List α} {k : Nat} {s s' : α} (h : xs.drop k = s :: xs.drop (k + 1)) (h' : ys.drop k = s' :: ys.drop (k + 1)) (hne : s ≠ s') : xs ≠ ys := by
  rintro rfl
  rw [h] at h'
  injection h' with e _
  exact hne e

end Go.Proofs.Ytgdefibkemkejaa

/- field.Put and the document's Put answer the same bytes, for every input. -/
namespace Go.Proofs.Ytgdefibkemkejaa
open Go.ChangeShapes Go.WideShapes Go.ChangeAt Go.RowKit
set_option linter.unusedVariables false
set_option maxRecDepth 20000

/-- numbers as bytes -/
def putL : List Int → List Nat → Option (List UInt8)
  | [], [] => some []
  | x :: ws, z :: zs => if 1 ≤ x ∧ x ≤ 8 ∧ z < 256 ^ x.toNat then (putL ws zs).map (leB x.toNat z ++ ·) else none
  | _, _ => none

theorem putL_length {ws : List Int} {zs : List Nat} {b : List UInt8} (h : putL ws zs = some b) : ws.length = zs.length ∧ okW ws = true ∧ b.length = sumW ws := by
  induction ws generalizing zs b with
  | nil =>
    cases zs with
    | nil => simp [putL] at h; subst h; exact ⟨rfl, rfl, rfl⟩
    | cons z zs => simp [putL] at h
  | cons x ws ih =>
    cases zs with
    | nil => simp [putL] at h
    | cons z zs =>
      unfold putL at h
      split at h
      · rename_i hc
        cases h' : putL ws zs with
        | none => rw [h'] at h; simp at h
        | some b' =>
          rw [h'] at h
          simp at h
          subst h
          obtain ⟨h1, h2, h3⟩ := ih h'
          refine ⟨by simp [h1], by simp [okW, h2, hc.1, hc.2.1], by simp [leB_length, h3, sumW]⟩
      · cases h

theorem putL_bad_len {ws : List Int} {zs : List Nat} (h : ws.length ≠ zs.length) : putL ws zs = none := by
  cases e : putL ws zs with
  | none => rfl
  | some b => exact absurd (putL_length e).1 h
theorem putL_bad_w {ws : List Int} {zs : List Nat} (h : okW ws = false) : putL ws zs = none := by
  cases e : putL ws zs with
  | none => rfl
  | some b => have := (putL_length e).2.1; rw [h] at this; cases this

/-- the error's number -/
def errN {α : Type} (o : Option α) : Int := match o with | some _ => 0 | none => 21

theorem shr_zero {z n : Nat} (h : z < 256 ^ n) : (z : Int) / 2 ^ (8 * n) = 0 := by
  rw [two_pow_cast, ← Int.natCast_ediv, Nat.div_eq_of_lt h]; rfl
theorem shr_pos {z n : Nat} (h : ¬ z < 256 ^ n) : ((z : Int) / 2 ^ (8 * n) != 0) = true := by
  rw [two_pow_cast, ← Int.natCast_ediv]
  have hp : 0 < 256 ^ n := Nat.pow_pos (by omega)
  have : 0 < z / 256 ^ n := Nat.div_pos (by omega) hp
  simp only [bne_iff_ne, ne_eq]
  omega

theorem Option.map_map' {α β γ : Type} (f : α → β) (g : β → γ) (o : Option α) : (o.map f).map g = o.map (fun x => g (f x)) := by cases o <;> rfl

theorem putL_step {ws : List Int} {zs : List Nat} {k n z : Nat} {bs : List UInt8} (h : putL ws zs = (putL (ws.drop k) (zs.drop k)).map (bs ++ ·)) (hw : ws.drop k = (n : Int) :: ws.drop (k + 1)) (hz : zs.drop k = z :: zs.drop (k + 1)) (h1 : 1 ≤ n) (h8 : n ≤ 8) (hf : z < 256 ^ n) :
    putL ws zs = (putL (ws.drop (k + 1)) (zs.drop (k + 1))).map ((bs ++ leB n z) ++ ·) := by
  rw [h, hw, hz]
  have e : (n : Int).toNat = n := by omega
  have hc : 1 ≤ (n : Int) ∧ (n : Int) ≤ 8 ∧ z < 256 ^ n := ⟨by omega, by omega, hf⟩
  simp only [putL, if_pos hc, Option.map_map', e, List.append_assoc]

theorem putL_stop {ws : List Int} {zs : List Nat} {k n z : Nat} {bs : List UInt8} (h : putL ws zs = (putL (ws.drop k) (zs.drop k)).map (bs ++ ·)) (hw : ws.drop k = (n : Int) :: ws.drop (k + 1)) (hz : zs.drop k = z :: zs.drop (k + 1)) (hf : ¬ z < 256 ^ n) :
    putL ws zs = none := by
  rw [h, hw, hz]
  have e : (n : Int).toNat = n := by omega
  have hc : ¬ (1 ≤ (n : Int) ∧ (n : Int) ≤ 8 ∧ z < 256 ^ (n : Int).toNat) := by rw [e]; exact fun hh => hf hh.2.2
  simp only [putL, if_neg hc, Option.map_none]

theorem putL_end {ws : List Int} {zs : List Nat} {k : Nat} {bs : List UInt8} (h : putL ws zs = (putL (ws.drop k) (zs.drop k)).map (bs ++ ·)) (h1 : ws.length ≤ k) (h2 : zs.length ≤ k) : putL ws zs = some bs := by
  rw [h, List.drop_of_length_le h1, List.drop_of_length_le h2]; simp [putL]

/-- what a Put answers -/
def PutRes (o : Option (List UInt8)) (w : World) (e : Ending) (w' : World) : Prop :=
  ∃ v, e = .returned (.tuple #[v, .int .i64 (errN o)]) ∧ Own w' w.heap.size 5 v (bytesV (o.getD [])) ∧ Below w.heap.size w w'

theorem PutRes.no {o : Option (List UInt8)} {w w' : World} {e : Ending} (ho : o = none) (he : e = .returned (.tuple #[.slice none 0 0, .int .i64 21])) (hb : Below w.heap.size w w') : PutRes o w e w' := by
  subst ho
  exact ⟨_, he, Own.nil _ _ _, hb⟩

theorem madeB (s : Nat) : (Value.int .u8 0).cells = #[.int .u8 0] := rfl

set_option maxHeartbeats 2000000 in
theorem Put_any (ao bo : Option Addr) (cap cap' : Nat) (ws : List Int) (zs : List Nat) (w : World) (hx : Ints w ao ws) (hy : U64s w bo zs) (hf : I64s ws) (hg : Fit64 zs) :
    Calls Try.prog 74 #[.slice ao ws.length cap, .slice bo zs.length cap'] w (PutRes (putL ws zs) w) := by
  obtain ⟨i0, hi, hz0, hz1, hz2⟩ := info_parts infoU8
  have hl := hf.2
  have hl' := hg.2
  have hx := Lib.hid hx
  have hy := Lib.hid hy
  have hT := Lib.hid (total_any ao cap ws w hx.out hf)
  have hf := Lib.hid hf
  have hg := Lib.hid hg
  cases hok : okW ws with
  | false =>
    have hno := Lib.hid (putL_bad_w (zs := zs) hok)
    have hT0 := hT.out
    rw [hok] at hT0
    clear hT
    have hT := Lib.hid hT0
    clear hT0 hok
    go_enter Try.func74, Try.ntmps74
    go_wp2_with fail
    refine hT.out.mono ?_
    rintro e w' ⟨rfl, rfl⟩
    go_wp2
    go_ret2
    exact PutRes.no hno.out rfl (Below.refl _ _)
  | true =>
    have hs := sumW_le hok
    have hT0 := hT.out
    rw [hok, show totalN ws = sumW ws from by simp [totalN, hok]] at hT0
    clear hT
    have hT := Lib.hid hT0
    clear hT0
    by_cases hlen : zs.length = ws.length
    · have hne : ((zs.length : Int) != (ws.length : Int)) = false := by simp [hlen]
      have hok := Lib.hid hok
      have hlen := Lib.hid hlen
      have hmk := fun w => run_make1 (P := Try.prog) 39 5 i0 (.int .u8 0) Try.underlying39 hi hz0 hz1 (sumW ws) (by rw [hz2]; omega) (by omega) w
      have hO := Lib.hid (Own.madeN w (Value.int .u8 0).cells (sumW ws) (base := w.heap.size) (e := 5) (Nat.le_refl _) (by unfold maxLen; omega))
      have hB := Lib.hid ((Below.refl w.heap.size w).alloc (Nat.le_refl _) (.cells (madeCells (Value.int .u8 0).cells (sumW ws)) 5))
      generalize hS : sumW ws = S at *
      clear hS
      go_enter Try.func74, Try.ntmps74
      go_wp2_with fail
      refine hT.out.mono ?_
      rintro e w' ⟨rfl, rfl⟩
      clear hT
      go_wp2
      go_loopw [8, 9, 10, 29] (fun b _ _ j wr => ∃ (k : Nat) (bs : List UInt8), k ≤ ws.length ∧ j = .int .i64 k ∧ bs.length ≤ 8 * k ∧ Own wr w.heap.size 5 b (bytesV bs) ∧ Hid (putL ws zs = (putL (ws.drop k) (zs.drop k)).map (bs ++ ·)) ∧ Below w.heap.size w wr)
        (fun _ _ _ j _ => ws.length - (intOf j).toNat)
      case atStart => exact ⟨0, [], by omega, rfl, by simp, hO.out, Lib.hid (by simp), hB.out⟩
      case round =>
        obtain ⟨k, bs, hk, rfl, hbl, ho, hh, hb⟩ := hrel
        by_cases hlt : k < ws.length
        · have hlt' : k < zs.length := by have := hlen.out; omega
          obtain ⟨b, off, x, rfl, c1, hbb, hxk, hd, _, hx1, hx2⟩ := (show Ints _ _ _ from Reads.below hx.out hb).at hf.out hlt
          obtain ⟨b', off', z, rfl, c1', hbb', _, hd', _, hz⟩ := (show U64s _ _ _ from Reads.below hy.out hb).at hg.out hlt'
          obtain ⟨h1, h8⟩ := okW_mem hok.out x (List.mem_of_getElem? hxk.out)
          obtain ⟨n, rfl⟩ := Int.eq_ofNat_of_zero_le (a := x) (by omega)
          have h1 : 1 ≤ n := by omega
          have h8 : n ≤ 8 := by omega
          have hsz := hb.size
          have ho := Lib.hid ho
          have hb := Lib.hid hb
          by_cases hfit : z < 256 ^ n
          · have hq := shr_zero hfit
            have hfit := Lib.hid hfit
            go_wp2_with fail
            refine (fPut_any w.heap.size _ bs n z wr ho.out hsz h8 hz (by omega)).mono ?_
            rintro e w1 ⟨v1, rfl, ho1, hg1⟩
            have ho1 := Lib.hid ho1
            have hg1 := Lib.hid hg1
            go_wp2
            go_roundw
            case rel => exact ⟨k + 1, bs ++ leB n z, by omega, by go_num, by simp [leB_length]; omega, ho1.out, Lib.hid (putL_step hh.out hd.out hd'.out h1 h8 hfit.out), hb.out.trans (hg1.out.out hsz (fun g hg => (ho.out.lt g hg).1))⟩
            case measure => simp [intOf] <;> omega
          · have hq := shr_pos hfit
            have hno := Lib.hid (putL_stop hh.out hd.out hd'.out hfit)
            clear hfit
            go_wp2
            go_ret2
            exact PutRes.no hno.out rfl hb.out
        · have hend := Lib.hid (putL_end hh.out (by omega) (by have := hlen.out; omega))
          have ho := Lib.hid ho
          go_wp2
          go_ret2
          rw [hend.out]
          exact ⟨_, rfl, ho.out, hb⟩
    · have hne : ((zs.length : Int) != (ws.length : Int)) = true := by simp; omega
      have hno := Lib.hid (putL_bad_len (ws := ws) (zs := zs) (fun e => hlen e.symm))
      clear hlen hok
      go_enter Try.func74, Try.ntmps74
      go_wp2_with fail
      refine hT.out.mono ?_
      rintro e w' ⟨rfl, rfl⟩
      go_wp2
      go_ret2
      exact PutRes.no hno.out rfl (Below.refl _ _)
end Go.Proofs.Ytgdefibkemkejaa

/- The document's own Put answers the same. -/
namespace Go.Proofs.Ytgdefibkemkejaa
open Go.ChangeShapes Go.WideShapes Go.ChangeAt Go.RowKit
set_option linter.unusedVariables false
set_option maxRecDepth 20000

theorem putL_wide {ws : List Int} {zs : List Nat} {k : Nat} {x : Int} {bs : List UInt8} (h : putL ws zs = (putL (ws.drop k) (zs.drop k)).map (bs ++ ·)) (hw : ws.drop k = x :: ws.drop (k + 1)) (hf : ¬ (1 ≤ x ∧ x ≤ 8)) :
    putL ws zs = none := by
  rw [h, hw]
  cases zs.drop k with
  | nil => simp [putL]
  | cons z r =>
    have hc : ¬ (1 ≤ x ∧ x ≤ 8 ∧ z < 256 ^ x.toNat) := fun hh => hf ⟨hh.1, hh.2.1⟩
    simp only [putL, if_neg hc, Option.map_none]

end Go.Proofs.Ytgdefibkemkejaa

/- field.Get and the document's Get answer the same numbers, for every input. -/
namespace Go.Proofs.Ytgdefibkemkejaa
open Go.ChangeShapes Go.WideShapes Go.ChangeAt Go.RowKit
set_option linter.unusedVariables false
set_option maxRecDepth 20000

/-- the numbers of bytes -/
def getL : List Int → List UInt8 → Option (List Nat)
  | [], [] => some []
  | [], _ :: _ => none
  | x :: ws, b => if 1 ≤ x ∧ x ≤ 8 ∧ x.toNat ≤ b.length then (getL ws (b.drop x.toNat)).map (valB (b.take x.toNat) :: ·) else none

theorem getL_length {ws : List Int} {b : List UInt8} {zs : List Nat} (h : getL ws b = some zs) : okW ws = true ∧ b.length = sumW ws ∧ zs.length = ws.length := by
  induction ws generalizing b zs with
  | nil =>
    cases b with
    | nil => simp [getL] at h; subst h; exact ⟨rfl, rfl, rfl⟩
    | cons z zs => simp [getL] at h
  | cons x ws ih =>
    unfold getL at h
    split at h
    · rename_i hc
      cases h' : getL ws (b.drop x.toNat) with
      | none => rw [h'] at h; simp at h
      | some l =>
        rw [h'] at h
        simp at h
        subst h
        obtain ⟨h1, h2, h3⟩ := ih h'
        refine ⟨by simp [okW, h1, hc.1, hc.2.1], ?_, by simp [h3]⟩
        simp only [List.length_drop] at h2
        simp only [sumW]
        omega
    · cases h

theorem getL_bad {ws : List Int} {b : List UInt8} (h : okW ws = false ∨ b.length ≠ sumW ws) : getL ws b = none := by
  cases e : getL ws b with
  | none => rfl
  | some zs =>
    obtain ⟨h1, h2, _⟩ := getL_length e
    rcases h with h | h
    · rw [h] at h1; cases h1
    · exact absurd h2 h

theorem getL_fit {ws : List Int} {b : List UInt8} {zs : List Nat} (h : getL ws b = some zs) : ∀ z ∈ zs, z < 18446744073709551616 := by
  induction ws generalizing b zs with
  | nil =>
    cases b with
    | nil => simp [getL] at h; subst h; intro z hz; cases hz
    | cons z zs => simp [getL] at h
  | cons x ws ih =>
    unfold getL at h
    split at h
    · rename_i hc
      cases h' : getL ws (b.drop x.toNat) with
      | none => rw [h'] at h; simp at h
      | some l =>
        rw [h'] at h
        simp at h
        subst h
        intro z hz
        rcases List.mem_cons.1 hz with rfl | hz
        · exact valB_lt_64 _ (by simp; omega)
        · exact ih h' z hz
    · cases h

theorem getL_step {ws : List Int} {b r : List UInt8} {k n : Nat} {zs : List Nat} (h : getL ws b = (getL (ws.drop k) r).map (zs ++ ·)) (hw : ws.drop k = (n : Int) :: ws.drop (k + 1)) (h1 : 1 ≤ n) (h8 : n ≤ 8) (hf : n ≤ r.length) :
    getL ws b = (getL (ws.drop (k + 1)) (r.drop n)).map ((zs ++ [valB (r.take n)]) ++ ·) := by
  rw [h, hw]
  have e : (n : Int).toNat = n := by omega
  have hc : 1 ≤ (n : Int) ∧ (n : Int) ≤ 8 ∧ n ≤ r.length := ⟨by omega, by omega, hf⟩
  simp only [getL, e, if_pos hc, Option.map_map', List.append_assoc, List.singleton_append]

theorem getL_stop {ws : List Int} {b r : List UInt8} {k : Nat} {x : Int} {zs : List Nat} (h : getL ws b = (getL (ws.drop k) r).map (zs ++ ·)) (hw : ws.drop k = x :: ws.drop (k + 1)) (hf : ¬ (1 ≤ x ∧ x ≤ 8 ∧ x.toNat ≤ r.length)) :
    getL ws b = none := by
  rw [h, hw]
  simp only [getL, if_neg hf, Option.map_none]

theorem getL_end {ws : List Int} {b r : List UInt8} {k : Nat} {zs : List Nat} (h : getL ws b = (getL (ws.drop k) r).map (zs ++ ·)) (h1 : ws.length ≤ k) : getL ws b = if r.length = 0 then some zs else none := by
  rw [h, List.drop_of_length_le h1]
  cases r <;> simp [getL]

/-- what a Get answers -/
def GetRes (o : Option (List Nat)) (w : World) (e : Ending) (w' : World) : Prop :=
  ∃ v, e = .returned (.tuple #[v, .int .i64 (errN o)]) ∧ Own w' w.heap.size 29 v (u64V (o.getD [])) ∧ Below w.heap.size w w'

theorem GetRes.no {o : Option (List Nat)} {w w' : World} {e : Ending} (ho : o = none) (he : e = .returned (.tuple #[.slice none 0 0, .int .i64 21])) (hb : Below w.heap.size w w') : GetRes o w e w' := by
  subst ho
  exact ⟨_, he, Own.nil _ _ _, hb⟩

theorem Bytes.shift {w : World} {ao : Option Addr} {bs : List UInt8} (h : Bytes w ao bs) {cap l : Nat} (hc : bs.length ≤ cap) : Bytes w (shiftA ao cap l) (bs.drop l) := by
  have := Reads.shift h (cap := cap) (l := l) (by rw [bytesV_length]; exact hc)
  simpa [Bytes, bytesV] using this
theorem Bytes.take {w : World} {ao : Option Addr} {bs : List UInt8} (h : Bytes w ao bs) (n : Nat) : Bytes w ao (bs.take n) := by
  have := Reads.take h n
  simpa [Bytes, bytesV] using this

theorem sum_split {ws : List Int} {k : Nat} {x : Int} (hd : ws.drop k = x :: ws.drop (k + 1)) (ht : ws.take (k + 1) = ws.take k ++ [x]) : sumW (ws.drop k) = x.toNat + sumW (ws.drop (k + 1)) := by
  rw [hd]; rfl

theorem get_n (ro : Option Addr) (rc : Nat) (rs : List UInt8) (n : Nat) (w : World) (h : Bytes w ro rs) (hn : n ≤ rs.length) (h8 : n ≤ 8) :
    Calls Try.prog 78 #[.slice ro n rc] w fun e w' => e = .returned (.int .u64 (valB (rs.take n) : Int)) ∧ w = w' := by
  have hl : (rs.take n).length = n := by simp; omega
  have := get_any ro rc (rs.take n) w (by have := Reads.take h n; simpa [Bytes, bytesV] using this) (by omega)
  rwa [hl] at this

set_option maxHeartbeats 2000000 in
theorem Get_any (ao bo : Option Addr) (cap cap' : Nat) (ws : List Int) (bs : List UInt8) (w : World) (hx : Ints w ao ws) (hy : Bytes w bo bs) (hf : I64s ws) (hc : bs.length ≤ cap') (hm : cap' ≤ 9223372036854775807) :
    Calls Try.prog 71 #[.slice ao ws.length cap, .slice bo bs.length cap'] w (GetRes (getL ws bs) w) := by
  obtain ⟨i0, hi, hz0, hz1, hz2⟩ := info_parts infoU64
  have hl := hf.2
  have hx := Lib.hid hx
  have hy := Lib.hid hy
  have hT := Lib.hid (total_any ao cap ws w hx.out hf)
  have hf := Lib.hid hf
  cases hok : okW ws with
  | false =>
    have hno := Lib.hid (getL_bad (b := bs) (.inl hok))
    have hT0 := hT.out
    rw [hok] at hT0
    clear hT
    have hT := Lib.hid hT0
    clear hT0 hok
    go_enter Try.func71, Try.ntmps71
    go_wp2_with fail
    refine hT.out.mono ?_
    rintro e w' ⟨rfl, rfl⟩
    go_wp2
    go_ret2
    exact GetRes.no hno.out rfl (Below.refl _ _)
  | true =>
    have hs := sumW_le hok
    have hT0 := hT.out
    rw [hok, show totalN ws = sumW ws from by simp [totalN, hok]] at hT0
    clear hT
    have hT := Lib.hid hT0
    clear hT0
    by_cases hlen : bs.length = sumW ws
    · rw [← hlen] at hT
      have hok' := Lib.hid hok
      clear hok
      have hle := Lib.hid hlen
      clear hlen
      have hmk := fun w => run_make1 (P := Try.prog) 131 29 i0 (.int .u64 0) Try.underlying131 hi hz0 hz1 ws.length (by rw [hz2]; omega) (by omega) w
      have hO := Lib.hid (Own.madeN w (Value.int .u64 0).cells ws.length (base := w.heap.size) (e := 29) (Nat.le_refl _) (by unfold maxLen; omega))
      have hB := Lib.hid ((Below.refl w.heap.size w).alloc (Nat.le_refl _) (.cells (madeCells (Value.int .u64 0).cells ws.length) 29))
      go_enter Try.func71, Try.ntmps71
      go_wp2_with fail
      refine hT.out.mono ?_
      rintro e w' ⟨rfl, rfl⟩
      clear hT
      go_wp2
      go_loopw [1, 8, 10, 29] (fun c b _ j wr => ∃ (k : Nat) (zs : List Nat) (ro : Option Addr) (rs : List UInt8) (rc : Nat), k ≤ ws.length ∧ j = .int .i64 k ∧ c = .slice ro rs.length rc ∧ rs.length ≤ rc ∧ rc ≤ 9223372036854775807 ∧ Hid (Bytes w ro rs) ∧ Hid (rs.length = sumW (ws.drop k)) ∧ Hid (zs.length = k) ∧ Own wr w.heap.size 29 b (u64V zs) ∧ Hid (getL ws bs = (getL (ws.drop k) rs).map (zs ++ ·)) ∧ Below w.heap.size w wr)
        (fun _ _ _ j _ => ws.length - (intOf j).toNat)
      case atStart => exact ⟨0, [], bo, bs, cap', by omega, rfl, rfl, hc, by omega, hy, hle, Lib.hid rfl, hO.out, Lib.hid (by simp), hB.out⟩
      case round =>
        obtain ⟨k, zs, ro, rs, rc, hk, rfl, rfl, hrc, hrm, hr, hrl, hzl, ho, hh, hb⟩ := hrel
        by_cases hlt : k < ws.length
        · obtain ⟨b, off, x, rfl, c1, hbb, hxk, hd, _, hx1, hx2⟩ := (show Ints _ _ _ from Reads.below hx.out hb).at hf.out hlt
          obtain ⟨h1, h8⟩ := okW_mem hok'.out x (List.mem_of_getElem? hxk.out)
          obtain ⟨n, rfl⟩ := Int.eq_ofNat_of_zero_le (a := x) (by omega)
          have h1 : 1 ≤ n := by omega
          have h8 : n ≤ 8 := by omega
          have hnr : n ≤ rs.length := by rw [hrl.out, hd.out]; simp only [sumW]; omega
          have hsz := hb.size
          have hG := Lib.hid (get_n ro rc rs n wr (Reads.below hr.out hb) hnr h8)
          have hvl := valB_lt_64 (rs.take n) (by simp; omega)
          have k1 : ∀ w, (Instr.slice 39 (.slice ro rs.length rc) none (some (.int .i64 (n : Int))) none).run Try.prog w = .ok (.slice ro n rc) w := fun w => run_cut_h 39 5 Try.underlying39 cells5 ro rs.length rc n (by omega) w
          have k2 : ∀ w, (Instr.slice 39 (.slice ro rs.length rc) (some (.int .i64 (n : Int))) none none).run Try.prog w = .ok (.slice (shiftA ro rc n) (rs.drop n).length (rc - n)) w := fun w => by rw [List.length_drop]; exact run_cut_l 39 5 Try.underlying39 cells5 ro rs.length rc n (by omega) w
          have hZ := Lib.hid (show (zs ++ [valB (rs.take n)]).length = k + 1 by simp [hzl.out])
          have hDl := Lib.hid (show (rs.drop n).length = sumW (ws.drop (k + 1)) by have e1 := hrl.out; rw [hd.out] at e1; simp only [sumW] at e1; simp only [List.length_drop]; omega)
          have hzl2 : zs.length ≤ k := by rw [hzl.out]; exact Nat.le_refl _
          have hrs' : (rs.drop n).length ≤ rc - n := by simp; omega
          have ho' := Lib.hid ho
          have hb' := Lib.hid hb
          have hbl : ∀ g, u8.ownBlock = some g → w.heap.size ≤ g := fun g hg => (ho.lt g hg).1
          have hbl := Lib.hid hbl
          generalize hV : valB (rs.take n) = V at *
          have hV' := Lib.hid hV
          clear hV ho hb
          go_wp2_with fail
          refine hG.out.mono ?_
          rintro e w1 ⟨rfl, rfl⟩
          go_wp2_with (at_builtin; go_loud (refine wpList_own_push rfl _ _ 131 rfl w.heap.size 29 i0 (.int .u64 0) 8 Try.underlying131 hi hz0 hz1 hz2 rfl u8 _ wr rfl ho'.out 1 (.int .u64 (V : Int)) rfl rfl (by simp [u64V_length]; omega) (by simp [u64V_length]; omega) (by omega) ?_); intro v' w' ho2 hg2; have ho2 := Lib.hid ho2; have hg2 := Lib.hid hg2)
          go_roundw
          case rel => exact ⟨k + 1, zs ++ [V], shiftA ro rc n, rs.drop n, rc - n, by omega, by go_num, by rw [List.length_drop], hrs', by omega, Lib.hid (Bytes.shift hr.out hrc), hDl, hZ, (by have := ho2.out; rw [u64V_append]; exact this), Lib.hid (by rw [← hV'.out]; exact getL_step hh.out hd.out h1 h8 hnr), hb'.out.trans (hg2.out.out hsz hbl.out)⟩
          case measure => simp [intOf] <;> omega
        · have hend := getL_end hh.out (by omega)
          have h0 : rs.length = 0 := by rw [hrl.out, List.drop_of_length_le (by omega)]; rfl
          rw [if_pos h0] at hend
          have hend := Lib.hid hend
          have ho := Lib.hid ho
          go_wp2
          go_ret2
          rw [hend.out]
          exact ⟨_, rfl, ho.out, hb⟩
    · have hne : ((bs.length : Int) != (sumW ws : Int)) = true := by simp; omega
      have hno := Lib.hid (getL_bad (ws := ws) (b := bs) (.inr hlen))
      clear hlen hok
      go_enter Try.func71, Try.ntmps71
      go_wp2_with fail
      refine hT.out.mono ?_
      rintro e w' ⟨rfl, rfl⟩
      go_wp2
      go_ret2
      exact GetRes.no hno.out rfl (Below.refl _ _)
end Go.Proofs.Ytgdefibkemkejaa

/- The document's own Get answers the same. -/
namespace Go.Proofs.Ytgdefibkemkejaa
open Go.ChangeShapes Go.WideShapes Go.ChangeAt Go.RowKit
set_option linter.unusedVariables false
set_option maxRecDepth 20000

end Go.Proofs.Ytgdefibkemkejaa

/- field.Join and the document's Join answer the same bytes, for every input. -/
namespace Go.Proofs.Ytgdefibkemkejaa
open Go.ChangeShapes Go.WideShapes Go.ChangeAt Go.RowKit
set_option linter.unusedVariables false
set_option maxRecDepth 20000

/-- texts side by side -/
def joinT : List (List UInt8) → Option (List UInt8)
  | [] => some []
  | t :: r => if t.length ≤ 65535 then (joinT r).map (leB 2 t.length ++ t ++ ·) else none
def joinL (ts : List (List UInt8)) : Option (List UInt8) := if ts.length ≤ 65535 then (joinT ts).map (leB 2 ts.length ++ ·) else none

theorem joinT_step {ts : List (List UInt8)} {k : Nat} {t bs : List UInt8} {o : Option (List UInt8)} (h : o = (joinT (ts.drop k)).map (bs ++ ·)) (hd : ts.drop k = t :: ts.drop (k + 1)) (hl : t.length ≤ 65535) :
    o = (joinT (ts.drop (k + 1))).map ((bs ++ leB 2 t.length ++ t) ++ ·) := by
  rw [h, hd]
  simp only [joinT, if_pos hl, Option.map_map', List.append_assoc]
theorem joinT_stop {ts : List (List UInt8)} {k : Nat} {t bs : List UInt8} {o : Option (List UInt8)} (h : o = (joinT (ts.drop k)).map (bs ++ ·)) (hd : ts.drop k = t :: ts.drop (k + 1)) (hl : ¬ t.length ≤ 65535) : o = none := by
  rw [h, hd]
  simp only [joinT, if_neg hl, Option.map_none]
theorem joinT_end {ts : List (List UInt8)} {k : Nat} {bs : List UInt8} {o : Option (List UInt8)} (h : o = (joinT (ts.drop k)).map (bs ++ ·)) (hk : ts.length ≤ k) : o = some bs := by
  rw [h, List.drop_of_length_le hk]; simp [joinT]

theorem put2_any (base : Nat) (v : Value) (bs : List UInt8) (z : Nat) (w : World) (hown : Own w base 5 v (bytesV bs)) (hbase : base ≤ w.heap.size) (hz : z < 18446744073709551616) (hl : bs.length + 8 ≤ 140737488355328) :
    Calls Try.prog 79 #[v, .int .i64 2, .int .u64 (z : Int)] w fun e w' => ∃ v', e = .returned v' ∧ Own w' base 5 v' (bytesV (bs ++ leB 2 z)) ∧ Grew w w' v v' :=
  fPut_any base v bs 2 z w hown hbase (by omega) hz hl

end Go.Proofs.Ytgdefibkemkejaa

/- field.Split answers the texts of bytes, for every input. -/
namespace Go.Proofs.Ytgdefibkemkejaa
open Go.ChangeShapes Go.WideShapes Go.ChangeAt Go.RowKit
set_option linter.unusedVariables false
set_option maxRecDepth 20000

/-- so many texts -/
def splitT : Nat → List UInt8 → Option (List (List UInt8))
  | 0, b => if b.length = 0 then some [] else none
  | k + 1, b => if 2 ≤ b.length ∧ valB (b.take 2) ≤ b.length - 2 then (splitT k ((b.drop 2).drop (valB (b.take 2)))).map ((b.drop 2).take (valB (b.take 2)) :: ·) else none
/-- the texts of bytes -/
def splitL (b : List UInt8) : Option (List (List UInt8)) := if 2 ≤ b.length then splitT (valB (b.take 2)) (b.drop 2) else none

/-- what a Split answers -/
def SplitRes (o : Option (List (List UInt8))) (w : World) (e : Ending) (w' : World) : Prop :=
  ∃ v, e = .returned (.tuple #[v, .int .i64 (errN o)]) ∧ OwnT w' w.heap.size v (o.getD []) ∧ Below w.heap.size w w'

theorem SplitRes.no {o : Option (List (List UInt8))} {w w' : World} {e : Ending} (ho : o = none) (he : e = .returned (.tuple #[.slice none 0 0, .int .i64 21])) (hb : Below w.heap.size w w') : SplitRes o w e w' := by
  subst ho
  exact ⟨_, he, OwnT.nil _ _, hb⟩

theorem splitT_step {o : Option (List (List UInt8))} {k V : Nat} {b ss : List UInt8} {ts : List (List UInt8)} (h : o = (splitT (k + 1) b).map (ts ++ ·)) (hV : V = valB (b.take 2)) (hs : ss = b.drop 2) (h2 : 2 ≤ b.length) (hl : V ≤ ss.length) :
    o = (splitT k (ss.drop V)).map ((ts ++ [ss.take V]) ++ ·) := by
  subst hV hs
  rw [List.length_drop] at hl
  rw [h]
  simp only [splitT, if_pos (show 2 ≤ b.length ∧ valB (b.take 2) ≤ b.length - 2 from ⟨h2, hl⟩), Option.map_map', List.append_assoc, List.singleton_append]
theorem splitT_short {o : Option (List (List UInt8))} {k : Nat} {b : List UInt8} {ts : List (List UInt8)} (h : o = (splitT (k + 1) b).map (ts ++ ·)) (h2 : ¬ 2 ≤ b.length) : o = none := by
  rw [h]
  simp only [splitT, if_neg (show ¬ (2 ≤ b.length ∧ valB (b.take 2) ≤ b.length - 2) from fun hh => h2 hh.1), Option.map_none]
theorem splitT_long {o : Option (List (List UInt8))} {k V : Nat} {b ss : List UInt8} {ts : List (List UInt8)} (h : o = (splitT (k + 1) b).map (ts ++ ·)) (hV : V = valB (b.take 2)) (hs : ss = b.drop 2) (hl : ¬ V ≤ ss.length) : o = none := by
  subst hV hs
  rw [List.length_drop] at hl
  rw [h]
  simp only [splitT, if_neg (show ¬ (2 ≤ b.length ∧ valB (b.take 2) ≤ b.length - 2) from fun hh => hl hh.2), Option.map_none]
theorem splitT_end {o : Option (List (List UInt8))} {b : List UInt8} {ts : List (List UInt8)} (h : o = (splitT 0 b).map (ts ++ ·)) : o = if b.length = 0 then some ts else none := by
  rw [h]
  simp only [splitT]
  split <;> simp

end Go.Proofs.Ytgdefibkemkejaa

/- The document's own Split answers the same. -/
namespace Go.Proofs.Ytgdefibkemkejaa
open Go.ChangeShapes Go.WideShapes Go.ChangeAt Go.RowKit
set_option linter.unusedVariables false
set_option maxRecDepth 20000

theorem drop_drop2 (bs : List UInt8) (a V : Nat) : ((bs.drop a).drop 2).drop V = bs.drop (a + 2 + V) := by
  rw [List.drop_drop, List.drop_drop, Nat.add_assoc]

end Go.Proofs.Ytgdefibkemkejaa

/- The chapter's example holds; how arguments read here; a copy of an argument. -/
namespace Go.Proofs.Ytgdefibkemkejaa
open Go.ChangeShapes Go.WideShapes Go.ChangeAt Go.RowKit Go.Deep
set_option linter.unusedVariables false
set_option maxRecDepth 20000

theorem infoInt : (Try.prog.info? 3).map (fun i => (i.zero, i.size, i.bytes)) = some (some (.int .i64 0), 1, 8) := by kernel_rfl

section
variable {H : Type} {enc : TypeId × Value → H} {W : World} {base : Nat} {v : Value} {d : DataW H} {p : List MemPlace}
theorem arg_ints (h : DataW.Trod enc Try.prog W 0 (fun _ => true) true 46 v d p) (hv : Value.okWide Try.prog W .any base 46 v)
    (hw : ∀ es sp, d = .slice es sp → (es.length + sp.length) * Try.prog.bytesOf 3 ≤ reachBytes) : ∃ (ao : Option Addr) (zs : List Int) (cap : Nat), v = .slice ao zs.length cap ∧ Ints W ao zs ∧ I64s zs ∧ (ao = none → cap = 0) := by
  obtain ⟨ao, zs, cap, rfl, hr, hwf, hl, hm, hb, hn⟩ := argK Try.underlying46 Try.underlying3 (by kernel_rfl) h hv hw
  rw [show Try.prog.bytesOf 3 = 8 from by kernel_rfl] at hb
  exact ⟨ao, zs, cap, rfl, hr, ⟨fun z hz => wf_i64 (hwf z hz), by omega⟩, hn⟩
theorem arg_u64s (h : DataW.Trod enc Try.prog W 0 (fun _ => true) true 131 v d p) (hv : Value.okWide Try.prog W .any base 131 v)
    (hw : ∀ es sp, d = .slice es sp → (es.length + sp.length) * Try.prog.bytesOf 29 ≤ reachBytes) : ∃ (ao : Option Addr) (zs : List Nat) (cap : Nat), v = .slice ao zs.length cap ∧ U64s W ao zs ∧ Fit64 zs ∧ (ao = none → cap = 0) := by
  obtain ⟨ao, zs, cap, rfl, hr, hwf, hl, hm, hb, hn⟩ := argK Try.underlying131 Try.underlying29 (by kernel_rfl) h hv hw
  rw [show Try.prog.bytesOf 29 = 8 from by kernel_rfl] at hb
  refine ⟨ao, zs.map Int.toNat, cap, by simp, ?_, ⟨fun z hz => ?_, by simp; omega⟩, hn⟩
  · unfold U64s
    rw [show u64V (zs.map Int.toNat) = zs.map (.int .u64) from ?_]
    · exact hr
    · unfold u64V
      rw [List.map_map]
      refine List.map_congr_left fun z hz => ?_
      have := wf_u64 (hwf z hz)
      simp only [Function.comp_apply]
      congr 1
      omega
  · simp only [List.mem_map] at hz
    obtain ⟨y, hy, rfl⟩ := hz
    have := wf_u64 (hwf y hy)
    omega
end

/-- what a Put answers, opened -/
theorem PutRes.out {o : Option (List UInt8)} {w w' : World} {e : Ending} (h : PutRes o w e w') : ∃ (ao : Option Addr) (cap : Nat), e = .returned (.tuple #[.slice ao (o.getD []).length cap, .int .i64 (errN o)]) ∧ Hid (Bytes w' ao (o.getD [])) ∧ (o.getD []).length ≤ cap ∧ cap ≤ 9223372036854775807 ∧ Hid (ao = none → cap = 0) ∧ Below w.heap.size w w' := by
  obtain ⟨v, rfl, ho, hb⟩ := h
  obtain ⟨ao, cap, rfl, h1, h2, h3, h4, _, _⟩ := ho.shape
  rw [bytesV_length] at h1 ⊢
  exact ⟨ao, cap, rfl, h4, h1, by simpa [maxLen] using h2, h3, hb⟩
theorem GetRes.out {o : Option (List Nat)} {w w' : World} {e : Ending} (h : GetRes o w e w') : ∃ (ao : Option Addr) (cap : Nat), e = .returned (.tuple #[.slice ao (o.getD []).length cap, .int .i64 (errN o)]) ∧ Hid (U64s w' ao (o.getD [])) ∧ (o.getD []).length ≤ cap ∧ cap ≤ 9223372036854775807 ∧ Hid (ao = none → cap = 0) ∧ Below w.heap.size w w' := by
  obtain ⟨v, rfl, ho, hb⟩ := h
  obtain ⟨ao, cap, rfl, h1, h2, h3, h4, _, _⟩ := ho.shape
  rw [u64V_length] at h1 ⊢
  exact ⟨ao, cap, rfl, h4, h1, by simpa [maxLen] using h2, h3, hb⟩
theorem SplitRes.out {o : Option (List (List UInt8))} {w w' : World} {e : Ending} (h : SplitRes o w e w') : ∃ (ao : Option Addr) (cap : Nat), e = .returned (.tuple #[.slice ao (o.getD []).length cap, .int .i64 (errN o)]) ∧ Hid (Texts w' ao (o.getD [])) ∧ (o.getD []).length ≤ cap ∧ Hid (ao = none → cap = 0) ∧ Below w.heap.size w w' := by
  obtain ⟨v, rfl, ho, hb⟩ := h
  obtain ⟨ao, cap, rfl, h1, h2, h3⟩ := ho.shape
  exact ⟨ao, cap, rfl, h3, h1, h2, hb⟩

theorem splitT_length {k : Nat} {b : List UInt8} {ts : List (List UInt8)} (h : splitT k b = some ts) : ts.length = k := by
  induction k generalizing b ts with
  | zero => simp only [splitT] at h; split at h <;> simp at h; subst h; rfl
  | succ k ih =>
    simp only [splitT] at h
    split at h
    · cases e : splitT k ((b.drop 2).drop (valB (b.take 2))) with
      | none => rw [e] at h; cases h
      | some r => rw [e] at h; simp at h; subst h; simp [ih e]
    · cases h
theorem splitL_length {b : List UInt8} : ((splitL b).getD []).length ≤ 65535 := by
  cases e : splitL b with
  | none => simp
  | some ts =>
    unfold splitL at e
    split at e
    · rename_i h
      have := splitT_length e
      have := valB_lt_16 (b.take 2) (by simp; omega)
      simp; omega
    · cases e
end Go.Proofs.Ytgdefibkemkejaa

/- There and back; nothing else reads so. -/
namespace Go.Proofs.Ytgdefibkemkejaa
open Go.ChangeShapes Go.WideShapes Go.ChangeAt Go.RowKit
set_option linter.unusedVariables false
set_option maxRecDepth 20000

theorem getL_putL {ws : List Int} {zs : List Nat} {b : List UInt8} (h : putL ws zs = some b) : getL ws b = some zs := by
  induction ws generalizing zs b with
  | nil =>
    cases zs with
    | nil => simp [putL] at h; subst h; rfl
    | cons z zs => simp [putL] at h
  | cons x ws ih =>
    cases zs with
    | nil => simp [putL] at h
    | cons z zs =>
      unfold putL at h
      split at h
      · rename_i hc
        cases h' : putL ws zs with
        | none => rw [h'] at h; simp at h
        | some b' =>
          rw [h'] at h
          simp at h
          subst h
          have hl := leB_length x.toNat z
          have e1 : (leB x.toNat z ++ b').take x.toNat = leB x.toNat z := by rw [List.take_append_of_le_length (by omega), List.take_of_length_le (by omega)]
          have e2 : (leB x.toNat z ++ b').drop x.toNat = b' := by rw [List.drop_append_of_le_length (by omega), List.drop_of_length_le (by omega)]; rfl
          have hc' : 1 ≤ x ∧ x ≤ 8 ∧ x.toNat ≤ (leB x.toNat z ++ b').length := ⟨hc.1, hc.2.1, by simp; omega⟩
          simp only [getL, if_pos hc', e1, e2, ih h', valB_leB _ _ hc.2.2, Option.map_some]
      · cases h

theorem putL_getL {ws : List Int} {b : List UInt8} {zs : List Nat} (h : getL ws b = some zs) : putL ws zs = some b := by
  induction ws generalizing b zs with
  | nil =>
    cases b with
    | nil => simp [getL] at h; subst h; rfl
    | cons z zs => simp [getL] at h
  | cons x ws ih =>
    unfold getL at h
    split at h
    · rename_i hc
      cases h' : getL ws (b.drop x.toNat) with
      | none => rw [h'] at h; simp at h
      | some l =>
        rw [h'] at h
        simp at h
        subst h
        have hl : (b.take x.toNat).length = x.toNat := by simp; omega
        have hv := valB_lt (b.take x.toNat)
        rw [hl] at hv
        have e := leB_valB (b.take x.toNat)
        rw [hl] at e
        simp only [putL, if_pos (show 1 ≤ x ∧ x ≤ 8 ∧ valB (b.take x.toNat) < 256 ^ x.toNat from ⟨hc.1, hc.2.1, hv⟩), ih h', Option.map_some, e, List.take_append_drop]
    · cases h

theorem joinT_splitT {k : Nat} {b : List UInt8} {ts : List (List UInt8)} (h : splitT k b = some ts) : joinT ts = some b := by
  induction k generalizing b ts with
  | zero =>
    simp only [splitT] at h
    split at h
    · rename_i h0
      simp at h; subst h
      rw [List.eq_nil_of_length_eq_zero h0]; rfl
    · cases h
  | succ k ih =>
    simp only [splitT] at h
    split at h
    · rename_i hc
      cases h' : splitT k ((b.drop 2).drop (valB (b.take 2))) with
      | none => rw [h'] at h; cases h
      | some r =>
        rw [h'] at h
        simp only [Option.map_some, Option.some.injEq] at h
        subst h
        have hl2 : (b.take 2).length = 2 := by simp; omega
        have hV := valB_lt_16 (b.take 2) hl2
        have e := leB_valB (b.take 2)
        rw [hl2] at e
        have hl : ((b.drop 2).take (valB (b.take 2))).length = valB (b.take 2) := by simp; omega
        have hle : valB (b.take 2) ≤ 65535 := by omega
        simp only [joinT, if_pos hle, ih h', Option.map_some, hl, e, List.append_assoc, List.take_append_drop]
    · cases h

theorem joinL_splitL {b : List UInt8} {ts : List (List UInt8)} (h : splitL b = some ts) : joinL ts = some b := by
  unfold splitL at h
  split at h
  · rename_i h2
    have hl := splitT_length h
    have hl2 : (b.take 2).length = 2 := by simp; omega
    have hV := valB_lt_16 (b.take 2) hl2
    have e := leB_valB (b.take 2)
    rw [hl2] at e
    simp only [joinL, if_pos (show valB (b.take 2) ≤ 65535 by omega), joinT_splitT h, Option.map_some, hl, e, List.take_append_drop]
  · cases h

theorem take2 (z : Nat) (r : List UInt8) : (leB 2 z ++ r).take 2 = leB 2 z := by
  have := leB_length 2 z
  rw [List.take_append_of_le_length (by omega), List.take_of_length_le (by omega)]
theorem drop2 (z : Nat) (r : List UInt8) : (leB 2 z ++ r).drop 2 = r := by
  have := leB_length 2 z
  rw [List.drop_append_of_le_length (by omega), List.drop_of_length_le (by omega)]; rfl
theorem val2 {z : Nat} (h : z ≤ 65535) : valB (leB 2 z) = z := valB_leB 2 z (by simp; omega)

theorem splitT_joinT {b : List UInt8} {ts : List (List UInt8)} (h : joinT ts = some b) : splitT ts.length b = some ts := by
  induction ts generalizing b with
  | nil => simp [joinT] at h; subst h; rfl
  | cons t r ih =>
    simp only [joinT] at h
    split at h
    · rename_i hc
      cases h' : joinT r with
      | none => rw [h'] at h; cases h
      | some b' =>
        rw [h'] at h
        simp only [Option.map_some, Option.some.injEq, List.append_assoc] at h
        subst h
        have hl := leB_length 2 t.length
        simp only [List.length_cons, splitT, take2, drop2, val2 hc]
        rw [if_pos ⟨by simp; omega, by simp; omega⟩, List.drop_append_of_le_length (Nat.le_refl _), List.drop_of_length_le (Nat.le_refl _), List.nil_append, ih h', List.take_append_of_le_length (Nat.le_refl _), List.take_of_length_le (Nat.le_refl _)]
        rfl
    · cases h

theorem splitL_joinL {b : List UInt8} {ts : List (List UInt8)} (h : joinL ts = some b) : splitL b = some ts := by
  unfold joinL at h
  split at h
  · rename_i hc
    cases h' : joinT ts with
    | none => rw [h'] at h; cases h
    | some b' =>
      rw [h'] at h
      simp only [Option.map_some, Option.some.injEq] at h
      subst h
      have hl := leB_length 2 ts.length
      simp only [splitL, take2, drop2, val2 hc]
      rw [if_pos (by simp; omega)]
      exact splitT_joinT h'
  · cases h

theorem splitT_more {k : Nat} {b r : List UInt8} {ts : List (List UInt8)} (h : splitT k b = some ts) (hr : r ≠ []) : splitT k (b ++ r) = none := by
  induction k generalizing b ts with
  | zero =>
    simp only [splitT] at h ⊢
    have : 0 < r.length := List.length_pos_iff.2 hr
    rw [if_neg (by rw [List.length_append]; omega)]
  | succ k ih =>
    simp only [splitT] at h
    split at h
    · rename_i hc
      cases h' : splitT k ((b.drop 2).drop (valB (b.take 2))) with
      | none => rw [h'] at h; cases h
      | some l =>
        have e1 : (b ++ r).take 2 = b.take 2 := List.take_append_of_le_length hc.1
        have e2 : (b ++ r).drop 2 = b.drop 2 ++ r := List.drop_append_of_le_length hc.1
        have e3 : (b.drop 2 ++ r).drop (valB (b.take 2)) = (b.drop 2).drop (valB (b.take 2)) ++ r := List.drop_append_of_le_length (by simp; omega)
        simp only [splitT, e1, e2, e3, ih h', Option.map_none, ite_self]
    · cases h

theorem splitL_more {b r : List UInt8} {ts : List (List UInt8)} (h : splitL b = some ts) (hr : r ≠ []) : splitL (b ++ r) = none := by
  unfold splitL at h
  split at h
  · rename_i h2
    have e1 : (b ++ r).take 2 = b.take 2 := List.take_append_of_le_length h2
    have e2 : (b ++ r).drop 2 = b.drop 2 ++ r := List.drop_append_of_le_length h2
    simp only [splitL, e1, e2, splitT_more h hr, ite_self]
  · cases h

theorem splitL_cut {b : List UInt8} {ts : List (List UInt8)} {c : Nat} (h : splitL b = some ts) (hc : c < b.length) : splitL (b.take c) = none := by
  cases e : splitL (b.take c) with
  | none => rfl
  | some l =>
    have hr : b.drop c ≠ [] := by intro h0; have := congrArg List.length h0; simp at this; omega
    have := splitL_more e hr
    rw [List.take_append_drop, h] at this
    cases this

theorem putL_inj {ws : List Int} {a b : List Nat} {x y : List UInt8} (h : putL ws a = some x) (k : putL ws b = some y) : x = y ↔ a = b := by
  constructor
  · rintro rfl
    have h1 := getL_putL h
    have h2 := getL_putL k
    rw [h1] at h2
    simpa using h2
  · rintro rfl
    rw [h] at k
    simpa using k

section
variable {w w' : World} {e : Ending}
theorem PutRes.yes {o : Option (List UInt8)} (h : PutRes o w e w') {x : List UInt8} (ho : o = some x) : ∃ (ao : Option Addr) (cap : Nat), e = .returned (.tuple #[.slice ao x.length cap, .int .i64 0]) ∧ Hid (Bytes w' ao x) ∧ x.length ≤ cap ∧ cap ≤ 9223372036854775807 ∧ Hid (ao = none → cap = 0) ∧ Below w.heap.size w w' := by
  subst ho; exact h.out
theorem PutRes.nope {o : Option (List UInt8)} (h : PutRes o w e w') (ho : o = none) : ∃ (ao : Option Addr) (cap : Nat), e = .returned (.tuple #[.slice ao 0 cap, .int .i64 21]) ∧ Below w.heap.size w w' := by
  subst ho
  obtain ⟨ao, cap, h1, _, _, _, _, h2⟩ := h.out
  exact ⟨ao, cap, h1, h2⟩
theorem GetRes.yes {o : Option (List Nat)} (h : GetRes o w e w') {x : List Nat} (ho : o = some x) : ∃ (ao : Option Addr) (cap : Nat), e = .returned (.tuple #[.slice ao x.length cap, .int .i64 0]) ∧ Hid (U64s w' ao x) ∧ Below w.heap.size w w' := by
  subst ho
  obtain ⟨ao, cap, h1, h2, _, _, _, h3⟩ := h.out
  exact ⟨ao, cap, h1, h2, h3⟩
theorem GetRes.nope {o : Option (List Nat)} (h : GetRes o w e w') (ho : o = none) : ∃ (ao : Option Addr) (cap : Nat), e = .returned (.tuple #[.slice ao 0 cap, .int .i64 21]) ∧ Below w.heap.size w w' := by
  subst ho
  obtain ⟨ao, cap, h1, _, _, _, _, h2⟩ := h.out
  exact ⟨ao, cap, h1, h2⟩
theorem SplitRes.yes {o : Option (List (List UInt8))} (h : SplitRes o w e w') {x : List (List UInt8)} (ho : o = some x) : ∃ (ao : Option Addr) (cap : Nat), e = .returned (.tuple #[.slice ao x.length cap, .int .i64 0]) ∧ Hid (Texts w' ao x) ∧ Below w.heap.size w w' := by
  subst ho
  obtain ⟨ao, cap, h1, h2, _, _, h3⟩ := h.out
  exact ⟨ao, cap, h1, h2, h3⟩
theorem SplitRes.nope {o : Option (List (List UInt8))} (h : SplitRes o w e w') (ho : o = none) : ∃ (ao : Option Addr) (cap : Nat), e = .returned (.tuple #[.slice ao 0 cap, .int .i64 21]) ∧ Below w.heap.size w w' := by
  subst ho
  obtain ⟨ao, cap, h1, _, _, _, h2⟩ := h.out
  exact ⟨ao, cap, h1, h2⟩
end
end Go.Proofs.Ytgdefibkemkejaa
