/- VdevB: the texts VdevH, VdevI, VdevJ, VdevK, VdevL, VdevN, Acts, one behind the other. -/
import Derived.Test.YtgdefibkemkejaaGVdev
import Derived.Test.YtgdefibkemkejaaGBase
import Derived.Deep.Slices
import Derived.OpenShut
import Derived.SizedLaws
/- A device: settle, with the closure of a crash. -/
namespace Go.Proofs.Ytgdefibkemkejaa
open Go.ChangeShapes Go.WideShapes Go.ChangeAt Go.RowKit
set_option linter.unusedVariables false
set_option maxRecDepth 20000

end Go.Proofs.Ytgdefibkemkejaa

/- A device: Flush, Crash. -/
namespace Go.Proofs.Ytgdefibkemkejaa
open Go.ChangeShapes Go.WideShapes Go.ChangeAt Go.RowKit
set_option linter.unusedVariables false
set_option maxRecDepth 20000

/-- a slice of bools reads so -/
def boolsV (bs : List Bool) : List Value := bs.map Value.bool
theorem boolsV_length (bs : List Bool) : (boolsV bs).length = bs.length := by simp [boolsV]
theorem boolsV_one (bs : List Bool) : ∀ u ∈ boolsV bs, u.oneCell' = true := by
  intro u hu
  simp only [boolsV, List.mem_map] at hu
  obtain ⟨b, _, rfl⟩ := hu
  rfl
theorem Reads.bool {w : World} {ao : Option Addr} {bs : List Bool} (h : Reads w ao (boolsV bs)) {k : Nat} (hk : k < bs.length) : ∃ b off, ao = some ⟨b, off, none⟩ ∧ w.cell? ⟨b, off + k, none⟩ = some (.bool bs[k]) ∧ b < w.heap.size := by
  obtain ⟨b, off, e, c, hb⟩ := Reads.at h (k := k) (by rw [boolsV_length]; exact hk)
  exact ⟨b, off, e, by rw [c]; simp [boolsV], hb⟩
theorem Reads.keptF {F : Nat → Prop} {w w' : World} {ao : Option Addr} {cs : List Value} (h : Reads w ao cs) (k : Kept F w w') (hn : ∀ a, ao = some a → ¬ F a.block) : Reads w' ao cs :=
  h.keep fun p hp ⟨a, e, he⟩ => k.cell hp (by rw [he]; exact hn a e)

end Go.Proofs.Ytgdefibkemkejaa

/- A device: what Rot needs: a store into a row of the call's own; plain facts. -/
namespace Go.Proofs.Ytgdefibkemkejaa
open Go.ChangeShapes Go.WideShapes Go.ChangeAt Go.RowKit
set_option linter.unusedVariables false
set_option maxRecDepth 20000

section
variable {P : Program} {o : Oper} {a : Act} {w : World} {K : Act → World → Prop} {Q : Exit → Act → World → Prop}
/-- a store of some cells into an owned row -/
theorem wp_store_own (ty : TypeId) (x y : Operand) (ho : o.op = .store ty x y) (g off n cap base size : Nat) (e : TypeId) (xs new : List Value) (hx : a.eval x = .pointer (some ⟨g, off, none⟩)) (vs : List Value) (hy : a.eval y = .agg vs.toArray)
    (hown : w.ownsRow base e size (.slice (some ⟨g, 0, none⟩) n cap) n xs) (hl : off + vs.length ≤ n * size) (h1 : ∀ v ∈ vs, v.oneCell' = true) (hi : (P.info? ty).map (·.size) = some vs.length) (hnew : new = xs.take off ++ vs ++ xs.drop (off + vs.length))
    (h : ∀ w', w'.ownsRow base e size (.slice (some ⟨g, 0, none⟩) n cap) n new → Kept (· = g) w w' → K (a.put o.dst undef) w') : o.wp P a w K Q := by
  obtain ⟨hxl, h0 | ⟨g', cap', cur, hv, hb, hh, hnc, hcm, hcs, htk⟩⟩ := hown
  · obtain ⟨h0, rfl⟩ := h0
    cases h0
  · injection hv with hv1 hv2 hv3
    injection hv1 with hv1
    injection hv1 with hv1 _ _
    subst hv1 hv3
    have hB : Blk w g e cur.toList := by unfold Blk; simpa using hh
    have hcl : n * size ≤ cur.toList.length := by
      have : n * size ≤ cap * size := Nat.mul_le_mul_right _ hnc
      simp; omega
    refine wp_store_blk ty x y ho g off hx vs hy e cur.toList _ hB (by omega) h1 hi rfl fun w' hb' hk' _ => h w' ⟨?_, .inr ⟨g, cap, (cur.toList.take off ++ vs ++ cur.toList.drop (off + vs.length)).toArray, rfl, hb, hb', hnc, hcm, ?_, ?_⟩⟩ hk'
    · rw [hnew]
      simp
      omega
    · simp
      simp at hcl
      omega
    · rw [hnew, ← htk]
      simp only [List.append_assoc]
      rw [List.take_append, List.take_append]
      simp only [List.length_take, List.take_take, List.drop_take]
      rw [Nat.min_eq_left (by omega : off ≤ cur.toList.length), Nat.min_eq_right (by omega : off ≤ n * size), Nat.min_eq_left (by omega : off ≤ n * size)]
      congr 2
      · rw [List.take_of_length_le (by omega)]
      · congr 1; omega
end

/-- the pending writes of which the first k have rotten -/
def rotTo (p : List (Nat × Sec)) (i : Nat) (s : Sec) (k : Nat) : List (Nat × Sec) := ((p.take k).map fun x => (x.1, if x.1 = i then s else x.2)) ++ p.drop k
theorem rotTo_zero (p : List (Nat × Sec)) (i : Nat) (s : Sec) : rotTo p i s 0 = p := by simp [rotTo]
theorem rotTo_length (p : List (Nat × Sec)) (i : Nat) (s : Sec) (k : Nat) : (rotTo p i s k).length = p.length := by simp [rotTo]; omega
theorem rotTo_all (p : List (Nat × Sec)) (i : Nat) (s : Sec) : rotTo p i s p.length = p.map fun x => (x.1, if x.1 = i then s else x.2) := by simp [rotTo]
theorem rotTo_at (p : List (Nat × Sec)) (i : Nat) (s : Sec) (k : Nat) (h : k < p.length) : (rotTo p i s k)[k]'(by rw [rotTo_length]; exact h) = p[k] := by
  simp [rotTo, List.getElem_append_right, Nat.min_eq_left (Nat.le_of_lt h)]
theorem rotTo_succ (p : List (Nat × Sec)) (i : Nat) (s : Sec) (k : Nat) (h : k < p.length) : rotTo p i s (k + 1) = (rotTo p i s k).set k (p[k].1, if p[k].1 = i then s else p[k].2) := by
  unfold rotTo
  have hk : k - ((p.take k).map fun x => (x.1, if x.1 = i then s else x.2)).length = 0 := by simp; omega
  rw [List.take_succ_eq_append_getElem h, List.map_append, List.append_assoc, List.set_append_right _ _ (by simp; omega), hk, List.drop_eq_getElem_cons h, List.set_cons_zero]
  rfl
theorem rotTo_pass (p : List (Nat × Sec)) (i : Nat) (s : Sec) (k : Nat) (h : k < p.length) (hn : p[k].1 ≠ i) : rotTo p i s (k + 1) = rotTo p i s k := by
  rw [rotTo_succ p i s k h, if_neg hn]
  have : rotTo p i s k = (rotTo p i s k).set k ((rotTo p i s k)[k]'(by rw [rotTo_length]; exact h)) := by simp
  rw [rotTo_at p i s k h] at this
  exact this.symm
theorem rot_now (l : List Sec) (p : List (Nat × Sec)) (i : Nat) (s : Sec) : putAll (l.set i s) (p.map fun x => (x.1, if x.1 = i then s else x.2)) = (putAll l p).set i s := by
  induction p generalizing l with
  | nil => rfl
  | cons x r ih =>
    rw [List.map_cons, putAll_cons, putAll_cons, ← ih]
    congr 1
    by_cases e : x.1 = i
    · subst e; simp
    · simp [e, List.set_comm _ _ (fun h => e h.symm)]
/-- one pending write's sector is another one -/
theorem wr_splice (ps : List (Nat × Sec)) (k : Nat) (h : k < ps.length) (s : Sec) : rowsL wrL (ps.set k (ps[k].1, s)) = (rowsL wrL ps).take (k * 129 + 1) ++ secL s ++ (rowsL wrL ps).drop (k * 129 + 1 + (secL s).length) := by
  have hl : k * 129 < (rowsL wrL ps).length := by rw [rowsL_length wrL_length]; omega
  have h0 : (rowsL wrL ps)[k * 129] = .int .i64 (ps[k].1 : Int) := by
    have := rowsL_at wrL_length ps k h 0 (.int .i64 (ps[k].1 : Int)) rfl
    rw [Nat.add_zero, List.getElem?_eq_getElem hl] at this
    exact Option.some.inj this
  rw [rowsL_set wrL_length ps k h, List.take_succ_eq_append_getElem hl, h0, secL_length]
  simp [wrL, Nat.add_assoc]

theorem MidAt.putPe {w w' : World} {L : DevL} {m : DevM} {ss ns : List Sec} {g n cap : Nat} (h : MidAt w L m ss ns) (hv : L.pv = .slice (some ⟨g, 0, none⟩) n cap) {p' : List (Nat × Sec)} (hl : p'.length = m.pending.length)
    (ho : w'.ownsRow 0 130 129 L.pv m.pending.length (rowsL wrL p')) (k : Kept (· = g) w w') : MidAt w' L { m with pending := p' } ss ns := by
  have hg : L.pv.ownBlock = some g := by rw [hv]; rfl
  refine ⟨h.base.kept k (fun e => h.dp (by rw [hg, e])), h.st.kept k (fun e => h.sp (by rw [hg, e])), h.nw.kept k (fun e => h.np (by rw [hg, e])), ?_, h.ne, h.sl, h.nl⟩
  show w'.ownsRow 0 130 129 L.pv p'.length (rowsL wrL p')
  rw [hl]
  exact ho
end Go.Proofs.Ytgdefibkemkejaa

/- A device: Rot. -/
namespace Go.Proofs.Ytgdefibkemkejaa
open Go.ChangeShapes Go.WideShapes Go.ChangeAt Go.RowKit
set_option linter.unusedVariables false
set_option maxRecDepth 20000

end Go.Proofs.Ytgdefibkemkejaa

/- A device: New. -/
namespace Go.Proofs.Ytgdefibkemkejaa
open Go.ChangeShapes Go.WideShapes Go.ChangeAt Go.RowKit
set_option linter.unusedVariables false
set_option maxRecDepth 20000

theorem secL_zero : secL sec0 = List.replicate 128 (.int .u8 0) := by
  unfold secL sec0 bytesV
  simp [byteV]
theorem rows_zero (n : Nat) : rowsL secL (List.replicate n sec0) = List.replicate (n * 128) (.int .u8 0) := by
  induction n with
  | zero => simp [rowsL]
  | succ n ih => rw [List.replicate_succ, rowsL_cons, ih, secL_zero, List.replicate_append_replicate]; congr 1; omega
theorem made_rep (v : Value) (c m : Nat) (hc : 0 < c) : (madeCells (List.replicate c v).toArray m).toList = List.replicate m v := by
  unfold madeCells
  apply List.ext_getElem
  · simp
  · intro i h1 h2
    have : i % c < c := Nat.mod_lt _ hc
    simp [this]
theorem made_zero (n : Nat) : madeCells (secL sec0).toArray (n * 128) = (rowsL secL (List.replicate n sec0)).toArray := by
  apply Array.ext'
  rw [rows_zero, secL_zero, made_rep _ _ _ (by omega)]
theorem infoSec3 : (Try.prog.info? 23).map (fun i => (i.zero, i.size, i.bytes)) = some (some (.agg (secL sec0).toArray), 128, 128) := by kernel_rfl
/-- make([]Sector, n, n) -/
theorem make_secs (n : Nat) (hn : n ≤ 1000000000) (w : World) : (Instr.makeSlice 38 (.int .i64 (n : Int)) (.int .i64 (n : Int))).run Try.prog w = .ok (.slice (some ⟨w.heap.size, 0, none⟩) n n) (w.alloc (.cells (rowsL secL (List.replicate n sec0)).toArray 23)) := by
  obtain ⟨i0, hi0, hz0, hz1, hz2⟩ := info_parts infoSec3
  have := run_make (P := Try.prog) w 38 23 i0 _ Try.underlying38 hi0 hz0 .i64 .i64 n n (by omega) (Int.le_refl _) (by rw [hz2]; omega) (by omega)
  rw [this, hz1]
  simp only [Int.toNat_natCast, Value.cells]
  rw [made_zero]

theorem fresh_at (w : World) (n : Nat) (hn : n ≤ 1024) (L : DevL) (hb : Blk w L.d 98 [.slice (some ⟨L.sb, 0, none⟩) n n, .slice (some ⟨L.nb, 0, none⟩) n n, L.pv, .int .i64 0, .int .i64 (-1), .bool false])
    (hs : Blk w L.sb 23 (rowsL secL (List.replicate n sec0))) (hw : Blk w L.nb 23 (rowsL secL (List.replicate n sec0))) (hp : L.pv = .slice none 0 0) (hne : L.sb ≠ L.nb) : DevAt w L (DevM.fresh n) := by
  have e1 : (List.replicate n sec0).length = n := List.length_replicate ..
  refine ⟨?_, hs, hw, by rw [hp]; exact World.ownsRow_nil _ _ _ _, hne, ⟨Nat.zero_le _, by show (-9223372036854775808 : Int) ≤ -1 ∧ (-1 : Int) ≤ 9223372036854775807; omega, ?_, fun p hp => by cases hp⟩⟩
  · show Blk w L.d _ [.slice _ (List.replicate n sec0).length (List.replicate n sec0).length, .slice _ (List.replicate n sec0).length (List.replicate n sec0).length, _, _, _, _]
    rw [e1]
    exact hb
  · show (List.replicate n sec0).length ≤ 1024
    rw [e1]; exact hn

theorem three_new (w : World) (A B C : List Value) (tA tB tC : TypeId) : Blk (((w.alloc (.cells A.toArray tA)).alloc (.cells B.toArray tB)).alloc (.cells C.toArray tC)).drew w.heap.size tA A ∧
    Blk (((w.alloc (.cells A.toArray tA)).alloc (.cells B.toArray tB)).alloc (.cells C.toArray tC)).drew (w.heap.size + 1) tB B ∧ Blk (((w.alloc (.cells A.toArray tA)).alloc (.cells B.toArray tB)).alloc (.cells C.toArray tC)).drew (w.heap.size + 2) tC C := by
  have e1 : (w.alloc (.cells A.toArray tA)).heap.size = w.heap.size + 1 := by simp
  have e2 : ((w.alloc (.cells A.toArray tA)).alloc (.cells B.toArray tB)).heap.size = w.heap.size + 2 := by simp
  refine ⟨(((Blk.new w tA A).alloc _).alloc _).drew, ?_, ?_⟩
  · have := ((Blk.new (w.alloc (.cells A.toArray tA)) tB B).alloc (.cells C.toArray tC)).drew
    rwa [e1] at this
  · have := (Blk.new ((w.alloc (.cells A.toArray tA)).alloc (.cells B.toArray tB)) tC C).drew
    rwa [e2] at this
theorem three_below (w : World) (A B C : Obj) : Below w.heap.size w (((w.alloc A).alloc B).alloc C) := (((Below.refl _ _).alloc (Nat.le_refl _) _).alloc (by simp) _).alloc (by simp; omega) _

set_option maxHeartbeats 1000000 in
theorem New_any (n : Int) (hn : I64 n) (w : World) : Calls Try.prog 30 #[.int .i64 n] w fun e w' => ∃ d F, e = .returned (.pointer (some ⟨d, 0, none⟩)) ∧ IsDev w' d F (DevM.fresh (DevM.newLen n)) ∧ (∀ k, F k → w.heap.size ≤ k) ∧ Below w.heap.size w w' := by
  unfold I64 at hn
  obtain ⟨k, hk, hz⟩ : ∃ k : Nat, k ≤ 1024 ∧ Hid (DevM.newLen n = k) := ⟨DevM.newLen n, by unfold DevM.newLen; omega, Lib.hid rfl⟩
  have hm := make_secs k (by omega)
  have key : ∀ (W : World) (a b : Nat), Blk W (w.heap.size + 2) 98 [.slice (some ⟨a, 0, none⟩) k k, .slice (some ⟨b, 0, none⟩) k k, .slice none 0 0, .int .i64 0, .int .i64 (-1), .bool false] → Blk W a 23 (rowsL secL (List.replicate k sec0)) → Blk W b 23 (rowsL secL (List.replicate k sec0)) →
      a ≠ b → w.heap.size ≤ a → w.heap.size ≤ b → Below w.heap.size w W → ∃ d F, Ending.returned (.pointer (some ⟨w.heap.size + 2, 0, none⟩)) = .returned (.pointer (some ⟨d, 0, none⟩)) ∧ IsDev W d F (DevM.fresh (DevM.newLen n)) ∧ (∀ k, F k → w.heap.size ≤ k) ∧ Below w.heap.size w W := by
    intro W a b h1 h2 h3 h4 h5 h6 h7
    rw [hz.out]
    refine ⟨_, DevL.foot ⟨w.heap.size + 2, a, b, .slice none 0 0⟩, rfl, ⟨⟨w.heap.size + 2, a, b, .slice none 0 0⟩, rfl, fresh_at W k hk _ h1 h2 h3 rfl h4, fun _ => id, (fresh_at W k hk _ h1 h2 h3 rfl h4).lt⟩, ?_, h7⟩
    rintro j (rfl | rfl | rfl | e)
    · exact Nat.le_add_right _ _
    · exact h5
    · exact h6
    · simp [Value.ownBlock] at e
  have key := Lib.hid key
  by_cases h0 : n < 0
  · have e0 : DevM.newLen n = 0 := by unfold DevM.newLen; omega
    obtain rfl : k = 0 := by rw [← hz.out, e0]
    have hm0 : ∀ w : World, (Instr.makeSlice 38 (.int .i64 0) (.int .i64 0)).run Try.prog w = .ok (.slice (some ⟨w.heap.size, 0, none⟩) 0 0) (w.alloc (.cells (rowsL secL (List.replicate 0 sec0)).toArray 23)) := fun w => make_secs 0 (by omega) w
    clear hm e0
    generalize rowsL secL (List.replicate 0 sec0) = R at *
    go_enter Try.func30, Try.ntmps30
    go_wp2
    go_region
    all_goals go_wp2
    all_goals go_ret
    · obtain ⟨b1, b2, b3⟩ := three_new w R R _ 23 23 98
      exact key.out _ _ _ b3 b1 b2 (by omega) (by omega) (by omega) (three_below w _ _ _).drew
    · obtain ⟨b1, b2, b3⟩ := three_new w R R _ 23 23 98
      exact key.out _ _ _ b3 b2 b1 (by omega) (by omega) (by omega) (three_below w _ _ _).drew
  by_cases h1 : 1024 < n
  · have e0 : DevM.newLen n = 1024 := by unfold DevM.newLen; omega
    obtain rfl : k = 1024 := by rw [← hz.out, e0]
    have hm0 : ∀ w : World, (Instr.makeSlice 38 (.int .i64 1024) (.int .i64 1024)).run Try.prog w = .ok (.slice (some ⟨w.heap.size, 0, none⟩) 1024 1024) (w.alloc (.cells (rowsL secL (List.replicate 1024 sec0)).toArray 23)) := fun w => make_secs 1024 (by omega) w
    clear hm e0
    generalize rowsL secL (List.replicate 1024 sec0) = R at *
    go_enter Try.func30, Try.ntmps30
    go_wp2
    go_region
    all_goals go_wp2
    all_goals go_ret
    · obtain ⟨b1, b2, b3⟩ := three_new w R R _ 23 23 98
      exact key.out _ _ _ b3 b1 b2 (by omega) (by omega) (by omega) (three_below w _ _ _).drew
    · obtain ⟨b1, b2, b3⟩ := three_new w R R _ 23 23 98
      exact key.out _ _ _ b3 b2 b1 (by omega) (by omega) (by omega) (three_below w _ _ _).drew
  · have e0 : n = (k : Int) := by have := hz.out; unfold DevM.newLen at this; omega
    subst e0
    have hm0 := fun w : World => make_secs k (by omega) w
    have i1 : (0 : Int) ≤ (k : Int) := by omega
    have i2 : (k : Int) ≤ 1024 := by omega
    clear hm h0 h1
    generalize rowsL secL (List.replicate k sec0) = R at *
    go_enter Try.func30, Try.ntmps30
    go_wp2
    go_region
    all_goals go_wp2
    all_goals go_ret
    · obtain ⟨b1, b2, b3⟩ := three_new w R R _ 23 23 98
      exact key.out _ _ _ b3 b1 b2 (by omega) (by omega) (by omega) (three_below w _ _ _).drew
    · obtain ⟨b1, b2, b3⟩ := three_new w R R _ 23 23 98
      exact key.out _ _ _ b3 b2 b1 (by omega) (by omega) (by omega) (three_below w _ _ _).drew
end Go.Proofs.Ytgdefibkemkejaa

/- A device as an object: each call, whatever its blocks are. -/
namespace Go.Proofs.Ytgdefibkemkejaa
open Go.ChangeShapes Go.WideShapes Go.ChangeAt Go.RowKit
set_option linter.unusedVariables false
set_option maxRecDepth 20000

section
variable {w : World} {d : Nat} {F : Nat → Prop} {m : DevM} (h : IsDev w d F m)
theorem o_Read (h : IsDev w d F m) (i : Int) (hi : I64 i) : Calls Try.prog 45 #[.pointer (some ⟨d, 0, none⟩), .int .i64 i] w fun e w' => e = .returned (.tuple #[.agg (secL (m.read i).1).toArray, .int .i64 (m.read i).2]) ∧ Turned w d F m.tick w' := by
  obtain ⟨L, rfl, h1, h2, _⟩ := h
  refine (Read_any L m i hi w h1).mono ?_
  rintro e w' ⟨rfl, h3, h4⟩
  exact ⟨rfl, (DevStep.of h3 h4 fun i e => .inl e).turned h2⟩
theorem o_Write (h : IsDev w d F m) (i : Int) (hi : I64 i) (s : Sec) (hp : m.pending.length ≤ 1000000000) : Calls Try.prog 64 #[.pointer (some ⟨d, 0, none⟩), .int .i64 i, .agg (secL s).toArray] w fun e w' => e = .returned (.int .i64 (m.write i s).2) ∧ Turned w d F (m.write i s).1 w' := by
  obtain ⟨L, rfl, h1, h2, _⟩ := h
  refine (Write_any L m i hi s w h1 hp).mono ?_
  rintro e w' ⟨rfl, h3⟩
  exact ⟨rfl, h3.turned h2⟩
end

/-- of a slice of bools a copy is handed in -/
theorem infoBool : (Try.prog.info? 4).map (fun i => (i.zero, i.size, i.bytes)) = some (some (.bool false), 1, 1) := by kernel_rfl

def sec1 : Sec := ⟨1 :: List.replicate 127 0, by simp⟩
def sec2 : Sec := ⟨2 :: List.replicate 127 0, by simp⟩
theorem built_sec1 : Try.prog.built 23 [(0, .int .u8 1)] = some (secL sec1).toArray := by kernel_rfl
theorem built_sec2 : Try.prog.built 23 [(0, .int .u8 2)] = some (secL sec2).toArray := by kernel_rfl

/-- what is known of an object's blocks, call by call -/
theorem Grows.low {n B : Nat} {F F' : Nat → Prop} (h : Grows n F F') (hF : ∀ k, F k → B ≤ k) (hB : B ≤ n) : ∀ k, F' k → B ≤ k := fun k hk => by
  rcases h k hk with h | h
  · exact hF k h
  · omega
theorem Grows.not {n x : Nat} {F F' : Nat → Prop} (h : Grows n F F') (hx : ¬ F x) (hlt : x < n) : ¬ F' x := fun hk => by
  rcases h x hk with h | h
  · exact hx h
  · omega

end Go.Proofs.Ytgdefibkemkejaa

/- How arguments read: slices of bools; what is done with a device, as plain data. -/
namespace Go.Proofs.Ytgdefibkemkejaa
open Go.ChangeShapes Go.WideShapes Go.ChangeAt Go.RowKit Go.Deep
set_option linter.unusedVariables false
set_option maxRecDepth 20000

section
variable {H : Type} {P : Program}
/-- each weight of a datum is within the reach -/
def Light (P : Program) (t : TypeId) (d : DataW H) : Prop := ∀ n, n ∈ d.weights P t → n ≤ reachBytes
theorem light_arg {ts : List TypeId} {ds : List (DataW H)} (h : (DataW.weightsEach P ts ds).all (· ≤ reachBytes) = true) {j : Nat} {t : TypeId} {d : DataW H} (ht : ts[j]? = some t) (hd : ds[j]? = some d) : Light P t d := fun n hn => by
  have := List.all_eq_true.1 h n (DataW.weights_mem_each ht hd n hn)
  simpa using this
theorem weightsAll_mem {e : TypeId} {l : List (DataW H)} {d : DataW H} (hd : d ∈ l) {n : Nat} (hn : n ∈ d.weights P e) : n ∈ DataW.weightsAll P e l := by
  induction l with
  | nil => cases hd
  | cons x r ih =>
    simp only [DataW.weightsAll, List.mem_append]
    rcases List.mem_cons.1 hd with rfl | hd
    · exact .inl hn
    · exact .inr (ih hd)
theorem Light.len {t e : TypeId} {l s : List (DataW H)} (ht : P.underlying t = some (.slice e)) (h : Light P t (.slice l s)) : (l.length + s.length) * P.bytesOf e ≤ reachBytes :=
  h _ (by simp [DataW.weights, ht])
theorem Light.elem {t e : TypeId} {l s : List (DataW H)} (ht : P.underlying t = some (.slice e)) (h : Light P t (.slice l s)) {d : DataW H} (hd : d ∈ l) : Light P e d := fun n hn =>
  h n (by simp only [DataW.weights, ht, List.mem_cons, List.mem_append]; exact .inr (.inl (weightsAll_mem hd hn)))
theorem Light.field {t : TypeId} {fs : Array Field} {l : List (DataW H)} (ht : P.underlying t = some (.struct fs)) (h : Light P t (.agg l)) {j : Nat} {f : Field} {d : DataW H} (hf : fs.toList[j]? = some f) (hd : l[j]? = some d) : Light P f.type d := fun n hn =>
  h n (by
    simp only [DataW.weights, ht]
    exact DataW.weights_mem_each (j := j) (by rw [List.getElem?_map, hf]; rfl) hd n hn)
end

section
variable {H : Type} {enc : TypeId × Value → H} {P : Program} {w : World} {base : Nat} {held : Bool} {t e : TypeId} {fuel : Nat} {v : Value} {x : DataW H × List MemPlace}

/-- a slice of bools -/
theorem open_bools (ht : P.underlying t = some (.slice e)) (he : P.underlying e = some .bool) (hc : P.cellsOf e = 1) (hb : P.bytesOf e = 1)
    (h : DataW.trod enc P w base (fun _ => true) held fuel t [v] = some x) (hw : Light P t x.1) :
    ∃ (ao : Option Addr) (bs : List Bool) (cap : Nat), v = .slice ao bs.length cap ∧ Reads w ao (boolsV bs) ∧ bs.length ≤ cap ∧ cap ≤ reachBytes ∧ (ao = none → cap = 0) ∧ (∀ a, ao = some a → bs ≠ [] → a.block < w.heap.size) := by
  rcases open_slice1 ht hc h with ⟨hcs, _⟩ | ⟨a, len, cap, m, n, V, D, Pl, hcs, _, hl, _, hm, hx, hi⟩
  · obtain rfl : v = .slice none 0 0 := by simpa using hcs
    exact ⟨none, [], 0, rfl, Reads.nil _ _, Nat.le_refl _, Nat.zero_le _, fun _ => rfl, fun a e => by cases e⟩
  · obtain rfl : v = .slice (some a) len cap := by simpa using hcs
    simp only [if_true] at hm
    subst hm
    have hwt := hw
    rw [hx] at hwt
    have hlen := hwt.len ht
    simp only [List.length_map, List.length_range, hb, Nat.mul_one] at hlen
    have hB : ∀ i, i < m → ∃ b, V i = .bool b ∧ w.cell? (a.add i) = some (.bool b) := fun i him => by
      obtain ⟨h1, h2⟩ := hi i him
      obtain ⟨b, hv, _⟩ := DataW.trod_bool he h2
      have : V i = .bool b := by simpa using hv
      exact ⟨b, this, by rw [h1, this]⟩
    have hR : Reads w (some a) (boolsV ((List.range len).map fun i => match V i with | .bool b => b | _ => false)) := by
      intro i hi'
      have hil : i < len := by simpa [boolsV] using hi'
      obtain ⟨b, hv, hcell⟩ := hB i (by omega)
      obtain ⟨_, _, c0⟩ := hB 0 (by omega)
      obtain ⟨bl, off, spot⟩ := a
      have hspot : spot = none := by simpa [Addr.add] using World.cell?_spot c0
      subst hspot
      rw [Go.WideShapes.add_plain] at hcell
      exact ⟨bl, off, rfl, by rw [hcell]; simp [boolsV, hv]⟩
    refine ⟨some a, (List.range len).map fun i => match V i with | .bool b => b | _ => false, m, by simp, hR, by simpa using hl, by omega, (fun h => by cases h), fun a' ha hne => ?_⟩
    cases ha
    have hpos : 0 < len := by
      rcases Nat.eq_zero_or_pos len with h0 | h0
      · subst h0; exact absurd rfl hne
      · exact h0
    obtain ⟨b, off, e0, _, hb⟩ := Reads.bool hR (k := 0) (by simpa using hpos)
    cases e0
    exact hb
end

/-- something done with a device -/
structure ActM where
  kind : Int
  at_ : Int
  data : Sec
  kao : Option Addr
  kcap : Nat
  keep : List Bool
def actL (a : ActM) : List Value := .int .i64 a.kind :: .int .i64 a.at_ :: (secL a.data ++ [.slice a.kao a.keep.length a.kcap])
theorem actL_length (a : ActM) : (actL a).length = 131 := by simp [actL, secL_length]
theorem actL_one (a : ActM) : ∀ v ∈ actL a, v.oneCell' = true := by
  intro v hv
  simp only [actL, List.mem_cons, List.mem_append, List.not_mem_nil, or_false] at hv
  rcases hv with rfl | rfl | hv | rfl
  · rfl
  · rfl
  · exact secL_one _ v hv
  · rfl
structure ActOk (w : World) (a : ActM) : Prop where
  kind : I64 a.kind
  at_ : I64 a.at_
  keep : Reads w a.kao (boolsV a.keep)
  cap : a.keep.length ≤ a.kcap ∧ a.kcap ≤ 140737488351232
  nil : a.kao = none → a.kcap = 0
  low : ∀ b, a.kao = some b → a.keep ≠ [] → b.block < w.heap.size
structure Acts (w : World) (ao : Option Addr) (as_ : List ActM) : Prop where
  cells : Reads w ao (rowsL actL as_)
  each : ∀ a ∈ as_, ActOk w a

/-- a sector -/
theorem open_sec {H : Type} {enc : TypeId × Value → H} {w : World} {base : Nat} {spare : Nat → Bool} {held : Bool} {fuel : Nat} {cs : List Value} {x : DataW H × List MemPlace}
    (h : DataW.trod enc Try.prog w base spare held fuel 23 cs = some x) : ∃ s : Sec, cs = secL s := by
  obtain ⟨xs, m, _, _, hl, hxl, hi⟩ := DataW.trod_array Try.underlying23 h
  have hc : Try.prog.cellsOf 5 = 1 := by kernel_rfl
  have hc2 : Try.prog.cellsOf 23 = 128 := by kernel_rfl
  rw [hc2] at hl
  have hb : ∀ i (h : i < cs.length), ∃ b : UInt8, cs[i] = byteV b := fun i h => by
    have := hi i (by omega)
    rw [hc, Nat.mul_one, List.drop_eq_getElem_cons h, List.getElem?_eq_getElem (by omega)] at this
    obtain ⟨n, hn, _, hwf⟩ := DataW.trod_int Try.underlying5 this
    rw [List.take_succ_cons, List.take_zero] at hn
    injection hn with hn _
    exact ⟨UInt8.ofNat n.toNat, by rw [hn]; exact byteV_cell (wf_u8 hwf)⟩
  refine ⟨⟨cs.map fun v => match v with | .int _ z => UInt8.ofNat z.toNat | _ => 0, by simpa using hl⟩, ?_⟩
  unfold secL bytesV
  apply List.ext_getElem
  · simp
  · intro i h1 h2
    obtain ⟨b, hb'⟩ := hb i h1
    simp [hb', byteV]

end Go.Proofs.Ytgdefibkemkejaa
