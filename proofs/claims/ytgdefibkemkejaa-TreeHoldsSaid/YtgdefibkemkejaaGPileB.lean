/- PileB: the texts PileH, SecArg, TextsL, PileI, PileJ, PileK, PileL, one behind the other. -/
import Derived.Test.YtgdefibkemkejaaGPile
import Derived.Test.YtgdefibkemkejaaGBase
import Derived.Test.YtgdefibkemkejaaGVdevB
import Derived.Test.YtgdefibkemkejaaGField
/- The chapter's example holds. -/
namespace Go.Proofs.Ytgdefibkemkejaa
open Go.ChangeShapes Go.WideShapes Go.ChangeAt Go.RowKit
set_option linter.unusedVariables false
set_option maxRecDepth 20000

theorem alloc64 : allocO (newS 64) = some 4 := by decide +kernel
theorem count64a : countN (upd (newS 64) 4 2) = 59 := by decide +kernel
theorem count64b : countN (turnF (upd (newS 64) 4 2) 4 2 1) = 60 := by decide +kernel
theorem turn64 : turnE (upd (newS 64) 4 2) 4 2 = 0 := by decide +kernel
def hiS : Sec := blockS [104, 105]
theorem built_hi : Try.prog.built 23 [(0, .int .u8 104), (1, .int .u8 105)] = some (secL hiS).toArray := by kernel_rfl

end Go.Proofs.Ytgdefibkemkejaa

/- How a sector reads that came in. -/
namespace Go.Proofs.Ytgdefibkemkejaa
open Go.ChangeShapes Go.WideShapes Go.ChangeAt Go.RowKit Go.Deep
set_option linter.unusedVariables false
set_option maxRecDepth 20000

theorem sec_cells {H : Type} {enc : TypeId × Value → H} {w : World} {base : Nat} {spare : Nat → Bool} {held : Bool} {fuel : Nat} {cs : List Value} {x : DataW H × List MemPlace}
    (h : DataW.trod enc Try.prog w base spare held fuel 23 cs = some x) : ∃ s : Sec, cs = secL s := by
  obtain ⟨xs, m, _, _, hl, hxl, hi⟩ := DataW.trod_array Try.underlying23 h
  have hc : Try.prog.cellsOf 5 = 1 := by kernel_rfl
  have hc2 : Try.prog.cellsOf 23 = 128 := by kernel_rfl
  rw [hc2] at hl
  have hb : ∀ i (h : i < cs.length), ∃ b : UInt8, cs[i] = byteV b := fun i h => by
    have := hi i (by omega)
    rw [hc, Nat.mul_one, List.drop_eq_getElem_cons h, List.getElem?_eq_getElem (by omega)] at this
    obtain ⟨n, hn, _, hwf⟩ := DataW.trod_int Try.underlying5 this
    rw [List.take_succ_cons, List.take_zero] at hn
    injection hn with hn _
    exact ⟨UInt8.ofNat n.toNat, by rw [hn]; exact byteV_cell (wf_u8 hwf)⟩
  refine ⟨⟨cs.map fun v => match v with | .int _ z => UInt8.ofNat z.toNat | _ => 0, by simpa using hl⟩, ?_⟩
  unfold secL bytesV
  apply List.ext_getElem
  · simp
  · intro i h1 h2
    obtain ⟨b, hb'⟩ := hb i h1
    simp [hb', byteV]

theorem arg_sec {H : Type} {enc : TypeId × Value → H} {W : World} {base : Nat} {v : Value} {d : DataW H} {ps : List MemPlace}
    (h : DataW.Trod enc Try.prog W 0 (fun _ => true) true 23 v d ps) (hv : Value.okWide Try.prog W .any base 23 v) : ∃ s : Sec, v = .agg (secL s).toArray := by
  obtain ⟨cs, rfl⟩ : ∃ cs, v = .agg cs := by
    simp only [Value.okWide, Try.underlying23] at hv
    obtain ⟨cs, h1, _⟩ := hv
    exact ⟨cs, h1⟩
  obtain ⟨fuel, hf⟩ := h
  obtain ⟨s, e⟩ := sec_cells hf
  refine ⟨s, ?_⟩
  rw [← e]
  rfl
end Go.Proofs.Ytgdefibkemkejaa

/- How a slice of texts reads that came in, each of its length. -/
namespace Go.Proofs.Ytgdefibkemkejaa
open Go.ChangeShapes Go.WideShapes Go.ChangeAt Go.RowKit Go.Deep
set_option linter.unusedVariables false
set_option maxRecDepth 20000

section
variable {H : Type} {enc : TypeId × Value → H} {W : World} {base : Nat} {v : Value} {d : DataW H} {p : List MemPlace} {t e : TypeId}
theorem argTextsL {q : TypeId} (ht : Try.prog.underlying t = some (.slice e)) (he : Try.prog.underlying e = some (.slice q)) (hq : Try.prog.underlying q = some (.int .u8)) (ce : Try.prog.cellsOf e = 1) (cq : Try.prog.cellsOf q = 1) (hb : Try.prog.bytesOf e = 24)
    (h : DataW.Trod enc Try.prog W 0 (fun _ => true) true t v d p) (hv : Value.okWide Try.prog W .any base t v)
    (bq : Try.prog.bytesOf q = 1) (hl : Light Try.prog t d) :
    ∃ (ao : Option Addr) (ts : List (List UInt8)) (cap : Nat), v = .slice ao ts.length cap ∧ ts.length ≤ cap ∧ cap * 24 ≤ 140737488351232 ∧ (ao = none → cap = 0) ∧ (∀ x ∈ ts, x.length ≤ 140737488351232) ∧
      ∃ cs : List Value, cs.length = ts.length ∧ Reads W ao cs ∧ ∀ i (h : i < ts.length), ∃ bo cap, cs[i]? = some (.slice bo ts[i].length cap) ∧ ts[i].length ≤ cap ∧ cap ≤ maxLen ∧ (bo = none → cap = 0) ∧ Bytes W bo ts[i] := by
  obtain ⟨a, len, cap, rfl⟩ := okWide_slice ht hv
  obtain ⟨fuel, hf⟩ := h
  rcases open_int_rows ht he hq ce cq hf with ⟨hcs, _⟩ | ⟨x, l, c, A, L, C, Z, hcs, _, hlc, hm, hx, hrow⟩
  · simp [Value.cells] at hcs
    obtain ⟨rfl, rfl, rfl⟩ := hcs
    exact ⟨none, [], 0, rfl, by simp, by simp, fun _ => rfl, (fun x hx => by cases hx), [], rfl, Reads.nil _ _, fun i hi => by simp at hi⟩
  · simp [Value.cells] at hcs
    obtain ⟨rfl, rfl, rfl⟩ := hcs
    simp only [Prod.mk.injEq] at hx
    have hd := hx.1
    rw [hd] at hl
    have hwt := hl.len ht
    have hin : ∀ i, i < len → L i ≤ 140737488351232 := fun i hi => by
      have h1 := hl.elem ht (List.mem_map.2 ⟨i, List.mem_range.2 hi, rfl⟩)
      obtain ⟨_, r1, r2, r3, r4, r5, r6⟩ := hrow i (by omega)
      cases hA : A i with
      | none => have := r5 hA; omega
      | some a' =>
        rw [hA] at h1
        have h2 := h1.len he
        rw [bq] at h2
        simp only [lits, List.length_map, List.length_take, List.length_drop] at h2
        unfold reachBytes at h2
        omega
    simp only [List.length_map, List.length_range] at hwt
    rw [hb, show len + (cap - len) = cap from by omega] at hwt
    unfold reachBytes at hwt
    refine ⟨some x, (List.range len).map (fun r => ((Z r).take (L r)).map fun z => UInt8.ofNat z.toNat), cap, by simp, by simpa using hlc, hwt, (fun h => by cases h), (fun x hx => by
      obtain ⟨r, hr, rfl⟩ := List.mem_map.1 hx
      have := hin r (List.mem_range.1 hr)
      simp only [List.length_map, List.length_take]
      omega), (List.range len).map (fun r => .slice (A r) (L r) (C r)), by simp, ?_, ?_⟩
    · intro i hi
      have hi' : i < len := by simpa using hi
      obtain ⟨c0, _⟩ := hrow i (by omega)
      obtain ⟨c00, _⟩ := hrow 0 (by omega)
      obtain ⟨b, off, spot⟩ := x
      have hspot : spot = none := by simpa [Addr.add] using World.cell?_spot c00
      subst hspot
      rw [Go.WideShapes.add_plain] at c0
      exact ⟨b, off, rfl, by rw [c0]; simp⟩
    · intro i hi
      have hi' : i < len := by simpa using hi
      obtain ⟨_, r1, r2, r3, r4, r5, r6⟩ := hrow i (by omega)
      have hlen : (((Z i).take (L i)).map fun z => UInt8.ofNat z.toNat).length = L i := by simp; omega
      refine ⟨A i, C i, ?_, ?_, r2, r5, ?_⟩
      · simp only [List.getElem_map, List.getElem_range, hlen]
        rw [List.getElem?_map, List.getElem?_range hi']; rfl
      · simp only [List.getElem_map, List.getElem_range, hlen]; exact r1
      · simp only [List.getElem_map, List.getElem_range]
        have hwf : ∀ z ∈ (Z i).take (L i), (Lit.int .u8 z).wf = true := fun z hz => r4 z (List.mem_of_mem_take hz)
        unfold Bytes
        rw [← bytesV_of hwf]
        intro j hj
        have hj' : j < L i := by simp at hj; omega
        cases hA : A i with
        | none => have := r5 hA; omega
        | some a' =>
          obtain ⟨_, hcell⟩ := r6 a' hA
          have c0 := hcell 0 (by omega)
          obtain ⟨b, off, spot⟩ := a'
          have hspot : spot = none := by simpa [Addr.add] using World.cell?_spot c0
          subst hspot
          have cj := hcell j (by omega)
          rw [Go.WideShapes.add_plain] at cj
          refine ⟨b, off, rfl, ?_⟩
          rw [cj]
          simp only [List.getElem_map, List.getElem_take]
          rw [List.getD_eq_getElem?_getD, List.getElem?_eq_getElem (by omega)]
          rfl
end
end Go.Proofs.Ytgdefibkemkejaa

/- A pile of a law's own and a list of pointers; what some blocks that are put leave. -/
namespace Go.Proofs.Ytgdefibkemkejaa
open Go.ChangeShapes Go.WideShapes Go.ChangeAt Go.RowKit
set_option linter.unusedVariables false
set_option maxRecDepth 20000

theorem at2Dst (dst : Option Nat) {P : Program} {ops : Array Oper} {rest : List Oper} {o : Oper} {a : Act} {w : World} {Q : Exit → Act → World → Prop} (hd : o.dst = dst) (h : wpList P ops Q (o :: rest) a w) : wpList P ops Q (o :: rest) a w := h

/-- a pile of a law's own, and a list of pointers -/
structure PL (w0 w : World) (g d B : Nat) (F : Nat → Prop) (m : PileM) (v : Value) (qs : List P3) : Prop where
  p : P0 w0 w g d B F m
  own : w.ownsRow w0.heap.size 32 3 v qs.length (rowsL p3L qs)
  ap : ∀ b, v.ownBlock = some b → ¬ F b
namespace PL
variable {w0 w w' : World} {g d B : Nat} {F F' : Nat → Prop} {m m' : PileM} {v v' : Value} {qs : List P3}
theorem lt (h : PL w0 w g d B F m v qs) : ∀ b, v.ownBlock = some b → w0.heap.size ≤ b ∧ b < w.heap.size := World.ownsRow.lt h.own
theorem below (h : PL w0 w g d B F m v qs) (hb : Below w.heap.size w w') : PL w0 w' g d B F m v qs :=
  ⟨h.p.below hb, owns_kept (F := fun _ => False) h.own (Kept.of_below hb _) (fun _ _ => id), h.ap⟩
theorem alloc (h : PL w0 w g d B F m v qs) (o : Obj) : PL w0 (w.alloc o) g d B F m v qs := h.below ((Below.refl _ _).alloc (Nat.le_refl _) o)
theorem drew (h : PL w0 w g d B F m v qs) : PL w0 w.drew g d B F m v qs := ⟨h.p.drew, h.own, h.ap⟩
theorem over {G : Nat → Prop} (h : PL w0 w g d B F m v qs) (k : Kept G w w') (h1 : ∀ i, F i → ¬ G i) (h2 : ∀ b, v.ownBlock = some b → ¬ G b) (h3 : ∀ i, i < w0.heap.size → ¬ G i) : PL w0 w' g d B F m v qs :=
  ⟨h.p.over k h1 h3, owns_kept h.own k h2, h.ap⟩
theorem turn (h : PL w0 w g d B F m v qs) (T : PTurned w g d B F m' w') : ∃ F', PL w0 w' g d B F' m' v qs ∧ Kept F w w' ∧ Grows w.heap.size F F' := by
  obtain ⟨F', h1, h2, h3⟩ := h.p.turn T
  refine ⟨F', ⟨h1, owns_kept h.own h2 h.ap, fun b hb hf => ?_⟩, h2, h3⟩
  rcases h3 b hf with e | e
  · exact h.ap b hb e
  · have := (h.lt b hb).2; omega
theorem push (h : PL w0 w g d B F m v qs) (u : P3) (ho : w'.ownsRow w0.heap.size 32 3 v' (qs.length + 1) (rowsL p3L qs ++ p3L u)) (hg : Grew w w' v v') : PL w0 w' g d B F m v' (qs ++ [u]) := by
  refine ⟨h.p.over (Kept.of_grown (F := fun k => v.ownBlock = some k) hg.1 (fun k hk _ => hk)) (fun i hf e => h.ap i e hf) (fun i hi e => by have := (h.lt i e).1; omega), ?_, ?_⟩
  · rw [rowsL_append, rowsL_one, List.length_append]; exact ho
  · intro b hb hf
    rcases hg.2 with e | ⟨g', e, hl⟩
    · exact h.ap b (by rw [← e]; exact hb) hf
    · rw [e] at hb
      cases hb
      have := h.p.at_.lt _ hf
      omega
theorem first (h : P0 w0 w g d B F m) : PL w0 (w.alloc (.cells #[] 32)) g d B F m (.slice (some ⟨w.heap.size, 0, none⟩) 0 0) [] := by
  refine ⟨h.alloc _, ⟨rfl, .inr ⟨w.heap.size, 0, #[], rfl, h.q.size, heap_alloc_new w _, Nat.le_refl _, Nat.zero_le _, rfl, rfl⟩⟩, fun b hb hf => ?_⟩
  cases hb
  have : w.heap.size < w.heap.size := h.at_.lt _ hf
  omega
/-- the k-th pointer's cells -/
theorem cells (h : PL w0 w g d B F m v qs) {k : Nat} (hk : k < qs.length) : ∃ x cap, v = .slice (some ⟨x, 0, none⟩) qs.length cap ∧ x < w.heap.size ∧ w.cell? ⟨x, k * 3, none⟩ = some (.int .i64 qs[k].a) ∧ w.cell? ⟨x, k * 3 + 1, none⟩ = some (.int .u64 (qs[k].b : Int)) ∧ w.cell? ⟨x, k * 3 + 2, none⟩ = some (.int .u32 (qs[k].s : Int)) := by
  obtain ⟨hl, ⟨_, hn⟩ | ⟨x, cap, cur, rfl, h1, h2, h3, h4, h5, h6⟩⟩ := h.own
  · omega
  have hx : x < w.heap.size := by
    by_cases hb : x < w.heap.size
    · exact hb
    · rw [Array.getElem?_eq_none (by omega)] at h2; simp at h2
  have hat : ∀ j u, (p3L qs[k])[j]? = some u → w.cell? ⟨x, k * 3 + j, none⟩ = some u := fun j u hu => by
    have hr := rowsL_at p3L_length qs k hk j u hu
    rw [cell_of_row w x _ _ _ _ h2]
    have hj : j < 3 := by rw [← p3L_length qs[k]]; exact (List.getElem?_eq_some_iff.1 hu).1
    rw [← h6, List.getElem?_take_of_lt (by omega)] at hr
    simpa using hr
  exact ⟨x, cap, rfl, hx, hat 0 _ rfl, hat 1 _ rfl, hat 2 _ rfl⟩
end PL
/-- an append to the list: blocks of an unlike type beside it are as they were -/
theorem Side.grow {w0 w w' : World} {g d B : Nat} {F : Nat → Prop} {m : PileM} {v v' : Value} {qs : List P3} {lo : Nat} {L : List (Nat × TypeId × List Value)} (h : Side w F lo L) (hL : PL w0 w g d B F m v qs) (hg : Grew w w' v v')
    (ht : ∀ x ∈ L, x.2.1 ≠ 32 := by simp) : Side w' F lo L := fun x hx => by
  have hne := Own.ne_blk hL.own (h x hx).1 (fun e => ht x hx e.symm)
  exact ⟨(h x hx).1.kept (Kept.of_grown (F := fun k => v.ownBlock = some k) hg.1 (fun k hk _ => hk)) hne, (h x hx).2⟩
theorem infoPtr4 : (Try.prog.info? 32).map (fun i => (i.zero, i.size, i.bytes)) = some (some (.agg (p3L p3z).toArray), 3, 24) := by kernel_rfl

/-- what some blocks that were put left -/
structure Puts (m : PileM) (ts : List (List UInt8)) (qs : List P3) : Prop where
  len : qs.length = ts.length
  live : PLive m 64 ts.length
  at_ : ∀ (j : Nat) (b : List UInt8) (q : P3), ts[j]? = some b → qs[j]? = some q → b.length ≤ 128 → ∃ a : Nat, a < 64 ∧ q = ⟨a, 1, sumS (blockS b)⟩ ∧ m.map a = 2 ∧ m.dev.now.getD a sec0 = blockS b
  fit : ∀ q ∈ qs, q.Fit
  free : ∀ a, a < 1024 → m.map a = 1 → a < 64
  cnt : 60 ≤ countN m.map + ts.length
  stamp : m.stamp = 1
theorem p3z_fit : p3z.Fit := ⟨by unfold I64; decide, by decide, by decide⟩
theorem count64 : countN (newS 64) = 60 := by decide +kernel
theorem newS_free {n : Nat} {a : Nat} (h : newS (n : Int) a = 1) : 4 ≤ a ∧ a < n := by
  unfold newS at h
  split at h
  · rename_i hh; omega
  · cases h
theorem Puts.first {b : Nat} : Puts ⟨DevM.fresh 64, newS 64, 1, b⟩ [] [] :=
  ⟨rfl, PLive.first _ _ _ _, fun j b q h => by simp at h, fun q hq => (by cases hq), fun a _ h => (newS_free (n := 64) h).2, by show 60 ≤ countN (newS 64) + 0; rw [count64]; omega, rfl⟩
theorem Puts.step {m : PileM} {ts : List (List UInt8)} {qs : List P3} (h : Puts m ts qs) (hk : ts.length < 60) (b : List UInt8) :
    ∃ m' q, m.put b = (m', q, if b.length ≤ 128 then 0 else 92) ∧ Puts m' (ts ++ [b]) (qs ++ [q]) ∧ q.Fit := by
  have hl := h.len
  have hlen : (qs ++ [p3z]).length = (ts ++ [b]).length := by simp [h.len]
  have hl' : (ts ++ [b]).length = ts.length + 1 := by simp
  by_cases hb : b.length ≤ 128
  · rw [if_pos hb]
    cases hA : allocO m.map with
    | none => have := allocO_none.1 hA; have := h.cnt; omega
    | some i =>
      obtain ⟨i1, i2, _⟩ := allocO_some hA
      have hi := h.free i i1 i2
      obtain ⟨m', h1, h2, h3, h4, h5⟩ := h.live.put_ok hi hb hA
      rw [h.stamp] at h1
      have hf : P3.Fit ⟨(i : Int), 1, sumS (blockS b)⟩ := ⟨by unfold I64; dsimp only; omega, (by show (1 : Nat) < 18446744073709551616; decide), sumS_lt _⟩
      refine ⟨m', _, h1, ⟨by simp [h.len], by rw [hl']; exact h2, fun j b' q e1 e2 hs => ?_, fun q hq => ?_, fun a ha1 ha => ?_, ?_, by rw [h3.stamp, h.stamp]⟩, hf⟩
      · by_cases hj : j < ts.length
        · rw [List.getElem?_append_left hj] at e1
          rw [List.getElem?_append_left (by omega)] at e2
          obtain ⟨a, ha, hq, hm, hn⟩ := h.at_ j b' q e1 e2 hs
          have hai : a ≠ i := fun e => by rw [e, i2] at hm; cases hm
          refine ⟨a, ha, hq, by rw [h4, upd_other _ _ hai]; exact hm, ?_⟩
          rw [h5, get_set _ _ _ _ (by rw [now_len h.live]; exact hi), if_neg hai]
          exact hn
        · have hj' : j = ts.length := by
            have := (List.getElem?_eq_some_iff.1 e1).1
            rw [hl'] at this
            omega
          subst hj'
          rw [List.getElem?_append_right (Nat.le_refl _), Nat.sub_self] at e1
          rw [List.getElem?_append_right (by omega), hl, Nat.sub_self] at e2
          cases e1
          cases e2
          exact ⟨i, hi, rfl, by rw [h4, upd_same], by rw [h5, get_set _ _ _ _ (by rw [now_len h.live]; exact hi), if_pos rfl]⟩
      · rcases List.mem_append.1 hq with hq | hq
        · exact h.fit q hq
        · simp only [List.mem_singleton] at hq; subst hq; exact hf
      · rw [h4] at ha
        unfold upd at ha
        split at ha
        · cases ha
        · exact h.free a ha1 ha
      · have hc := h.cnt
        have := count_take (v := 2) i1 i2 (by decide)
        rw [h4, hl']
        omega
  · rw [if_neg hb]
    refine ⟨m, p3z, PLive.put_big hb, ⟨hlen, by rw [hl']; exact h.live.more (by omega), fun j b' q e1 e2 hs => ?_, fun q hq => ?_, h.free, by rw [hl']; have := h.cnt; omega, h.stamp⟩, p3z_fit⟩
    · by_cases hj : j < ts.length
      · rw [List.getElem?_append_left hj] at e1
        rw [List.getElem?_append_left (by omega)] at e2
        exact h.at_ j b' q e1 e2 hs
      · have hj' : j = ts.length := by
          have := (List.getElem?_eq_some_iff.1 e1).1
          rw [hl'] at this
          omega
        subst hj'
        rw [List.getElem?_append_right (Nat.le_refl _), Nat.sub_self] at e1
        cases e1
        exact absurd hs hb
    · rcases List.mem_append.1 hq with hq | hq
      · exact h.fit q hq
      · simp only [List.mem_singleton] at hq; subst hq; exact p3z_fit
end Go.Proofs.Ytgdefibkemkejaa

/- What is had of blocks that were put, one sector overwritten. -/
namespace Go.Proofs.Ytgdefibkemkejaa
open Go.ChangeShapes Go.WideShapes Go.ChangeAt Go.RowKit
set_option linter.unusedVariables false
set_option maxRecDepth 20000

/-- a new block is made and filled -/
theorem PL.fresh {w0 w w' : World} {g d B : Nat} {F : Nat → Prop} {m : PileM} {v : Value} {qs : List P3} {o : Obj} (h : PL w0 w g d B F m v qs) (k : Kept (· = w.heap.size) (w.alloc o) w') : PL w0 w' g d B F m v qs :=
  (h.alloc o).over k (fun i hi e => by have := h.p.at_.lt i hi; omega) (fun b hb e => by have := (h.lt b hb).2; omega) (fun i hi e => by have := h.p.q.size; omega)
theorem Side.fresh {w w' : World} {F : Nat → Prop} {lo : Nat} {L : List (Nat × TypeId × List Value)} {o : Obj} {t : TypeId} {cs : List Value} (h : Side w F lo L) (hF : ∀ k, F k → k < w.heap.size) (hlo : lo ≤ w.heap.size) (k : Kept (· = w.heap.size) (w.alloc o) w') (hb : Blk w' w.heap.size t cs) : Side w' F lo ((w.heap.size, t, cs) :: L) := fun x hx => by
  rcases List.mem_cons.1 hx with rfl | hx
  · exact ⟨hb, fun hf => by have := hF _ hf; dsimp only at this; omega, hlo⟩
  · have h1 := h x hx
    have hlt := h1.1.lt
    exact ⟨(h1.1.alloc o).kept k (by omega), h1.2⟩

theorem PLive.get_keep {m : PileM} {n k : Nat} (h : PLive m n k) (q : P3) : PLive (m.get q).1 n k ∧ (m.get q).1.dev.now = m.dev.now ∧ (m.get q).1.map = m.map ∧ PSame m (m.get q).1 := by
  unfold PileM.get
  split
  · exact ⟨h, rfl, rfl, rfl, rfl⟩
  · exact ⟨⟨h.len, h.dead, h.left, h.pend⟩, rfl, rfl, rfl, rfl⟩

theorem Puts.reads {m m' : PileM} {ts : List (List UInt8)} {qs : List P3} (h : Puts m ts qs) {z : Int} {R : Sec} {k : Nat} (hl : PLive m' 64 k) (hN : m'.dev.now = (m.dev.rot z R).1.now) {j : Nat} {t : List UInt8} {q : P3}
    (e1 : ts[j]? = some t) (e2 : qs[j]? = some q) (hs : t.length ≤ 128) :
    ∃ s e, (m'.get q).2 = (s, e) ∧ ((q.a ≠ z ∧ e = 0 ∧ s = blockS t) ∨ (q.a = z ∧ e = 0 ∧ s = R) ∨ (q.a = z ∧ e = 91 ∧ s = sec0)) := by
  obtain ⟨a, ha, rfl, hm, hn⟩ := h.at_ j t q e1 e2 hs
  obtain ⟨m2, h1, _⟩ := hl.get_ok (i := a) (b := 1) (s := sumS (blockS t)) ha (hole_birth (by decide))
  rw [hN, (h.live.rot z R).2] at h1
  by_cases hz : (a : Int) = z
  · subst hz
    have hg : (if 0 ≤ (a : Int) ∧ (a : Int) < (64 : Nat) then m.dev.now.set (a : Int).toNat R else m.dev.now).getD a sec0 = R := by
      rw [if_pos ⟨by omega, by omega⟩, get_set _ _ _ _ (by rw [now_len h.live]; omega), if_pos (by omega)]
    rw [hg] at h1
    by_cases hr : sumS R = sumS (blockS t)
    · rw [if_pos hr] at h1
      exact ⟨_, _, by rw [h1], .inr (.inl ⟨rfl, rfl, rfl⟩)⟩
    · rw [if_neg hr] at h1
      exact ⟨_, _, by rw [h1], .inr (.inr ⟨rfl, rfl, rfl⟩)⟩
  · have hg : (if 0 ≤ z ∧ z < (64 : Nat) then m.dev.now.set z.toNat R else m.dev.now).getD a sec0 = blockS t := by
      split
      · rename_i h0
        rw [get_set _ _ _ _ (by rw [now_len h.live]; omega), if_neg (by omega)]
        exact hn
      · exact hn
    rw [hg, if_pos rfl] at h1
    exact ⟨_, _, by rw [h1], .inl ⟨hz, rfl, rfl⟩⟩
end Go.Proofs.Ytgdefibkemkejaa

/- What counts isn't overwritten: a map of which some are taken, some wait. -/
namespace Go.Proofs.Ytgdefibkemkejaa
open Go.ChangeShapes Go.WideShapes Go.ChangeAt Go.RowKit
set_option linter.unusedVariables false
set_option maxRecDepth 20000

/-- of a map of 64: these wait, these are taken -/
def mapV (A3 A2 : List Nat) (a : Nat) : Nat := if a ∈ A3 then 3 else if a ∈ A2 then 2 else newS 64 a
theorem newS_one (a : Nat) : newS 64 a = 0 ∨ newS 64 a = 1 := by
  unfold newS; split
  · exact .inr rfl
  · exact .inl rfl
structure Lv (m : PileM) (A3 A2 : List Nat) (k st b : Nat) : Prop where
  live : PLive m 64 k
  map : ∀ a, a < 1024 → m.map a = mapV A3 A2 a
  cnt : countN m.map + A2.length = 60
  stamp : m.stamp = st
  base : m.base = b
  nd : A2.Nodup
  one : ∀ a ∈ A2, newS 64 a = 1
namespace Lv
variable {m : PileM} {A3 A : List Nat} {k st b : Nat}
theorem first : Lv ⟨DevM.fresh 64, newS 64, 1, 0⟩ [] [] 0 1 0 :=
  ⟨PLive.first _ _ _ _, fun a _ => by simp [mapV], by show countN (newS 64) + 0 = 60; rw [count64], rfl, rfl, List.nodup_nil, fun a h => by cases h⟩
/-- a free one is in neither -/
theorem free (h : Lv m A3 A k st b) {i : Nat} (hi : i < 1024) (hf : m.map i = 1) : i ∉ A ∧ i ∉ A3 ∧ newS 64 i = 1 := by
  have h1 := h.map i hi
  rw [hf] at h1
  unfold mapV at h1
  split at h1
  · cases h1
  · split at h1
    · cases h1
    · rename_i h2 h3; exact ⟨h3, h2, h1.symm⟩
theorem put (h : Lv m [] A k st b) (hA : A.length < 60) {bs : List UInt8} (hb : bs.length ≤ 128) : ∃ m' i s, m.put bs = (m', ⟨((i : Nat) : Int), st, s⟩, 0) ∧ s < 4294967296 ∧ i < 64 ∧ Lv m' [] (A ++ [i]) (k + 1) st b := by
  cases hO : allocO m.map with
  | none => have := allocO_none.1 hO; have := h.cnt; omega
  | some i =>
    obtain ⟨i1, i2, _⟩ := allocO_some hO
    obtain ⟨n1, _, n3⟩ := h.free i1 i2
    have hi := (newS_free (n := 64) n3).2
    obtain ⟨m', h1, h2, h3, h4, h5⟩ := h.live.put_ok hi hb hO
    rw [h.stamp] at h1
    refine ⟨m', i, _, h1, sumS_lt _, hi, h2, fun a ha => ?_, ?_, by rw [h3.stamp, h.stamp], by rw [h3.base, h.base], ?_, ?_⟩
    · rw [h4]
      by_cases e : a = i
      · subst e; rw [upd_same]; simp [mapV]
      · rw [upd_other _ _ e, h.map a ha]; simp [mapV, e]
    · have := count_take (v := 2) i1 i2 (by decide)
      have := h.cnt
      rw [h4, List.length_append, List.length_singleton]
      omega
    · rw [List.nodup_append]
      exact ⟨h.nd, (by simp), fun x hx y hy e => by simp only [List.mem_singleton] at hy; subst hy; subst e; exact n1 hx⟩
    · intro a ha
      rcases List.mem_append.1 ha with ha | ha
      · exact h.one a ha
      · simp only [List.mem_singleton] at ha; subst ha; exact n3
theorem commit1 (h : Lv m [] A k 1 0) : Lv m.commit [] A k 2 1 := by
  have hm : ∀ a, a < 1024 → commitF m.map a = m.map a := fun a ha => by
    unfold commitF
    rw [if_neg]
    rw [h.map a ha]
    unfold mapV
    simp only [List.not_mem_nil, if_false]
    split
    · decide
    · rcases newS_one a with e | e <;> rw [e] <;> decide
  refine ⟨⟨h.live.len, h.live.dead, h.live.left, h.live.pend⟩, fun a ha => by show commitF m.map a = _; rw [hm a ha]; exact h.map a ha, ?_, by show m.stamp + 1 = 2; rw [h.stamp], h.stamp, h.nd, h.one⟩
  show countN (commitF m.map) + _ = 60
  rw [count_same (g := m.map) fun j hj => by rw [hm j hj]]
  exact h.cnt
theorem drop_yes (h : Lv m A3 A k st b) {a : Nat} (ha : a ∈ A) (h3 : a ∉ A3) {q : P3} (q1 : q.a = (a : Int)) (q2 : q.b ≠ 0) (q3 : ¬ b < q.b) : ∃ m', m.drop q = (m', 0) ∧ Lv m' (A3 ++ [a]) A k st b := by
  have h64 := (newS_free (n := 64) (h.one a ha)).2
  have hma : m.map a = 2 := by rw [h.map a (by omega)]; simp [mapV, h3, ha]
  have hc : canTurn m.map (a : Int) 2 = true := by rw [canTurn_nat _ (by omega), hma]; rfl
  refine ⟨{ m with map := upd m.map a 3 }, ?_, ⟨h.live.len, h.live.dead, h.live.left, h.live.pend⟩, fun x hx => ?_, ?_, h.stamp, h.base, h.nd, h.one⟩
  · obtain ⟨qa, qb, qs⟩ := q
    dsimp only at q1 q2 q3
    subst q1
    rw [drop_not (hole_birth q2), h.base, if_neg q3]
    unfold turnF turnE
    rw [if_pos hc, if_pos hc]
    rfl
  · show upd m.map a 3 x = _
    by_cases e : x = a
    · subst e; rw [upd_same]; simp [mapV]
    · rw [upd_other _ _ e, h.map x hx]; simp [mapV, e]
  · show countN (upd m.map a 3) + _ = 60
    rw [count_same (g := m.map) fun j hj => by
      by_cases e : j = a
      · subst e; rw [upd_same, hma]; rfl
      · rw [upd_other _ _ e]]
    exact h.cnt
theorem drop_no (h : Lv m A3 A k st b) {a : Nat} (h0 : a < 1024) (h3 : a ∈ A3) {q : P3} (q1 : q.a = (a : Int)) (q2 : q.b ≠ 0) : ∃ m', m.drop q = (m', 72) ∧ Lv m' A3 A k st b := by
  have hc : ∀ f : Nat → Nat, f = m.map → canTurn f (a : Int) 2 = false := fun f e => by
    rw [e, canTurn_nat _ h0, h.map a h0]; simp [mapV, h3]
  obtain ⟨qa, qb, qs⟩ := q
  dsimp only at q1 q2
  subst q1
  refine ⟨m, ?_, h⟩
  rw [drop_not (hole_birth q2)]
  unfold turnF turnE
  rw [hc _ rfl, if_neg (by decide), if_neg (by decide)]
theorem put3 (h : Lv m A A k 2 1) (hA : A.length < 60) {bs : List UInt8} (hb : bs.length ≤ 128) :
    ∃ m' m'' i s, m.put bs = (m', ⟨((i : Nat) : Int), 2, s⟩, 0) ∧ s < 4294967296 ∧ i < 64 ∧ i ∉ A ∧ m'.drop ⟨((i : Nat) : Int), 2, s⟩ = (m'', 0) ∧ Lv m'' A A (k + 1) 2 1 := by
  cases hO : allocO m.map with
  | none => have := allocO_none.1 hO; have := h.cnt; omega
  | some i =>
    obtain ⟨i1, i2, _⟩ := allocO_some hO
    obtain ⟨n1, _, n3⟩ := h.free i1 i2
    have hi := (newS_free (n := 64) n3).2
    obtain ⟨m', h1, h2, h3, h4, h5⟩ := h.live.put_ok hi hb hO
    rw [h.stamp] at h1
    have hc : canTurn m'.map (i : Int) 2 = true := by rw [canTurn_nat _ i1, h4, upd_same]; rfl
    have hback : ∀ a, upd m'.map i 1 a = m.map a := fun a => by
      rw [h4]
      by_cases e : a = i
      · subst e; rw [upd_same, i2]
      · rw [upd_other _ _ e, upd_other _ _ e]
    refine ⟨m', { m' with map := upd m'.map i 1 }, i, _, h1, sumS_lt _, hi, n1, ?_, ⟨h2.len, h2.dead, h2.left, h2.pend⟩, fun a ha => by show upd m'.map i 1 a = _; rw [hback]; exact h.map a ha, ?_, by show m'.stamp = 2; rw [h3.stamp, h.stamp], by show m'.base = 1; rw [h3.base, h.base], h.nd, h.one⟩
    · rw [drop_not (hole_birth (by decide)), h3.base, h.base, if_pos (show (1 : Nat) < 2 from by decide)]
      unfold turnF turnE
      rw [if_pos hc, if_pos hc]
      rfl
    · show countN (upd m'.map i 1) + _ = 60
      rw [count_same (g := m.map) fun j hj => by rw [hback]]
      exact h.cnt
theorem commit2 (h : Lv m A A k 2 1) : countN m.commit.map = 60 ∧ m.commit.base = 2 ∧ m.commit.stamp = 3 := by
  refine ⟨?_, h.stamp, by show m.stamp + 1 = 3; rw [h.stamp]⟩
  show countN (commitF m.map) = 60
  rw [count_same (g := newS 64) fun j hj => ?_, count64]
  have h1 := h.map j hj
  unfold commitF
  by_cases hA : j ∈ A
  · rw [if_pos (by rw [h1]; simp [mapV, hA]), h.one j hA]
  · have h2 : m.map j = newS 64 j := by rw [h1]; simp [mapV, hA]
    rw [h2]
    rcases newS_one j with e | e <;> rw [e] <;> rfl
end Lv
/-- the pointers of these sectors, born with this stamp -/
structure QA (qs : List P3) (A : List Nat) (st : Nat) : Prop where
  len : qs.length = A.length
  at_ : ∀ (j : Nat) (q : P3) (a : Nat), qs[j]? = some q → A[j]? = some a → q.a = (a : Int) ∧ q.b = st ∧ q.s < 4294967296
theorem QA.nil (st : Nat) : QA [] [] st := ⟨rfl, fun j q a h => by simp at h⟩
theorem QA.push {qs : List P3} {A : List Nat} {st i s : Nat} (h : QA qs A st) (hs : s < 4294967296) : QA (qs ++ [⟨(i : Int), st, s⟩]) (A ++ [i]) st := by
  refine ⟨by simp [h.len], fun j q a e1 e2 => ?_⟩
  by_cases hj : j < qs.length
  · rw [List.getElem?_append_left hj] at e1
    rw [List.getElem?_append_left (by rw [← h.len]; exact hj)] at e2
    exact h.at_ j q a e1 e2
  · have hj' : j = qs.length := by
      have := (List.getElem?_eq_some_iff.1 e1).1
      simp at this
      omega
    subst hj'
    rw [List.getElem?_append_right (Nat.le_refl _), Nat.sub_self] at e1
    rw [List.getElem?_append_right (by rw [h.len]; exact Nat.le_refl _), h.len, Nat.sub_self] at e2
    cases e1
    cases e2
    exact ⟨rfl, rfl, hs⟩
theorem not_before {A : List Nat} (h : A.Nodup) {j a : Nat} (hj : A[j]? = some a) : a ∉ A.take j := by
  obtain ⟨h1, h2⟩ := List.getElem?_eq_some_iff.1 hj
  rw [← List.take_append_drop j A, List.nodup_append] at h
  intro hm
  exact h.2.2 a hm a (by rw [List.drop_eq_getElem_cons h1, h2]; exact .head _) rfl
theorem take_more {A : List Nat} {j a : Nat} (hj : A[j]? = some a) : A.take (j + 1) = A.take j ++ [a] := by
  rw [List.take_add_one, hj]; rfl
end Go.Proofs.Ytgdefibkemkejaa

/- Blocks that are put lie in unlike sectors: which are taken, as an array of bools. -/
namespace Go.Proofs.Ytgdefibkemkejaa
open Go.ChangeShapes Go.WideShapes Go.ChangeAt Go.RowKit
set_option linter.unusedVariables false
set_option maxRecDepth 20000

def inL (f : Nat → Bool) : List Value := (List.range 64).map fun a => Value.bool (f a)
theorem inL_length (f : Nat → Bool) : (inL f).length = 64 := by simp [inL]
theorem inL_one (f : Nat → Bool) : ∀ v ∈ inL f, v.oneCell' = true := by
  intro v hv
  simp only [inL, List.mem_map] at hv
  obtain ⟨i, _, rfl⟩ := hv
  rfl
theorem inL_get (f : Nat → Bool) {i : Nat} (h : i < 64) : (inL f)[i]? = some (.bool (f i)) := by simp [inL, h]
def updB (f : Nat → Bool) (i : Nat) : Nat → Bool := fun j => if j = i then true else f j
theorem inL_set (f : Nat → Bool) (i : Nat) : (inL f).set i (.bool true) = inL (updB f i) := by
  apply List.ext_getElem?
  intro k
  rw [List.getElem?_set]
  by_cases hk : k < 64
  · rw [inL_get _ hk, inL_get _ hk]
    by_cases e : i = k
    · subst e; simp [inL_length, hk, updB]
    · have : ¬ k = i := fun h => e h.symm
      simp [e, updB, this]
  · rw [List.getElem?_eq_none (by rw [inL_length]; omega), List.getElem?_eq_none (by rw [inL_length]; omega)]
    split <;> simp_all [inL_length]
def inN : Nat → Bool := fun _ => false
theorem built_in : Try.prog.built 36 [] = some (inL inN).toArray := by kernel_rfl
theorem zeroIn (w : World) : Sem.run Try.prog (zeroValue 36) w = .ok (.agg (inL inN).toArray) w := by kernel_rfl
theorem infoIn (f : Nat → Bool) : (Try.prog.info? 36).map (·.size) = some (inL f).length := by rw [inL_length]; kernel_rfl
theorem rangeBelow {w w' : World} {g o : Nat} {cs : List Value} (h : w.rangeAt g o cs) (hb : Below w.heap.size w w') : w'.rangeAt g o cs := fun j v hv => keepCell hb (h j v hv)

/-- where the puts of a law stand: which are taken, how many -/
structure Pt (m : PileM) (f : Nat → Bool) (many k : Nat) : Prop where
  live : PLive m 64 k
  free : ∀ a, a < 1024 → m.map a = 1 → a < 64
  took : ∀ a, a < 64 → f a = (m.map a == 2)
  cnt : countN m.map + many = 60
  le : many ≤ k
  stamp : m.stamp = 1
namespace Pt
variable {m : PileM} {f : Nat → Bool} {many k : Nat}
theorem first : Pt ⟨DevM.fresh 64, newS 64, 1, 0⟩ inN 0 0 :=
  ⟨PLive.first _ _ _ _, fun a _ h => (newS_free (n := 64) h).2, fun a ha => by rcases newS_one a with e | e <;> (show false = _; simp [e]), by show countN (newS 64) + 0 = 60; rw [count64], Nat.le_refl _, rfl⟩
theorem more (h : Pt m f many k) : Pt m f many (k + 1) := ⟨h.live.more (by omega), h.free, h.took, h.cnt, by have := h.le; omega, h.stamp⟩
theorem put_full (h : Pt m f many k) {bs : List UInt8} (hb : bs.length ≤ 128) (hm : many = 60) : m.put bs = (m, p3z, 71) :=
  PLive.put_none hb (allocO_none.2 (by have := h.cnt; omega))
theorem put_ok (h : Pt m f many k) {bs : List UInt8} (hb : bs.length ≤ 128) (hm : many ≠ 60) :
    ∃ m' m'' i, m.put bs = (m', ⟨((i : Nat) : Int), 1, sumS (blockS bs)⟩, 0) ∧ i < 64 ∧ f i = false ∧ m'.get ⟨((i : Nat) : Int), 1, sumS (blockS bs)⟩ = (m'', blockS bs, 0) ∧ Pt m'' (updB f i) (many + 1) (k + 1) := by
  cases hO : allocO m.map with
  | none => have := allocO_none.1 hO; have := h.cnt; omega
  | some i =>
    obtain ⟨i1, i2, _⟩ := allocO_some hO
    have hi := h.free i i1 i2
    obtain ⟨m', h1, h2, h3, h4, h5⟩ := h.live.put_ok hi hb hO
    rw [h.stamp] at h1
    have hN : m'.dev.now.getD i sec0 = blockS bs := by rw [h5, get_set _ _ _ _ (by rw [now_len h.live]; exact hi), if_pos rfl]
    obtain ⟨m'', g1, g2, g3, g4, g5⟩ := h2.get_ok (i := i) (b := 1) (s := sumS (blockS bs)) hi (hole_birth (by decide))
    rw [hN, if_pos rfl] at g1
    refine ⟨m', m'', i, h1, hi, by rw [h.took i hi, i2]; rfl, g1, g2, fun a ha1 ha => ?_, fun a ha => ?_, ?_, by have := h.le; omega, by rw [g3.stamp, h3.stamp, h.stamp]⟩
    · rw [g4, h4] at ha
      unfold upd at ha
      split at ha
      · cases ha
      · exact h.free a ha1 ha
    · rw [g4, h4]
      unfold updB upd
      split
      · rfl
      · exact h.took a ha
    · have := count_take (v := 2) i1 i2 (by decide)
      have := h.cnt
      rw [g4, h4]
      omega
theorem putAt_no (h : Pt m f many k) {i : Nat} (hi : i < 64) (hf : f i = false) {bs : List UInt8} (hb : bs.length ≤ 128) : m.putAt (i : Int) bs = (m, p3z, 72) := by
  have h1 := h.took i hi
  unfold PileM.putAt
  rw [if_pos hb, if_neg]
  rw [canTurn_nat _ (by omega), ← h1, hf]
  decide
theorem putAt_yes (h : Pt m f many k) {i : Nat} (hi : i < 64) (hf : f i = true) {bs : List UInt8} (hb : bs.length ≤ 128) :
    ∃ m' m'', m.putAt (i : Int) bs = (m', ⟨(i : Int), 1, sumS (blockS bs)⟩, 0) ∧ m'.get ⟨(i : Int), 1, sumS (blockS bs)⟩ = (m'', blockS bs, 0) := by
  have h1 := h.took i hi
  obtain ⟨m', p1, p2, p3, p4, p5⟩ := h.live.putAt_ok hi hb (by rw [canTurn_nat _ (by omega), ← h1, hf])
  rw [h.stamp] at p1
  have hN : m'.dev.now.getD i sec0 = blockS bs := by rw [p5, get_set _ _ _ _ (by rw [now_len h.live]; exact hi), if_pos rfl]
  obtain ⟨m'', g1, _⟩ := p2.get_ok (i := i) (b := 1) (s := sumS (blockS bs)) hi (hole_birth (by decide))
  rw [hN, if_pos rfl] at g1
  exact ⟨m', m'', p1, g1⟩
end Pt
def xS : Sec := blockS [120]
theorem built_x : Try.prog.built 23 [(0, .int .u8 120)] = some (secL xS).toArray := by kernel_rfl
end Go.Proofs.Ytgdefibkemkejaa
